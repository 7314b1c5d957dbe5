/-
  LAYER 15: the law's own: are two lists of numbers one? what was put is told again.
-/
import Derived.Test.YtkohlbafpljfjaaSi
namespace Go.Proofs.Ytkohlbafpljfjaa
open Go.RowKit

set_option maxHeartbeats 1000000 in
set_option maxRecDepth 100000 in
theorem ints_eq (v1 v2 : Value) (l : List Int) (w : World) (h1 : IntsAt w v1 l) (h2 : IntsAt w v2 l) : Calls Try.prog 19 #[v1, v2] w (Yes w) := by
  obtain ⟨a1, p1, rfl, hlen, hc1⟩ := h1
  obtain ⟨a2, p2, rfl, -, hc2⟩ := h2
  replace hc1 := Lib.hid hc1
  replace hc2 := Lib.hid hc2
  have hlen' : (l.length : Int) ≤ 9223372036854775807 := by omega
  go_enter Try.func19, Try.ntmps19
  go_wp2
  go_loopw [5] (fun i wr => ∃ k : Nat, i = .int .i64 k ∧ k ≤ l.length ∧ Below w.heap.size w wr) (fun i _ => l.length - (intOf i).toNat)
  case atStart => exact ⟨0, rfl, by omega, Below.refl _ _⟩
  case round =>
    obtain ⟨k, rfl, hk, hb⟩ := hrel
    replace hb := Lib.hid hb
    by_cases hend : k = l.length
    · subst hend
      go_wp2
      go_ret
      exact ⟨rfl, hb.out⟩
    have klt' : k < l.length := by omega
    obtain ⟨b1, o1, rfl, hbl1, c1⟩ := int_at klt' hb.out hc1.out
    obtain ⟨b2, o2, rfl, hbl2, c2⟩ := int_at klt' hb.out hc2.out
    have klt : (k : Int) < (l.length : Int) := by omega
    generalize l.getD k 0 = x at *
    go_wp2_with fail
    go_quiet (fail)
    go_wp2_with fail
    go_roundw
    case rel => exact ⟨k + 1, by simp, by omega, below_drewN hb.out _⟩
    case measure => simp [intOf]; omega
theorem txtL_strB {L : List Nat} (h : ∀ x ∈ L, x < 256) : txtL (strB L) = L := by
  unfold txtL strB
  simp only [List.map_map]
  conv => rhs; rw [← List.map_id L]
  apply List.map_congr_left
  intro x hx
  have := h x hx
  simp; omega
/-- What was put is told again. -/
theorem ack_back {id : Int} {l : List Int} (h : ackE id l = 0) : ofAckV (txtL (strB (ackL id l))) = (id, l, 0) ∧ (strB (ackL id l)).size ≤ 10 := by
  have hB : beginE id l.length = 0 := by
    unfold ackE at h
    by_cases hB : beginE id l.length ≠ 0
    · rw [if_pos hB] at h; exact absurd h hB
    · exact Decidable.not_not.1 hB
  obtain ⟨h8, h0, h1, h2⟩ := begin_zero (by omega) hB
  have hall : ∀ c ∈ l, codeB c = true := by
    unfold ackE at h
    rw [if_neg (by simpa using hB)] at h
    by_cases ha : l.all codeB = true
    · exact List.all_eq_true.1 ha
    · rw [if_neg ha] at h; cases h
  have eL : ackL id l = [(id / 256).toNat, (id % 256).toNat] ++ l.map Int.toNat := by unfold ackL; rw [if_pos h]
  have hlt : ∀ x ∈ ackL id l, x < 256 := by
    rw [eL]; intro x hx
    simp only [List.cons_append, List.nil_append, List.mem_cons, List.mem_map] at hx
    rcases hx with rfl | rfl | ⟨c, hc, rfl⟩
    · omega
    · omega
    · have := codeB_lo (hall c hc); omega
  rw [strB_size, txtL_strB hlt, eL]
  have hlen : ([(id / 256).toNat, (id % 256).toNat] ++ l.map Int.toNat).length = 2 + l.length := by simp; omega
  refine ⟨?_, by rw [hlen]; omega⟩
  have hnum : numV ([(id / 256).toNat, (id % 256).toNat] ++ l.map Int.toNat) = (id, 0) := by
    unfold numV
    rw [if_neg (by rw [hlen]; omega)]
    have g0 : ([(id / 256).toNat, (id % 256).toNat] ++ l.map Int.toNat).getD 0 0 = (id / 256).toNat := rfl
    have g1 : ([(id / 256).toNat, (id % 256).toNat] ++ l.map Int.toNat).getD 1 0 = (id % 256).toNat := rfl
    rw [g0, g1, if_neg (by omega)]
    have : ((256 * (id / 256).toNat + (id % 256).toNat : Nat) : Int) = id := by omega
    rw [this]
  have hd : ([(id / 256).toNat, (id % 256).toNat] ++ l.map Int.toNat).drop 2 = l.map Int.toNat := rfl
  unfold ofAckV
  rw [hnum, if_neg (by simp), hlen, if_neg (by omega), if_neg (by omega), hd]
  have hm : ∀ c ∈ l, ((c.toNat : Nat) : Int) = c := fun c hc => by have := codeB_lo (hall c hc); omega
  have ha : (l.map Int.toNat).all (fun c => codeB (c : Nat)) = true := by
    rw [List.all_eq_true]; intro x hx
    obtain ⟨c, hc, rfl⟩ := List.mem_map.1 hx
    rw [hm c hc]; exact hall c hc
  rw [if_pos ha, List.map_map]
  have : l.map ((fun c : Nat => (c : Int)) ∘ Int.toNat) = l := by
    conv => rhs; rw [← List.map_id l]
    exact List.map_congr_left fun c hc => hm c hc
  rw [this]
theorem ack_small (id : Int) (l : List Int) : (strB (ackL id l)).size ≤ 10 := by
  by_cases h : ackE id l = 0
  · exact (ack_back h).2
  · have : ackL id l = [] := by unfold ackL; rw [if_neg h]
    rw [this, strB_size]; simp
end Go.Proofs.Ytkohlbafpljfjaa
