/-
  CONTRACT OF LAYER 2: Turn.
-/
import Derived.Test.YtnhphkiklfajnaaFb
namespace Go.Proofs.Ytnhphkiklfajnaa
open Go.RowKit

def revTo (l : List Nat) (k : Nat) : List Nat := List.replicate (l.length - k) 0 ++ (l.take k).reverse
theorem revTo_length (l : List Nat) (k : Nat) (hk : k ≤ l.length) : (revTo l k).length = l.length := by simp [revTo]; omega
theorem revTo_all (l : List Nat) : revTo l l.length = l.reverse := by simp [revTo]
theorem revTo_step (l : List Nat) (k : Nat) (hk : k < l.length) : (revTo l k).set (l.length - 1 - k) (l[k]?.getD 0) = revTo l (k + 1) := by
  have e : l.length - k = (l.length - (k + 1)) + 1 := by omega
  have e2 : l.length - 1 - k = l.length - (k + 1) := by omega
  unfold revTo
  rw [e, List.replicate_succ', List.append_assoc, e2, List.set_append_right _ _ (by simp), List.length_replicate, Nat.sub_self, List.singleton_append, List.set_cons_zero,
    List.take_succ_eq_append_getElem hk, List.reverse_append]
  simp [hk]
theorem bl_set (l : List Nat) (j x : Nat) : (bl l).set j (.int .u8 (x : Int)) = bl (l.set j x) := by simp [bl, List.map_set]

def TurnRel (B : Nat) (l : List Nat) (w : World) (i : Value) (wr : World) : Prop :=
  ∃ k : Nat, k ≤ l.length ∧ i = .int .i64 k ∧ wr.ownsRow B 5 1 (.slice (some ⟨B, 0, none⟩) l.length l.length) l.length (bl (revTo l k)) ∧ Below B w wr
def TurnPost (l : List Nat) (w : World) (e : Ending) (w' : World) : Prop :=
  ∃ v, e = .returned v ∧ w'.ownsRow w.heap.size 5 1 v l.length (bl l.reverse) ∧ v ≠ .slice none 0 0 ∧ Below w.heap.size w w'

set_option maxRecDepth 100000 in
theorem turn_any (v : Value) (l : List Nat) (w : World) (hB : BytesAt w v l) (hl : l.length ≤ 140737488351232) : Calls Try.prog 30 #[v] w (TurnPost l w) := by
  obtain ⟨i0, hi, hz0, hz1, hz2⟩ := info_parts Try.info5b
  obtain ⟨a, cap, rfl, hcap, hcase⟩ := hB
  go_enter Try.func30, Try.ntmps30
  go_wp2_with (first
    | (at_make; go_must (refine wpList_make_full _ rfl _ _ 23 rfl w.heap.size 5 i0 (.int .u8 0) 1 Try.underlying23 hi hz0 hz1 .i64 .i64 _ _ l.length rfl rfl rfl rfl (by rw [hz2]; omega) (by unfold maxLen; omega) (Nat.le_refl _) ?_); intro w0 hown0 hgrow0))
  have hz : bl (revTo l 0) = (madeCells (Value.cells (.int .u8 0)) (l.length * 1)).toList := by
    rw [show Value.cells (.int .u8 0) = #[.int .u8 0] from rfl, toList_madeCells_one]; simp [revTo, bl]
  have HZ := Lib.hid hz
  clear hz
  go_loopw [10] (fun i wr => TurnRel w.heap.size l w i wr) (fun i _ => l.length - (intOf i).toNat)
  case atStart => exact ⟨0, by omega, rfl, by rw [HZ.out]; exact hown0, (Below.refl _ _).grown hgrow0 (Nat.le_refl _) (fun k h => by cases h)⟩
  case round =>
    obtain ⟨k, hk, rfl, hown, hnx⟩ := hrel
    clear HZ hown0 hgrow0
    by_cases hlt : k < l.length
    · rcases hcase with rfl | ⟨b, o, rfl, hb, hcell⟩
      · simp at hlt
      have hc := hcell k hlt
      have hc1 : wr.cell? ⟨b, o + k, none⟩ = some (.int .u8 ((l[k]?.getD 0 : Nat) : Int)) := by rw [hnx.cell (by simpa using hb)]; simpa using hc
      have hs1 : wr.cell? ⟨w.heap.size, l.length - 1 - k, none⟩ = some (.int .u8 (((revTo l k)[l.length - 1 - k]?.getD 0 : Nat) : Int)) := by
        rw [hown.cellAt _ (by omega)]
        have := revTo_length l k hk
        simp [bl, List.getElem?_eq_getElem (show l.length - 1 - k < (revTo l k).length by omega)]
      have hf1 : wr.frozen? ⟨w.heap.size, l.length - 1 - k, none⟩ = false := hown.frozenAt _
      have HO := Lib.hid hown
      clear hcell hc hown
      go_wp2
      go_roundw
      case rel =>
        have hst := HO.out.stored (l.length - 1 - k) (.int .u8 ((l[k]?.getD 0 : Nat) : Int))
        rw [bl_set, revTo_step l k hlt, show l[k]?.getD 0 = l[k] from by simp [hlt]] at hst
        exact ⟨k + 1, by omega, by go_num, hst.1, hnx.setCell (Nat.le_refl _) _⟩
      case measure => simp [intOf]; omega
    · go_wp2
      go_ret
      have : k = l.length := by omega
      subst this
      rw [revTo_all] at hown
      exact ⟨_, rfl, hown, by simp, hnx⟩
end Go.Proofs.Ytnhphkiklfajnaa
