/-
  LAYER 12: there and back, plain.
-/
import Derived.Test.YtceiipcdkonnlaaDoorTn
import Derived.Test.YtceiipcdkonnlaaDoorRg
import Derived.Test.YtceiipcdkonnlaaDoorRp
namespace Go.Proofs.YtceiipcdkonnlaaDoor
open Go.RowKit
set_option linter.unusedVariables false
set_option linter.unusedSimpArgs false
/-- A packet that can be: kind, flags, body. -/
structure Pkt where
  k : Nat
  f : Nat
  b : ByteArray
def Pkt.ok (p : Pkt) : Prop := RightF p.k p.f = 0 ∧ p.b.size ≤ 300
def Pkt.rw (p : Pkt) : Rw := ⟨p.k, p.f, (p.b.size : Nat), p.b⟩
def Pkt.enc (p : Pkt) : List Nat := putB p.k p.f p.b.size ++ nb p.b
def encs (P : List Pkt) : List Nat := P.flatMap Pkt.enc
theorem encs_snoc (P : List Pkt) (p : Pkt) : encs (P ++ [p]) = encs P ++ p.enc := by simp [encs]
theorem hd_enc (p : Pkt) (h : p.ok) (r : List Nat) : hd (p.enc ++ r) = ⟨p.k, p.f, p.b.size, (putB p.k p.f p.b.size).length, 0⟩ := by
  have h1 := getV_mid [] (nb p.b ++ r) p.k p.f p.b.size h.1 (by have := h.2; omega)
  have h2 := getV_hd (p.enc ++ r)
  have e : p.enc ++ r = [] ++ putB p.k p.f p.b.size ++ (nb p.b ++ r) := by simp [Pkt.enc]
  rw [e] at h2 ⊢
  have h3 := h2.symm.trans h1
  unfold HV at h3
  simp only [Value.tuple.injEq, Array.mk.injEq, List.cons.injEq, Value.agg.injEq, Value.int.injEq, true_and, and_true, List.length_nil] at h3
  obtain ⟨⟨a, b, c⟩, d, f⟩ := h3
  generalize hd ([] ++ putB p.k p.f p.b.size ++ (nb p.b ++ r)) = q at *
  obtain ⟨q1, q2, q3, q4, q5⟩ := q
  simp only at a b c d f
  simp only [Hd.mk.injEq]
  omega
theorem enc_len (p : Pkt) : p.enc.length = (putB p.k p.f p.b.size).length + p.b.size := by simp [Pkt.enc, nb_length]
theorem rawW_enc (p : Pkt) (h : p.ok) (r : List Nat) : rawW (p.enc ++ r) = p.rw := by
  unfold rawW Pkt.rw
  rw [hd_enc p h r]
  simp only
  have e : ((p.enc ++ r).drop (putB p.k p.f p.b.size).length).take p.b.size = nb p.b := by
    unfold Pkt.enc
    rw [List.append_assoc, List.drop_left, ← nb_length p.b, List.take_left]
  rw [e, strB_nb]
theorem next_enc (p : Pkt) (h : p.ok) (r : List Nat) (n : Int) : St.next ⟨p.enc ++ r, n, 0⟩ = (⟨r, n + 1, 0⟩, rawV (p.enc ++ r), true, 0) := by
  have h1 := hd_enc p h r
  have hl : ¬ (p.enc ++ r).length < (putB p.k p.f p.b.size).length + p.b.size := by rw [List.length_append, enc_len]; omega
  have hd' : (p.enc ++ r).drop ((putB p.k p.f p.b.size).length + p.b.size) = r := by rw [← enc_len, List.drop_left]
  unfold St.next
  simp only
  rw [h1]
  simp only
  rw [if_neg (by simp), if_neg (by simp), if_neg (by simp), if_neg hl, hd']
theorem allS_enc : ∀ (P : List Pkt) (t : List Nat) (n : Int), (∀ p ∈ P, p.ok) → allS P.length ⟨encs P ++ t, n, 0⟩ = (P.map Pkt.rw, ⟨t, n + P.length, 0⟩, 0)
  | [], t, n, _ => by simp [allS, encs]
  | p :: P, t, n, h => by
    have e : encs (p :: P) ++ t = p.enc ++ (encs P ++ t) := by simp [encs]
    have hn := next_enc p (h p (by simp)) (encs P ++ t) n
    have ih := allS_enc P t (n + 1) (fun q hq => h q (by simp [hq]))
    rw [e, List.length_cons, allS_ok (by rw [hn])]
    rw [hn]
    simp only
    rw [ih, rawW_enc p (h p (by simp))]
    simp only [List.map_cons, Prod.mk.injEq, St.mk.injEq, true_and, and_true]
    push_cast
    omega
theorem encs_len : ∀ P : List Pkt, (∀ p ∈ P, p.ok) → (encs P).length ≤ 303 * P.length
  | [], _ => by simp [encs]
  | p :: P, h => by
    have ih := encs_len P (fun q hq => h q (by simp [hq]))
    have e : encs (p :: P) = p.enc ++ encs P := by simp [encs]
    have := (h p (by simp)).2
    have hp := putB_length p.k p.f p.b.size
    rw [e, List.length_append, enc_len, List.length_cons, hp]
    split <;> omega
theorem encs_lt (P : List Pkt) (h : ∀ p ∈ P, p.ok) : ∀ x ∈ encs P, x < 256 := by
  intro x hx
  unfold encs at hx
  obtain ⟨p, hp, hx⟩ := List.mem_flatMap.1 hx
  unfold Pkt.enc at hx
  have hk := h p hp
  obtain ⟨q1, q2, q3, q4⟩ := right_zero hk.1
  rcases List.mem_append.1 hx with hx | hx
  · exact putB_lt p.k p.f p.b.size (by omega) (by omega) (by have := hk.2; omega) x hx
  · exact nb_lt _ x hx
/-- What Put answers of a head. -/
theorem put_cases (k f : Int) (n : Nat) (hn : n ≤ 300) (w : World) : (∃ K F : Nat, k = K ∧ f = F ∧ RightF K F = 0 ∧ Calls Tryd.prog 19 #[.agg #[.int .i64 k, .int .i64 f, .int .i64 (n : Int)]] w (PPost w.heap.size (putB K F n) w)) ∨
    ∃ E : Int, E ≠ 0 ∧ Calls Tryd.prog 19 #[.agg #[.int .i64 k, .int .i64 f, .int .i64 (n : Int)]] w fun e w' => e = .returned (.tuple #[.slice none 0 0, .int .i64 E]) ∧ Below w.heap.size w w' := by
  by_cases hE : RightF k f = 0
  · left
    obtain ⟨q1, q2, q3, q4⟩ := right_zero hE
    obtain ⟨K, rfl⟩ := Int.eq_ofNat_of_zero_le (show 0 ≤ k by omega)
    obtain ⟨F, rfl⟩ := Int.eq_ofNat_of_zero_le q3
    refine ⟨K, F, rfl, rfl, hE, ?_⟩
    rcases Nat.lt_or_ge n 128 with h | h
    · exact rput_one K F n w hE h
    · exact rput_two K F n w hE h (by omega)
  · exact .inr ⟨_, hE, rput_err k f n w hE⟩
end Go.Proofs.YtceiipcdkonnlaaDoor
