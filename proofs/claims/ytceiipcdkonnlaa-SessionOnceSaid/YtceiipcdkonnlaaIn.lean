/-
  LAYER 21: the first so many are taken: plain.
-/
import Derived.Test.YtceiipcdkonnlaaIm
namespace Go.Proofs.Ytceiipcdkonnlaa.Ids
set_option linter.unusedSimpArgs false
set_option linter.unusedVariables false
open Go.RowKit Que Hp
def U (K i : Nat) : List Bool := List.replicate i true ++ List.replicate (K - i) false
theorem U_len (K i : Nat) : (U K i).length = i + (K - i) := by simp [U]
theorem U_lo {K i j : Nat} (d : Bool) (h : j < i) : (U K i).getD j d = true := by
  simp [U, List.getD_eq_getElem?_getD, List.getElem?_append_left, h]
theorem U_hi {K i j : Nat} (d : Bool) (h : i ≤ j) (hj : j < K) : (U K i).getD j d = false := by
  unfold U
  rw [List.getD_eq_getElem?_getD, List.getElem?_append_right (by simpa using h)]
  rw [List.getElem?_replicate, if_pos (by simp; omega)]
  rfl
theorem nxt_U (K i : Nat) : nxt (U K i) = i := by
  by_cases h : i < K
  · exact nxt_eq (by rw [U_len]; omega) (U_hi _ (Nat.le_refl _) h) (fun j hj => U_lo _ hj)
  · rw [nxt_none (fun k hk => ?_), U_len]
    · omega
    · rw [U_len] at hk; exact U_lo _ (by omega)
theorem trues_U (K i : Nat) : trues (U K i) = i := by simp [trues, U, List.count_append, List.count_replicate]
theorem tk_U (K i : Nat) : tk (U K i) = U K (i + 1) := by
  unfold tk
  rw [nxt_U, U_len]
  by_cases h : i < K
  · rw [if_pos (by omega)]
    unfold U
    rw [show K - i = (K - (i + 1)) + 1 by omega, List.replicate_succ (n := K - (i + 1))]
    rw [List.set_append_right _ _ (by simp)]
    simp [List.replicate_succ', List.append_assoc]
  · rw [if_neg (by omega)]
    unfold U
    rw [show K - i = 0 by omega, show K - (i + 1) = 0 by omega]
    simp [List.replicate_succ']
theorem set_U {K i : Nat} (h : i < K) : (U K (i + 1)).set i false = U K i := by
  unfold U
  rw [show K - i = (K - (i + 1)) + 1 by omega, List.replicate_succ (n := K - (i + 1))]
  rw [List.set_append_left _ _ (by simp)]
  simp [List.replicate_succ', List.append_assoc]
theorem U_full (K : Nat) : U 0 K = U K K := by simp [U]
theorem lst_U (K : Nat) : lstF (U K K) (U K K).length = (List.range K).map (fun j : Nat => (j : Int) + 1) := by
  rw [U_len, Nat.sub_self, Nat.add_zero]
  unfold lstF
  rw [List.filter_eq_self.2 (fun j hj => U_lo _ (List.mem_range.1 hj))]
theorem il_range {i p : Nat} (h : p < i) : (il ((List.range i).map (fun j : Nat => (j : Int) + 1)))[p]? = some (.int .i64 ((p : Int) + 1)) := by
  rw [il, List.getElem?_map, List.getElem?_map, List.getElem?_range h]; rfl
section
variable {A : Nat → Prop} {w w' : World} {g most : Nat} {T : List Bool}
/-- A row that was made behind all of its own is to be kept too. -/
theorem Ds.row (h : Ds A w g most T) (hb : Below w.heap.size w w') {e n : Nat} {v : Value} {xs : List Value} (o : w'.ownsRow w.heap.size e 1 v n xs) : Ds (fun k => A k ∨ v.ownBlock = some k) w' g most T := by
  obtain ⟨tv, bv, H, i, G, av⟩ := h.ex
  refine ⟨⟨tv, bv, H, i.keep hb, G, ?_⟩, h.le, h.m1, h.m4⟩
  rintro k (hk | hk)
  · exact ⟨Nat.lt_of_lt_of_le (av k hk).1 hb.size, (av k hk).2⟩
  · obtain ⟨h1, h2⟩ := o.lt k hk
    refine ⟨h2, ?_⟩
    rintro (e | e | e)
    · have := i.lt; omega
    · have := (i.tk.lt k e).2; omega
    · have := (i.bk.lt k e).2; omega
theorem Kp.row (h : Kp A w w') {B e n : Nat} {v : Value} {xs : List Value} (o : w.ownsRow B e 1 v n xs) (hA : ∀ k, v.ownBlock = some k → A k) : w'.ownsRow B e 1 v n xs := own_fars o h (fun k hk hn => hn (hA k hk))
end
end Go.Proofs.Ytceiipcdkonnlaa.Ids
