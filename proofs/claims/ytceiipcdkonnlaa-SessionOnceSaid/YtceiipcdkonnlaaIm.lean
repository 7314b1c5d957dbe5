/-
  LAYER 21: All, New; awake.
-/
import Derived.Test.YtceiipcdkonnlaaIl
namespace Go.Proofs.Ytceiipcdkonnlaa.Ids
set_option linter.unusedSimpArgs false
set_option linter.unusedVariables false
open Go.RowKit Que Hp
def lstF (T : List Bool) (k : Nat) : List Int := ((List.range k).filter (fun j => T.getD j false)).map (fun j : Nat => (j : Int) + 1)
theorem lstF_yes {T : List Bool} {k : Nat} (h : T.getD k false = true) : lstF T (k + 1) = lstF T k ++ [(k : Int) + 1] := by
  have h' : T[k]?.getD false = true := by rw [← List.getD_eq_getElem?_getD]; exact h
  unfold lstF; rw [List.range_succ, List.filter_append, List.map_append]; simp [h']
theorem lstF_no {T : List Bool} {k : Nat} (h : T.getD k false = false) : lstF T (k + 1) = lstF T k := by
  have h' : T[k]?.getD false = false := by rw [← List.getD_eq_getElem?_getD]; exact h
  unfold lstF; rw [List.range_succ, List.filter_append, List.map_append]; simp [h']
theorem lstF_len (T : List Bool) (k : Nat) : (lstF T k).length ≤ k := by
  unfold lstF; rw [List.length_map]; have := List.length_filter_le (fun j => T.getD j false) (List.range k); simpa using this
section
variable {A : Nat → Prop} {w w' : World} {g most : Nat} {T : List Bool}
theorem new_ids (n : Nat) (w : World) (h1 : 1 ≤ n) (h4 : n ≤ 400) : Calls Try.prog 51 #[.int .i64 (n : Int)] w fun e w' => e = .returned (.tuple #[.pointer (some ⟨w.heap.size, 0, none⟩), .int .i64 0]) ∧ Ds (fun k => k < w.heap.size) w' w.heap.size n [] ∧ Below w.heap.size w w' := by
  have b1 : (1 : Int) ≤ (n : Int) := by omega
  have b2 : (n : Int) ≤ 400 := by omega
  go_enter Try.func51, Try.ntmps51
  go_wp2
  go_ret2
  exact ⟨rfl, ⟨⟨_, _, [], ⟨heap_alloc_new w _, World.ownsRow_nil _ _ _ _, World.ownsRow_nil _ _ _ _⟩, good_nil, fun k hk => ⟨by simp; omega, fun h => h.elim (fun e => by omega) (fun h => h.elim (fun e => by cases e) (fun e => by cases e))⟩⟩, by simp, h1, h4⟩, ext_alloc _ _⟩
def AllIds (T : List Bool) (w : World) (e : Ending) (w' : World) : Prop := ∃ v, e = .returned v ∧ w'.ownsRow w.heap.size 3 1 v (lstF T T.length).length (il (lstF T T.length)) ∧ Below w.heap.size w w'
theorem len_ds (h : Ds A w g most T) : Calls Try.prog 123 #[.pointer (some ⟨g, 0, none⟩)] w fun e w' => e = .returned (.int .i64 (trues T : Nat)) ∧ w = w' := by
  obtain ⟨tv, bv, H, i, G, av⟩ := h.ex
  exact len_ids i (by have := h.m1; omega)
end
end Go.Proofs.Ytceiipcdkonnlaa.Ids
