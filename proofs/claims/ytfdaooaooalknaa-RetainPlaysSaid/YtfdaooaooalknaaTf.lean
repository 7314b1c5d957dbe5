/-
  LAYER 18: a text, a slash, a text: the levels; plain.
-/
import Derived.Test.YtfdaooaooalknaaTe
namespace Go.Proofs.Ytfdaooaooalknaa
set_option linter.unusedSimpArgs false
set_option linter.unusedVariables false
open Go.RowKit

theorem spl_cons (c : UInt8) (r : List UInt8) : spl (c :: r) = if c = 47 then [] :: spl r else match spl r with | h :: t => (c :: h) :: t | [] => [[c]] := by
  rw [spl]
  split
  · rfl
  · cases spl r <;> rfl
theorem spl_app : ∀ x y : List UInt8, spl (x ++ 47 :: y) = spl x ++ spl y
  | [], y => by simp [spl]
  | c :: x, y => by
    have ih := spl_app x y
    have hn := spl_ne x
    rw [List.cons_append, spl_cons c (x ++ 47 :: y), spl_cons c x]
    by_cases hc : c = 47
    · rw [if_pos hc, if_pos hc, ih]; rfl
    · rw [if_neg hc, if_neg hc, ih]
      cases hs : spl x with
      | nil => exact absurd hs hn
      | cons p ps => rfl
theorem spS_app (a b c : ByteArray) (h : c.data.toList = a.data.toList ++ 47 :: b.data.toList) : spS c = spS a ++ spS b := by
  unfold spS
  rw [h, spl_app, List.map_append]
theorem covF_app : ∀ (A X Y : List ByteArray), (∀ x ∈ A, x ≠ isHash) → covF (A ++ X) (A ++ Y) = covF X Y
  | [], _, _, _ => rfl
  | x :: A, X, Y, h => by
    show covF (x :: (A ++ X)) (x :: (A ++ Y)) = _
    rw [covF_yes _ _ (h x (by simp)) (.inr rfl), covF_app A X Y (fun z hz => h z (by simp [hz]))]
theorem covF_plus (y : ByteArray) (Y : List ByteArray) (hy : y ≠ isHash) : covF [isPlus] (y :: Y) = decide (Y = []) := by
  rw [covF_yes _ _ (fun h => hash_plus h.symm) (.inl ⟨rfl, hy⟩)]
  unfold covF; rfl
end Go.Proofs.Ytfdaooaooalknaa
