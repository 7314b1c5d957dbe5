/-
  CONTRACT OF LAYER 2: Turn.
-/
import Derived.Test.YtoglgdkeknojkaaFb
namespace Go.Proofs.Ytoglgdkeknojkaa
open Go.RowKit

def revTo (l : List Nat) (k : Nat) : List Nat := List.replicate (l.length - k) 0 ++ (l.take k).reverse
theorem revTo_length (l : List Nat) (k : Nat) (hk : k ≤ l.length) : (revTo l k).length = l.length := by simp [revTo]; omega
theorem revTo_all (l : List Nat) : revTo l l.length = l.reverse := by simp [revTo]
theorem revTo_step (l : List Nat) (k : Nat) (hk : k < l.length) : (revTo l k).set (l.length - 1 - k) (l[k]?.getD 0) = revTo l (k + 1) := by
  have e : l.length - k = (l.length - (k + 1)) + 1 := by omega
  have e2 : l.length - 1 - k = l.length - (k + 1) := by omega
  unfold revTo
  rw [e, List.replicate_succ', List.append_assoc, e2, List.set_append_right _ _ (by simp), List.length_replicate, Nat.sub_self, List.singleton_append, List.set_cons_zero,
    List.take_succ_eq_append_getElem hk, List.reverse_append]
  simp [hk]
theorem bl_set (l : List Nat) (j x : Nat) : (bl l).set j (.int .u8 (x : Int)) = bl (l.set j x) := by simp [bl, List.map_set]

def TurnRel (B : Nat) (l : List Nat) (w : World) (i : Value) (wr : World) : Prop :=
  ∃ k : Nat, k ≤ l.length ∧ i = .int .i64 k ∧ wr.ownsRow B 5 1 (.slice (some ⟨B, 0, none⟩) l.length l.length) l.length (bl (revTo l k)) ∧ Below B w wr
def TurnPost (l : List Nat) (w : World) (e : Ending) (w' : World) : Prop :=
  ∃ v, e = .returned v ∧ w'.ownsRow w.heap.size 5 1 v l.length (bl l.reverse) ∧ v ≠ .slice none 0 0 ∧ Below w.heap.size w w'

end Go.Proofs.Ytoglgdkeknojkaa
