/-
  LAYER 2: the document's put and Turn, and its faces.
-/
import Derived.Test.YtoglgdkeknojkaaDoorFr
namespace Go.Proofs.YtoglgdkeknojkaaDoor
open Go.RowKit

def dg (n : Nat) : Nat → List Nat
  | 0 => []
  | k + 1 => dg n k ++ [n / 256 ^ k % 256]
theorem dg_length (n : Nat) : ∀ k, (dg n k).length = k
  | 0 => rfl
  | k + 1 => by simp [dg, dg_length n k]
theorem dg4 (n : Nat) (h : n ≤ 4294967295) : dg n 4 = r4 n := by
  simp [dg, r4]; omega
theorem dg8 (n : Nat) (h : n ≤ 18446744073709551615) : dg n 8 = r8 n := by
  simp [dg, r8]; omega
theorem lit_one (w : World) (x : Nat) : BytesAt (w.alloc (.cells #[.int .u8 (x : Int)] 5)) (.slice (some ⟨w.heap.size, 0, none⟩) 1 1) [x] := BytesAt_lit w [x] _ 1 (by simp [bl]) rfl
def Laid (l : List Nat) (w : World) (e : Ending) (w' : World) : Prop := ∃ v, e = .returned v ∧ w'.ownsRow w.heap.size 5 1 v l.length (bl l) ∧ Below w.heap.size w w'
def FPutRel (w : World) (n width : Nat) (o x i : Value) (wr : World) : Prop :=
  ∃ k : Nat, k ≤ width ∧ i = .int .i64 k ∧ x = .int .u64 (n / 256 ^ k : Nat) ∧ wr.ownsRow w.heap.size 5 1 o (dg n k).length (bl (dg n k)) ∧ Below w.heap.size w wr
def TRel (w : World) (l : List Nat) (o i : Value) (wr : World) : Prop :=
  ∃ k : Nat, k ≤ l.length ∧ i = .int .i64 ((l.length : Int) - 1 - k) ∧ wr.ownsRow w.heap.size 5 1 o ((l.reverse).take k).length (bl ((l.reverse).take k)) ∧ Below w.heap.size w wr
theorem rev_step (l : List Nat) (k : Nat) (hk : k < l.length) : l.reverse.take (k + 1) = l.reverse.take k ++ [l.getD (l.length - 1 - k) 0] := by
  rw [List.take_succ_eq_append_getElem (by simpa using hk), List.getElem_reverse]
  simp [List.getD, hk, show l.length - 1 - k < l.length by omega]
end Go.Proofs.YtoglgdkeknojkaaDoor
