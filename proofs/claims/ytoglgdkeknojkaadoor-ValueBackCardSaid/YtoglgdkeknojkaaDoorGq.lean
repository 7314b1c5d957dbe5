/-
  LAYER 1: the document's Put and Get on any bytes.
-/
import Derived.Test.YtoglgdkeknojkaaDoorGp
namespace Go.Proofs.YtoglgdkeknojkaaDoor
open Go.RowKit

def RPutRel (B n : Nat) (w : World) (nv bv : Value) (wr : World) : Prop :=
  ∃ (m : Nat) (xs : List Nat), nv = .int .u64 m ∧ m ≤ 18446744073709551615 ∧ xs.length ≤ 9 ∧ m < 128 ^ (10 - xs.length) ∧ xs ++ putL (9 - xs.length) m = putL 9 n ∧ wr.ownsRow B 5 1 bv xs.length (bl xs) ∧ Below B w wr
theorem add_shift (n i c : Nat) (hs : n + c % 128 * 128 ^ i ≤ 18446744073709551615) : IntKind.u64.wrap ((n : Int) + IntKind.u64.wrap ((c : Int) % 128 * 2 ^ (7 * i))) = ((n + c % 128 * 128 ^ i : Nat) : Int) := by
  have e : ((c : Int) % 128 * 2 ^ (7 * i)) = ((c % 128 * 128 ^ i : Nat) : Int) := by
    rw [show (2 : Int) ^ (7 * i) = ((2 ^ (7 * i) : Nat) : Int) from by simp, pow128]
    simp
  rw [e, IntKind.wrap_u64, IntKind.wrap_u64]
  omega
theorem pow_le8 {j : Nat} (h : j ≤ 8) : (128 : Nat) ^ j ≤ 72057594037927936 := Nat.pow_le_pow_right (n := 128) (by decide) h
def RGetRel (l : List Nat) (k0 : Nat) (v i : Value) : Prop :=
  ∃ j acc : Nat, i = .int .i64 j ∧ v = .int .u64 acc ∧ j ≤ 9 ∧ k0 + j ≤ l.length ∧ acc < 128 ^ j ∧ getF 0 0 (l.drop k0) = getF j acc (l.drop (k0 + j))
end Go.Proofs.YtoglgdkeknojkaaDoor
