/-
  LAYER 2: the document's get, put and Turn.
-/
import Derived.Test.YtoglgdkeknojkaaDoorFc
import Derived.Test.YtoglgdkeknojkaaDoorFt
namespace Go.Proofs.YtoglgdkeknojkaaDoor
open Go.RowKit

/-- The number of k bytes, told from the last of them on. -/
def rv (zs : List Nat) (at0 width : Nat) : Nat → Nat
  | 0 => 0
  | k + 1 => 256 * rv zs at0 width k + zs[at0 + (width - 1 - k)]?.getD 0
theorem rv_lt (zs : List Nat) (at0 width : Nat) (h : ∀ x ∈ zs, x < 256) : ∀ k, rv zs at0 width k < 256 ^ k
  | 0 => by simp [rv]
  | k + 1 => by
    have := rv_lt zs at0 width h k
    have := get_lt zs h (at0 + (width - 1 - k))
    unfold rv
    rw [Nat.pow_succ]
    omega
theorem rv4 (zs : List Nat) (at0 : Nat) : rv zs at0 4 4 = valF zs at0 4 := by
  simp only [rv, valF]
  simp
  omega
theorem rv8 (zs : List Nat) (at0 : Nat) : rv zs at0 8 8 = valF zs at0 8 := by
  simp only [rv, valF]
  simp
  omega
theorem fpow_le8 (k : Nat) (h : k ≤ 7) : 256 ^ k ≤ 72057594037927936 := Nat.le_trans (Nat.pow_le_pow_right (by decide) h) (by decide)
end Go.Proofs.YtoglgdkeknojkaaDoor
