/-
  PLAIN LEMMAS ON BITS: zigzag numbers of 64 bits.
-/
import Derived.Laws.BitsAllLaws
import Derived.WalkKit
namespace Go.Proofs.Ytoglgdkeknojkaa
open Go.RowKit

def zigF (n : Int) : Int := if 0 ≤ n then 2 * n else -2 * n - 1
def zagF (n : Int) : Int := if n % 2 = 0 then n / 2 else -(n / 2) - 1

theorem nat_xor_ones (a : Nat) (h : a < 18446744073709551616) : a ^^^ 18446744073709551615 = 18446744073709551615 - a := by
  have e : (BitVec.ofNat 64 a ^^^ BitVec.allOnes 64).toNat = (~~~ (BitVec.ofNat 64 a)).toNat := by rw [BitVec.xor_allOnes]
  rw [BitVec.toNat_xor, BitVec.toNat_not, BitVec.toNat_ofNat, BitVec.toNat_allOnes] at e
  rw [Nat.mod_eq_of_lt (by simpa using h)] at e
  simpa using e

theorem zig_bits (n : Int) (h0 : -9223372036854775808 ≤ n) (h1 : n ≤ 9223372036854775807) :
    bits .xor .u64 (IntKind.u64.wrap (IntKind.u64.wrap n * 2)) (IntKind.u64.wrap (n / 9223372036854775808)) = zigF n := by
  simp only [IntKind.wrap_u64]
  unfold zigF
  split
  · rw [show n / 9223372036854775808 = 0 from by omega, show n % 18446744073709551616 * 2 % 18446744073709551616 = 2 * n from by omega,
      u64_xor _ _ (by omega) (by omega) (by omega) (by omega)]
    simp
    omega
  · rw [show n / 9223372036854775808 = -1 from by omega, show n % 18446744073709551616 * 2 % 18446744073709551616 = 2 * n + 18446744073709551616 from by omega,
      u64_xor _ _ (by omega) (by omega) (by omega) (by omega)]
    rw [show ((-1 : Int) % 18446744073709551616).toNat = 18446744073709551615 from by decide, nat_xor_ones _ (by omega)]
    omega

theorem and_one_64 (n : Int) (h0 : 0 ≤ n) (h1 : n ≤ 18446744073709551615) : bits .and .u64 n 1 = n % 2 := by
  rw [u64_and _ _ (by omega) (by omega) (by omega) (by omega), show (1 : Int).toNat = 1 from rfl, nat_mask1]
  omega

theorem wrap64_of (n : Int) (h0 : -9223372036854775808 ≤ n) (h1 : n ≤ 9223372036854775807) : wrap64 n = n := IntWalk.wrap64_in n ⟨h0, h1⟩

theorem i64_xor (x y : Int) : bits .xor .i64 x y = IntKind.i64.wrap ((BitVec.ofInt 64 x ^^^ BitVec.ofInt 64 y).toNat : Int) := rfl
theorem ofInt_nonneg (a : Int) (h0 : 0 ≤ a) (h1 : a ≤ 9223372036854775807) : (BitVec.ofInt 64 a).toNat = a.toNat := by
  rw [BitVec.toNat_ofInt]; omega
theorem wrap_i64 (n : Int) : IntKind.i64.wrap n = if n % 18446744073709551616 ≥ 9223372036854775808 then n % 18446744073709551616 - 18446744073709551616 else n % 18446744073709551616 := by
  simp [IntKind.wrap, IntKind.bits, IntKind.signed]
theorem i64_xor_zero (a : Int) (h0 : 0 ≤ a) (h1 : a ≤ 9223372036854775807) : bits .xor .i64 a 0 = a := by
  rw [i64_xor, show BitVec.ofInt 64 0 = 0#64 from rfl, BitVec.xor_zero, ofInt_nonneg a h0 h1, wrap_i64]
  split <;> omega

theorem i64_xor_ones (a : Int) (h0 : 0 ≤ a) (h1 : a ≤ 9223372036854775807) : bits .xor .i64 a (-1) = -a - 1 := by
  rw [i64_xor, show BitVec.ofInt 64 (-1) = BitVec.allOnes 64 from by decide, BitVec.xor_allOnes, BitVec.toNat_not, ofInt_nonneg a h0 h1, wrap_i64]
  split <;> omega

theorem zag_bits (n : Int) (h0 : 0 ≤ n) (h1 : n ≤ 18446744073709551615) :
    bits .xor .i64 (n / 2) (wrap64 (-wrap64 (bits .and .u64 n 1))) = zagF n := by
  rw [and_one_64 n h0 h1, wrap64_of (n % 2) (by omega) (by omega)]
  unfold zagF
  split
  · rename_i h
    rw [h, show wrap64 (-0) = 0 from wrap64_of _ (by decide) (by decide), i64_xor_zero _ (by omega) (by omega)]
  · rename_i h
    rw [show n % 2 = 1 from by omega, show wrap64 (-1) = -1 from wrap64_of _ (by decide) (by decide), i64_xor_ones _ (by omega) (by omega)]

theorem zagF_range (n : Int) (h0 : 0 ≤ n) (h1 : n ≤ 18446744073709551615) : -9223372036854775808 ≤ zagF n ∧ zagF n ≤ 9223372036854775807 := by
  unfold zagF; split <;> omega
theorem zigF_range (n : Int) (h0 : -9223372036854775808 ≤ n) (h1 : n ≤ 9223372036854775807) : 0 ≤ zigF n ∧ zigF n ≤ 18446744073709551615 := by
  unfold zigF; split <;> omega
theorem zag_zig (n : Int) : zagF (zigF n) = n := by unfold zagF zigF; split <;> split <;> omega
theorem zig_zag (n : Int) (h0 : 0 ≤ n) : zigF (zagF n) = n := by unfold zagF zigF; split <;> split <;> omega
end Go.Proofs.Ytoglgdkeknojkaa
