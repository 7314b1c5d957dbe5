/-
  LAYER 1: what Get reads, as a function of the bytes.
-/
import Derived.Test.YtoglgdkeknojkaaVb
import Derived.Test.YtoglgdkeknojkaaApp
namespace Go.Proofs.Ytoglgdkeknojkaa
open Go.RowKit

/-- What is read of bytes, i of them being read already as the number acc: the number, how many bytes, the error. -/
def getF (i acc : Nat) : List Nat → Nat × Nat × Nat
  | [] => (0, 0, 2)
  | c :: r => if i = 9 ∧ 1 < c then (0, 0, 3) else if c < 128 then (acc + c * 128 ^ i, i + 1, 0) else getF (i + 1) (acc + (c - 128) * 128 ^ i) r

theorem get_put : ∀ (f i m acc : Nat) (ys : List Nat), i + f = 9 → m < 128 ^ (f + 1) → acc + m * 128 ^ i ≤ 18446744073709551615 → getF i acc (putL f m ++ ys) = (acc + m * 128 ^ i, i + (putL f m).length, 0)
  | 0, i, m, acc, ys, hi, hm, hs => by
    obtain rfl : i = 9 := by omega
    have h1 : ¬ 1 < m := by
      intro h
      have : 2 * 128 ^ 9 ≤ m * 128 ^ 9 := Nat.mul_le_mul_right _ h
      omega
    simp only [putL, List.cons_append, List.nil_append, getF]
    rw [if_neg (by omega), if_pos (by omega)]
    rfl
  | f + 1, i, m, acc, ys, hi, hm, hs => by
    rw [putL]
    split
    · simp only [List.cons_append, List.nil_append, getF]
      rw [if_neg (by omega), if_pos (by omega)]
      rfl
    · have hdm : m % 128 + 128 * (m / 128) = m := Nat.mod_add_div m 128
      have e : (m % 128) * 128 ^ i + (m / 128) * 128 ^ (i + 1) = m * 128 ^ i := by
        rw [Nat.pow_succ, ← Nat.mul_assoc, Nat.mul_right_comm, ← Nat.add_mul]
        congr 1
        omega
      simp only [List.cons_append, getF]
      rw [if_neg (by omega), if_neg (by omega), get_put f (i + 1) (m / 128) _ ys (by omega) (by rw [Nat.div_lt_iff_lt_mul (by decide)]; rw [Nat.pow_succ] at hm; exact hm) (by rw [show m % 128 + 128 - 128 = m % 128 from by omega]; omega)]
      rw [show m % 128 + 128 - 128 = m % 128 from by omega, List.length_cons]
      refine Prod.ext ?_ (Prod.ext ?_ rfl)
      · show acc + m % 128 * 128 ^ i + m / 128 * 128 ^ (i + 1) = acc + m * 128 ^ i
        omega
      · show i + 1 + (putL f (m / 128)).length = i + ((putL f (m / 128)).length + 1)
        omega
end Go.Proofs.Ytoglgdkeknojkaa
