/-
  LAYER 1: a number told in more bytes; bytes without an end.
-/
import Derived.Test.YtnhphkiklfajnaaGe
namespace Go.Proofs.Ytnhphkiklfajnaa
open Go.RowKit

theorem getF_ext : ∀ (xs : List Nat) (i acc c v : Nat), c < 128 → getF i acc (xs ++ [c]) = (v, i + xs.length + 1, 0) → i + xs.length < 9 → getF i acc (xs ++ [c + 128, 0]) = (v, i + xs.length + 2, 0)
  | [], i, acc, c, v, hc, h, hi => by
    simp only [List.length_nil, Nat.add_zero, List.nil_append] at *
    rw [getF, if_neg (by omega), if_pos hc] at h
    rw [getF, if_neg (by omega), if_neg (by omega), getF, if_neg (by omega), if_pos (by omega)]
    injection h with h1 h2
    rw [← h1, show c + 128 - 128 = c from by omega, Nat.zero_mul, Nat.add_zero]
  | x :: xs, i, acc, c, v, hc, h, hi => by
    simp only [List.length_cons, List.cons_append] at *
    rw [getF] at h
    rw [getF]
    by_cases h1 : i = 9 ∧ 1 < x
    · omega
    · rw [if_neg h1] at h ⊢
      by_cases h2 : x < 128
      · rw [if_pos h2] at h
        injection h with h3 h4
        injection h4 with h4 h5
        omega
      · rw [if_neg h2] at h ⊢
        have := getF_ext xs (i + 1) (acc + (x - 128) * 128 ^ i) c v hc (by rw [h]; congr 2; omega) (by omega)
        rw [this]
        congr 2
        omega

theorem or_128' (c : Nat) (h : c < 256) : bits .or .u8 (c : Int) 128 = ((c % 128 + 128 : Nat) : Int) := by
  rw [show (128 : Int) = ((128 : Nat) : Int) from rfl, u8_or_nat _ _ h (by decide)]
  have h' : ∀ x : Fin 256, x.val ||| 128 = x.val % 128 + 128 := by decide +kernel
  have := h' ⟨c, h⟩
  simp only at this
  rw [this]

/-- Bytes that are the number n and no more. -/
def Tells (n : Nat) (init : List Nat) (c : Nat) : Prop := c < 128 ∧ (∀ x ∈ init, x < 256) ∧ getF 0 0 (init ++ [c]) = (n, init.length + 1, 0)
theorem Tells.more {n : Nat} {init : List Nat} {c : Nat} (h : Tells n init c) (hl : init.length < 9) : Tells n (init ++ [c % 128 + 128]) 0 := by
  obtain ⟨h1, h2, h3⟩ := h
  refine ⟨by omega, ?_, ?_⟩
  · intro x hx
    rcases List.mem_append.1 hx with hx | hx
    · exact h2 x hx
    · simp at hx; omega
  · have := getF_ext init 0 0 c n h1 (by simpa using h3) (by omega)
    rw [List.append_assoc, show c % 128 + 128 = c + 128 from by omega]
    simpa using this
theorem putL_last : ∀ (f n : Nat), n < 128 ^ (f + 1) → ∃ init c, putL f n = init ++ [c] ∧ c < 128
  | 0, n, h => ⟨[], n, rfl, by simpa using h⟩
  | f + 1, n, h => by
    rw [putL]
    split
    · exact ⟨[], n, rfl, by omega⟩
    · obtain ⟨init, c, e, hc⟩ := putL_last f (n / 128) (by rw [Nat.div_lt_iff_lt_mul (by decide)]; rw [Nat.pow_succ] at h; exact h)
      exact ⟨(n % 128 + 128) :: init, c, by rw [e]; rfl, hc⟩
theorem tells_put (n : Nat) (hn : n ≤ 18446744073709551615) : ∃ init c, putL 9 n = init ++ [c] ∧ Tells n init c ∧ init.length ≤ 9 := by
  have hp : n < 128 ^ (9 + 1) := by omega
  obtain ⟨init, c, e, hc⟩ := putL_last 9 n hp
  have hb := putL_byte 9 n hp
  have hg := get_put 9 0 n 0 [] rfl hp (by omega)
  have hl := putL_length 9 n hp hn
  have hs := sz_le n hn
  rw [List.append_nil, e] at hg
  rw [e] at hb hl
  refine ⟨init, c, e, ⟨hc, fun x hx => hb x (by simp [hx]), ?_⟩, by simp at hl; omega⟩
  rw [hg]
  simp
theorem open_get : ∀ k : Fin 13, getF 0 0 (List.replicate k.val 128) = if k.val < 10 then (0, 0, 2) else (0, 0, 3) := by decide +kernel
theorem openV (k : Nat) (hk : k < 13) : getV (List.replicate k 128) 0 = .tuple #[.int .u64 0, .int .i64 0, .int .i64 (if k < 10 then 2 else 3)] := by
  have := open_get ⟨k, hk⟩
  simp only at this
  unfold getV
  rw [List.drop_zero, this]
  split <;> rfl
theorem bl_set (init : List Nat) (c d : Nat) : (bl (init ++ [c])).set init.length (.int .u8 (d : Int)) = bl (init ++ [d]) := by
  unfold bl
  rw [List.map_append, List.map_append, List.set_append_right _ _ (by simp)]
  simp
end Go.Proofs.Ytnhphkiklfajnaa
