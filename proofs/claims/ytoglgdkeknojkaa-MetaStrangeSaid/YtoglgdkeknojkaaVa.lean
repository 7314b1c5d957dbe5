/-
  CONTRACTS OF LAYER 1: Size, Zig, Zag, Put, awake.
-/
import Derived.Test.YtoglgdkeknojkaaShelf
import Derived.Test.YtoglgdkeknojkaaBit
import Derived.Test.YtoglgdkeknojkaaByt
import Derived.WalkKit
import Derived.Lib.BitFns
import Derived.Lib.Hide
import Derived.Outline
import Derived.OwnWalk
import Derived.Below
import Derived.IntWalk
import Derived.Laws.OwnMore
import Derived.Maps.AppendAt
import Derived.Deep.DeepMust
import Derived.Deep.DeepFit
namespace Go.Proofs.Ytoglgdkeknojkaa
open Go.RowKit

def sz (n : Nat) : Nat := (max (Lib.bitLen n) 1 + 6) / 7
theorem sz_le (n : Nat) (h1 : n ≤ 18446744073709551615) : 1 ≤ sz n ∧ sz n ≤ 10 := by
  have := Lib.bitLen_le n 64 (by omega) (by omega)
  unfold sz; omega

theorem aux_mono : ∀ (f a b : Nat), a ≤ b → Lib.bitLenAux f a ≤ Lib.bitLenAux f b
  | 0, _, _, _ => Nat.le_refl _
  | f + 1, a, b, h => by
    have := aux_mono f (a / 2) (b / 2) (Nat.div_le_div_right h)
    simp only [Lib.bitLenAux]
    split <;> split <;> omega
theorem sz_mono (a b : Nat) (h : a ≤ b) : sz a ≤ sz b := by
  have := aux_mono 64 a b h
  unfold sz Lib.bitLen; omega
theorem sz_small (n : Nat) (h : n < 128) : sz n = 1 := by
  have := Lib.bitLen_le n 7 (by omega) (by omega)
  unfold sz; omega
theorem sz_big (n : Nat) (h : 128 ≤ n) (h1 : n ≤ 18446744073709551615) : sz n = sz (n / 128) + 1 := by
  have e := Lib.bitLen_shift 7 n (by omega) (by omega)
  have g := Lib.bitLen_half (n / 128) (by omega) (by omega)
  simp only [show (2 : Nat) ^ 7 = 128 from rfl] at e
  unfold sz
  omega

/-- The bytes of a number: seven bits each, the lowest first; each but the last one with its highest bit. -/
def putL : Nat → Nat → List Nat
  | 0, n => [n]
  | f + 1, n => if n < 128 then [n] else (n % 128 + 128) :: putL f (n / 128)
theorem putL_length : ∀ (f n : Nat), n < 128 ^ (f + 1) → n ≤ 18446744073709551615 → (putL f n).length = sz n
  | 0, n, h, _ => by simp [putL, sz_small n (by simpa using h)]
  | f + 1, n, h, h1 => by
    rw [putL]
    split
    · rw [sz_small n ‹_›]; rfl
    · rw [sz_big n (by omega) h1, List.length_cons, putL_length f (n / 128) (by rw [Nat.div_lt_iff_lt_mul (by decide)]; rw [Nat.pow_succ] at h; exact h) (by omega)]
theorem putL_byte : ∀ (f n : Nat), n < 128 ^ (f + 1) → ∀ x ∈ putL f n, x < 256
  | 0, n, h, x, hx => by simp [putL] at hx; subst hx; simp at h; omega
  | f + 1, n, h, x, hx => by
    rw [putL] at hx
    split at hx
    · simp at hx; omega
    · rcases List.mem_cons.1 hx with rfl | hx
      · omega
      · exact putL_byte f (n / 128) (by rw [Nat.div_lt_iff_lt_mul (by decide)]; rw [Nat.pow_succ] at h; exact h) x hx


theorem bl_snoc (l : List Nat) (x : Nat) : bl (l ++ [x]) = bl l ++ [.int .u8 (x : Int)] := by simp [bl]
/-- One round. -/
theorem put_more {n m : Nat} {xs : List Nat} (hx : xs.length ≤ 8) (hlt : 128 ≤ m) (hM : m < 128 ^ (10 - xs.length)) (hX : xs ++ putL (9 - xs.length) m = putL 9 n) :
    m / 128 < 128 ^ (10 - (xs ++ [m % 128 + 128]).length) ∧ (xs ++ [m % 128 + 128]) ++ putL (9 - (xs ++ [m % 128 + 128]).length) (m / 128) = putL 9 n := by
  have e : 10 - xs.length = (9 - xs.length) + 1 := by omega
  have e' : 9 - xs.length = (8 - xs.length) + 1 := by omega
  refine ⟨?_, ?_⟩
  · rw [List.length_append, List.length_singleton, Nat.div_lt_iff_lt_mul (by decide), ← Nat.pow_succ]
    rw [show (10 - (xs.length + 1)).succ = 10 - xs.length from by omega]
    exact hM
  · rw [← hX, e', putL, if_neg (by omega), List.append_assoc, List.length_append, List.length_singleton, show 9 - (xs.length + 1) = 8 - xs.length from by omega]
    rfl
theorem put_last {n m : Nat} {xs : List Nat} (hlt : m < 128) (hX : xs ++ putL (9 - xs.length) m = putL 9 n) : xs ++ [m] = putL 9 n := by
  rw [← hX]
  cases 9 - xs.length with
  | zero => rfl
  | succ f => rw [putL, if_pos hlt]
theorem or_128 (m : Nat) : bits .or .u8 (IntKind.u8.wrap (m : Int)) 128 = ((m % 128 + 128 : Nat) : Int) := by
  rw [IntKind.wrap_u8', show ((m : Int) % 256) = ((m % 256 : Nat) : Int) from by omega, show (128 : Int) = ((128 : Nat) : Int) from rfl, u8_or_nat _ _ (by omega) (by decide)]
  have h : ∀ x : Fin 256, x.val ||| 128 = x.val % 128 + 128 := by decide +kernel
  have := h ⟨m % 256, by omega⟩
  simp only at this
  rw [this]
  omega

theorem Try.info5 : (Try.prog.info? 5).map (fun i => (i.zero, i.size, i.bytes)) = some (some (.int .u8 0), 1, 1) := by kernel_rfl

theorem size_any (n : Nat) (w : World) (h1 : n ≤ 18446744073709551615) :
    Calls Try.prog 49 #[.int .u64 n] w fun e w' => e = .returned (.int .i64 (sz n)) ∧ w = w' := by
  have hl : (Lib.bitLen n : Int) ≤ 64 := by have := Lib.bitLen_le n 64 (by omega) (by omega); omega
  have hm : max (Lib.bitLen n : Int) 1 ≤ 64 := by omega
  have hm1 : 1 ≤ max (Lib.bitLen n : Int) 1 := by omega
  go_enter Try.func49, Try.ntmps49
  go_wp2_with (go_at_call 60; refine (Try.bits_Len64 n _ (by omega) (by omega)).mono ?_; rintro e w' ⟨rfl, rfl⟩)
  go_ret
  exact ⟨ret_int (by unfold sz; omega), rfl⟩
def PutRel (B n : Nat) (w : World) (nv bv : Value) (wr : World) : Prop :=
  ∃ (m : Nat) (xs : List Nat), nv = .int .u64 m ∧ m ≤ 18446744073709551615 ∧ xs.length ≤ 9 ∧ m < 128 ^ (10 - xs.length) ∧ xs ++ putL (9 - xs.length) m = putL 9 n ∧ wr.ownsRow B 5 1 bv xs.length (bl xs) ∧ Below B w wr ∧ bv ≠ .slice none 0 0
def PutPost (B n : Nat) (w : World) (e : Ending) (w' : World) : Prop :=
  ∃ v, e = .returned v ∧ w'.ownsRow B 5 1 v (putL 9 n).length (bl (putL 9 n)) ∧ Below B w w' ∧ v ≠ .slice none 0 0
set_option maxHeartbeats 400000 in
set_option maxRecDepth 100000 in
theorem put_any (n : Nat) (w : World) (h1 : n ≤ 18446744073709551615) :
    Calls Try.prog 36 #[.int .u64 n] w (PutPost w.heap.size n w) := by
  obtain ⟨i0, hi, hz0, hz1, hz2⟩ := info_parts Try.info5
  have hsz := sz_le n h1
  go_enter Try.func36, Try.ntmps36
  go_wp2_with (first
    | (go_at_call 49; refine (size_any n _ h1).mono ?_; rintro e w' ⟨rfl, rfl⟩)
    | (at_make; refine wpList_make_own _ rfl _ _ 25 rfl w.heap.size 5 i0 (.int .u8 0) 1 Try.underlying25 hi hz0 hz1 .i64 .i64 _ (sz n) rfl rfl rfl (by rw [hz2]; omega) (by unfold maxLen; omega) (Nat.le_refl _) ?_; intro w0 hown0 hgrow0))
  have HPW : Hid (n < 128 ^ 10) := by show n < 128 ^ 10; omega
  go_loopw [0, 3] (fun nv bv wr => PutRel w.heap.size n w nv bv wr)
    (fun nv _ _ => (intOf nv).toNat)
  case atStart => exact ⟨n, [], rfl, h1, by simp, HPW.out, rfl, hown0, (Below.refl _ _).grown hgrow0 (Nat.le_refl _) (fun k h => by cases h), by simp⟩
  case round =>
    obtain ⟨m, xs, rfl, hm, hx, hM, hX, hown, hnx, hnn⟩ := hrel
    have HM := Lib.hid hM
    have HX := Lib.hid hX
    clear hM hX
    have hsize := hnx.size
    by_cases hlt : 128 ≤ m
    · have hx8 : xs.length ≤ 8 := by
        by_cases h9 : xs.length = 9
        · have := HM.out; rw [h9] at this; omega
        · omega
      have Hm := Lib.hid hm
      have H1 := Lib.hid h1
      clear hm h1
      go_wp2_with (first
        | (at_builtin; go_must (refine wpList_append_own _ rfl (.tmp 9) (.tmp 13) 25 rfl w.heap.size 5 i0 (.int .u8 0) 1 1 Try.underlying25 hi hz0 hz1 hz2 rfl (by decide) _ _ _ rfl (hown.alloc _) ⟨wr.heap.size, 0, none⟩ 1 1 [.int .u8 (bits .or .u8 (IntKind.u8.wrap (m : Int)) 128)] rfl rfl (cell_one_new _ _ _) (by intro u hu; simp at hu; subst hu; rfl) (by unfold maxLen; omega) (by omega) (by simp; omega) ?_); intro v1 w1 hown1 hgrow1 hnil1))
      go_roundw
      case rel =>
        obtain ⟨p1, p2⟩ := put_more hx8 hlt HM.out HX.out
        refine ⟨m / 128, xs ++ [m % 128 + 128], by simp, by have := Hm.out; omega, by simp; omega, p1, p2, ?_, (hnx.alloc (by omega) _).grown hgrow1 (by simp; omega) (fun k hk => (hown.lt k hk).1), fun h => by have := (hnil1.1 h).2; omega⟩
        rw [or_128] at hown1
        rw [bl_snoc, List.length_append, List.length_singleton]
        exact hown1
      case measure => simp [intOf]; omega
    · have hlt' : m < 128 := by omega
      have Hm := Lib.hid hm
      have H1 := Lib.hid h1
      clear hm h1
      go_wp2_with (first
        | (at_builtin; go_must (refine wpList_append_own _ rfl (.tmp 17) (.tmp 20) 25 rfl w.heap.size 5 i0 (.int .u8 0) 1 1 Try.underlying25 hi hz0 hz1 hz2 rfl (by decide) _ _ _ rfl (hown.alloc _) ⟨wr.heap.size, 0, none⟩ 1 1 [.int .u8 (m : Int)] rfl rfl (cell_one_new _ _ _) (by intro u hu; simp at hu; subst hu; rfl) (by unfold maxLen; omega) (by omega) (by simp; omega) ?_); intro v1 w1 hown1 hgrow1 hnil1))
      go_ret
      have e := put_last hlt' HX.out
      refine ⟨v1, rfl, ?_, (hnx.alloc (by omega) _).grown hgrow1 (by simp; omega) (fun k hk => (hown.lt k hk).1), fun h => by have := (hnil1.1 h).2; omega⟩
      rw [← e, bl_snoc, List.length_append, List.length_singleton]
      exact hown1
end Go.Proofs.Ytoglgdkeknojkaa
