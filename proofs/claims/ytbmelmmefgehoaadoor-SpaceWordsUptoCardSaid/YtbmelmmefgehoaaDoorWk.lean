/-
  LAYER 20: the document's words and kinds.
-/
import Derived.Test.YtbmelmmefgehoaaDoorWj
namespace Go.Proofs.YtbmelmmefgehoaaDoor
open Go.RowKit

theorem rword_1 (w : World) : Calls Tryd.prog 12 #[.int .i64 1] w (Same (.string (word 1)) w) := by
  go_enter Tryd.func12, Tryd.ntmps12
  go_wp2_with fail
  go_ret
  exact ⟨rfl, rfl⟩
theorem rword_2 (w : World) : Calls Tryd.prog 12 #[.int .i64 2] w (Same (.string (word 2)) w) := by
  go_enter Tryd.func12, Tryd.ntmps12
  go_wp2_with fail
  go_ret
  exact ⟨rfl, rfl⟩
theorem rword_3 (w : World) : Calls Tryd.prog 12 #[.int .i64 3] w (Same (.string (word 3)) w) := by
  go_enter Tryd.func12, Tryd.ntmps12
  go_wp2_with fail
  go_ret
  exact ⟨rfl, rfl⟩
theorem rword_4 (w : World) : Calls Tryd.prog 12 #[.int .i64 4] w (Same (.string (word 4)) w) := by
  go_enter Tryd.func12, Tryd.ntmps12
  go_wp2_with fail
  go_ret
  exact ⟨rfl, rfl⟩
theorem rword_5 (w : World) : Calls Tryd.prog 12 #[.int .i64 5] w (Same (.string (word 5)) w) := by
  go_enter Tryd.func12, Tryd.ntmps12
  go_wp2_with fail
  go_ret
  exact ⟨rfl, rfl⟩
theorem rword_6 (w : World) : Calls Tryd.prog 12 #[.int .i64 6] w (Same (.string (word 6)) w) := by
  go_enter Tryd.func12, Tryd.ntmps12
  go_wp2_with fail
  go_ret
  exact ⟨rfl, rfl⟩
theorem rword_7 (w : World) : Calls Tryd.prog 12 #[.int .i64 7] w (Same (.string (word 7)) w) := by
  go_enter Tryd.func12, Tryd.ntmps12
  go_wp2_with fail
  go_ret
  exact ⟨rfl, rfl⟩
theorem rword_8 (w : World) : Calls Tryd.prog 12 #[.int .i64 8] w (Same (.string (word 8)) w) := by
  go_enter Tryd.func12, Tryd.ntmps12
  go_wp2_with fail
  go_ret
  exact ⟨rfl, rfl⟩
theorem rword_9 (w : World) : Calls Tryd.prog 12 #[.int .i64 9] w (Same (.string (word 9)) w) := by
  go_enter Tryd.func12, Tryd.ntmps12
  go_wp2_with fail
  go_ret
  exact ⟨rfl, rfl⟩
theorem rword_no (k : Int) (w : World) (hk : isk k = false) : Calls Tryd.prog 12 #[.int .i64 k] w (Same (.string ⟨#[]⟩) w) := by
  have h : ¬ (0 < k ∧ k ≤ 9) := by unfold isk at hk; simp at hk; omega
  have n1 : (k == 1) = false := by rw [beq_eq_false_iff_ne]; omega
  have n2 : (k == 2) = false := by rw [beq_eq_false_iff_ne]; omega
  have n3 : (k == 3) = false := by rw [beq_eq_false_iff_ne]; omega
  have n4 : (k == 4) = false := by rw [beq_eq_false_iff_ne]; omega
  have n5 : (k == 5) = false := by rw [beq_eq_false_iff_ne]; omega
  have n6 : (k == 6) = false := by rw [beq_eq_false_iff_ne]; omega
  have n7 : (k == 7) = false := by rw [beq_eq_false_iff_ne]; omega
  have n8 : (k == 8) = false := by rw [beq_eq_false_iff_ne]; omega
  have n9 : (k == 9) = false := by rw [beq_eq_false_iff_ne]; omega
  replace h := Lib.hid h
  replace hk := Lib.hid hk
  go_enter Tryd.func12, Tryd.ntmps12
  go_wp2_with fail
  go_ret
  exact ⟨rfl, rfl⟩
theorem rword_any (k : Int) (w : World) : Calls Tryd.prog 12 #[.int .i64 k] w (Same (.string (wordI k)) w) := by
  unfold wordI
  cases hk : isk k with
  | false => exact rword_no k w hk
  | true =>
    have h : 0 < k ∧ k < 10 := by unfold isk at hk; simp at hk; omega
    obtain ⟨n, rfl⟩ : ∃ n : Nat, k = n := ⟨k.toNat, by omega⟩
    rw [if_pos rfl, Int.toNat_natCast]
    have h1 : n < 10 := by omega
    have h2 : n ≠ 0 := by omega
    clear hk h
    match n, h1, h2 with
    | 0, _, h => exact absurd rfl h
    | 1, _, _ => exact rword_1 w
    | 2, _, _ => exact rword_2 w
    | 3, _, _ => exact rword_3 w
    | 4, _, _ => exact rword_4 w
    | 5, _, _ => exact rword_5 w
    | 6, _, _ => exact rword_6 w
    | 7, _, _ => exact rword_7 w
    | 8, _, _ => exact rword_8 w
    | 9, _, _ => exact rword_9 w
set_option maxHeartbeats 2000000 in
set_option maxRecDepth 100000 in
theorem rkind_any (s : ByteArray) (w : World) : Calls Tryd.prog 14 #[.string s] w (IntIs (kindB s) w) := by
  have K := Lib.hid (fun k w => rword_any k w)
  go_enter Tryd.func14, Tryd.ntmps14
  go_wp2_with fail
  go_loopw [3] (fun i wr => ∃ k : Nat, i = .int .i64 k ∧ 1 ≤ k ∧ k ≤ 10 ∧ kindF s k (10 - k) = kindB s ∧ Below w.heap.size w wr) (fun i _ => 10 - (intOf i).toNat)
  case atStart => exact ⟨1, rfl, by omega, by omega, by unfold kindB; rw [show (10 : Nat) = 9 + 1 from rfl, kindF_no (k := 0) (by rintro ⟨h, -⟩; exact absurd h (by decide))], Below.refl _ _⟩
  case round =>
    obtain ⟨k, rfl, hk1, hk, hkk, hb⟩ := hrel
    replace hb := Lib.hid hb
    by_cases hend : k = 10
    · subst hend
      have hz : kindB s = 0 := by rw [← hkk]; rfl
      replace hz := Lib.hid hz
      replace hkk := Lib.hid hkk
      go_wp2_with fail
      go_ret
      exact ⟨by rw [hz.out]; rfl, hb.out⟩
    · have hk2 : (k : Int) ≤ 9 := by omega
      have hi : isk (k : Int) = true := by unfold isk; simp; omega
      have en : 10 - k = (9 - k) + 1 := by omega
      rw [en] at hkk
      have K' := K.out k
      have hw : wordI k = word k := by unfold wordI; rw [if_pos hi, Int.toNat_natCast]
      rw [hw] at K'
      replace K' := Lib.hid K'
      replace hend := Lib.hid hend
      replace hw := Lib.hid hw
      by_cases hs : word k = s
      · rw [kindF_yes hi hs] at hkk
        rw [← hkk, ← hs]
        rw [← hs] at hkk
        replace hkk := Lib.hid hkk
        replace hi := Lib.hid hi
        go_wp2_with fail
        refine (K'.out _).mono ?_
        rintro e w1 ⟨rfl, rfl⟩
        go_wp2_with fail
        go_ret
        exact ⟨rfl, hb.out⟩
      · rw [kindF_no (by rintro ⟨-, h⟩; exact hs h)] at hkk
        have hq := ne_bytes hs
        replace hkk := Lib.hid hkk
        replace hi := Lib.hid hi
        replace hs := Lib.hid hs
        go_wp2_with fail
        refine (K'.out _).mono ?_
        rintro e w1 ⟨rfl, rfl⟩
        go_wp2_with fail
        go_roundw
        case rel => exact ⟨k + 1, by simp, by omega, by omega, by rw [← hkk.out]; congr 1; omega, hb.out⟩
        case measure => simp [intOf]; omega
theorem word_ne (k : Nat) (h : isk (k : Int) = true) : wordI k ≠ ⟨#[]⟩ := by
  have hk : k < 10 := by unfold isk at h; simp at h; omega
  match k, hk with
  | 0, _ => exact absurd h (by decide)
  | 1, _ => exact (by decide +kernel : wordI 1 ≠ ⟨#[]⟩)
  | 2, _ => exact (by decide +kernel : wordI 2 ≠ ⟨#[]⟩)
  | 3, _ => exact (by decide +kernel : wordI 3 ≠ ⟨#[]⟩)
  | 4, _ => exact (by decide +kernel : wordI 4 ≠ ⟨#[]⟩)
  | 5, _ => exact (by decide +kernel : wordI 5 ≠ ⟨#[]⟩)
  | 6, _ => exact (by decide +kernel : wordI 6 ≠ ⟨#[]⟩)
  | 7, _ => exact (by decide +kernel : wordI 7 ≠ ⟨#[]⟩)
  | 8, _ => exact (by decide +kernel : wordI 8 ≠ ⟨#[]⟩)
  | 9, _ => exact (by decide +kernel : wordI 9 ≠ ⟨#[]⟩)
end Go.Proofs.YtbmelmmefgehoaaDoor
