/-
  LAYER 17: strings.IndexRune("+#", r) is -1, for a rune r of four bytes.
-/
import Derived.Test.YtfdaooaooalknaaSc
import Derived.Laws.Runes
import Derived.Deep.QuietTactic
namespace Go.Proofs.Ytfdaooaooalknaa
set_option linter.unusedSimpArgs false
set_option linter.unusedVariables false
open Go.RowKit
set_option maxHeartbeats 8000000 in
set_option maxRecDepth 10000000 in
theorem ir_4 (r : Nat) (h0 : 128 ≤ r) (h1 : r < 55296 ∨ (57343 < r ∧ r ≤ 1114111)) (hr : r ≠ 65533) (w : World) (hs : (Utf8.encode (r : Int)).size = 4) : Calls Try.prog 54 #[.string ⟨#[43, 35]⟩, .int .i32 (r : Int)] w fun e w' => e = .returned (.int .i64 (-1)) ∧ Below w.heap.size w w' := by
  have V := Lib.hid (Try.utf8_ValidRune (r : Int))
  have hvr : Lib.validRune (r : Int) = true := by unfold Lib.validRune; simp; omega
  rw [hvr] at V
  clear hvr
  have hr' : ((r : Int) == 65533) = false := by rw [beq_eq_false_iff_ne]; omega
  have h0' : (128 : Int) ≤ r := by omega
  replace hr := Lib.hid hr
  replace h1 := Lib.hid h1
  clear h0
  go_enter Try.func54, Try.ntmps54
  go_wp2_with fail
  refine (V.out _).mono ?_
  rintro e w1 ⟨rfl, rfl⟩
  clear V
  go_wp2_with fail
  go_step3
  go_wp2_with fail
  refine wp_loop_once ?_
  go_wp2_with fail
  first
    | (go_ret; exact ⟨rfl, Below.refl _ _⟩)
    | (simp only [Exit.noGoto, Exit.inBlock]; go_ret; exact ⟨rfl, Below.refl _ _⟩)
    | (go_wp2; go_ret; exact ⟨rfl, Below.refl _ _⟩)
end Go.Proofs.Ytfdaooaooalknaa
