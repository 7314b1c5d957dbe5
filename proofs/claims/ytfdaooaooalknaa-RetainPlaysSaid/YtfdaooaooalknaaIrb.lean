/-
  LAYER 17: strings.IndexRune("+#", r) is -1, for a rune r of two bytes.
-/
import Derived.Test.YtfdaooaooalknaaSc
import Derived.Laws.Runes
import Derived.Deep.QuietTactic
import Derived.BigQuiet
import Derived.WalkSmall
namespace Go.Proofs.Ytfdaooaooalknaa
set_option linter.unusedSimpArgs false
set_option linter.unusedVariables false
open Go.RowKit
set_option maxHeartbeats 8000000 in
set_option maxRecDepth 10000000 in
theorem ir_2 (r : Nat) (h0 : 128 ≤ r) (h1 : r < 55296 ∨ (57343 < r ∧ r ≤ 1114111)) (hr : r ≠ 65533) (w : World) (hs : (Utf8.encode (r : Int)).size = 2) (hb : ∀ h, 128 ≤ (((Utf8.encode (r : Int))[1]'h).toNat : Int)) : Calls Try.prog 54 #[.string ⟨#[43, 35]⟩, .int .i32 (r : Int)] w fun e w' => e = .returned (.int .i64 (-1)) ∧ Below w.heap.size w w' := by
  have V := Lib.hid (Try.utf8_ValidRune (r : Int))
  have hvr : Lib.validRune (r : Int) = true := by unfold Lib.validRune; simp; omega
  rw [hvr] at V
  clear hvr
  have hr' : ((r : Int) == 65533) = false := by rw [beq_eq_false_iff_ne]; omega
  have h0' : (128 : Int) ≤ r := by omega
  replace hr := Lib.hid hr
  replace h1 := Lib.hid h1
  clear h0
  go_enter Try.func54, Try.ntmps54
  go_wp2_with fail
  refine (V.out _).mono ?_
  rintro e w1 ⟨rfl, rfl⟩
  clear V
  go_wp2_with fail
  go_step3
  go_wp2_with fail
  refine wp_loop_once ?_
  have IBe := Lib.hid fun (c : Int) (w : World) => (show Calls Try.prog 71 #[.string ByteArray.empty, .int .u8 c] w fun e w' => e = .returned (.int .i64 (-1)) ∧ w' = w from (Try.strings_IndexByte ByteArray.empty c w).mono fun e w' ⟨h1, h2⟩ => ⟨by rw [h1]; rfl, h2⟩)
  have w2 : IntKind.i64.wrap 2 = 2 := by decide
  have t2 : (2 : Int).toNat = 2 := rfl
  generalize Utf8.encode (r : Int) = rs at *
  have hlt : 1 < rs.size := by omega
  have hlt' : (1 : Int) < rs.size := by omega
  have hb1 := hb hlt
  have hne : ((35 : Int) == ((rs[1]'hlt).toNat : Int)) = false := by rw [beq_eq_false_iff_ne]; omega
  have hne2 : ((35 : Int) != ((rs[1]'hlt).toNat : Int)) = true := by simp only [bne, hne]; rfl
  have hne3 : ((((⟨#[43, 35]⟩ : ByteArray)[1]'(by decide)).toNat : Int) != ((rs[1]'hlt).toNat : Int)) = true := by rw [show (((⟨#[43, 35]⟩ : ByteArray)[1]'(by decide)).toNat : Int) = 35 from rfl]; exact hne2
  clear hb
  go_wp2_with fail
  go_step3
  try go_wp2_with fail
  go_quiet (fail)
  go_wp2_with fail
  go_quiet (exact (IBe.out _ _).mono fun e w'' ⟨h1, h2⟩ => ⟨h1, _, h2⟩)
  go_wp2_with fail
  simp +zetaDelta only [Exit.noGoto, Exit.inBlock, Exit.then]
  go_ret
  first
    | exact ⟨rfl, below_drewN (Below.refl _ _) _⟩
    | exact ⟨rfl, below_drewN (below_drewN (Below.refl _ _) _) _⟩
end Go.Proofs.Ytfdaooaooalknaa
