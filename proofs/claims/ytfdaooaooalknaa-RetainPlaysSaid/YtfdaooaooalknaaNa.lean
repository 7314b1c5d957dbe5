/-
  LAYER 17: Name of any text at all.
-/
import Derived.Test.YtfdaooaooalknaaIrf
import Derived.Test.YtfdaooaooalknaaSh
namespace Go.Proofs.Ytfdaooaooalknaa
set_option linter.unusedSimpArgs false
set_option linter.unusedVariables false
open Go.RowKit

theorem far_fits (s : ByteArray) (w : World) (h : 96 < s.size) (hs : s.size ≤ 140737488351232) : Calls Try.prog 27 #[.string s] w (BoolIs false w) := by
  have he := size1 (s := s) (by omega)
  have h96' : ¬ (s.size : Int) ≤ 96 := by omega
  have hs' : (s.size : Int) ≤ 140737488351232 := by omega
  replace h := Lib.hid h
  replace hs := Lib.hid hs
  go_enter Try.func27, Try.ntmps27
  go_wp2_with fail
  go_ret
  exact ⟨rfl, Below.refl _ _⟩
theorem nam_far (s : ByteArray) (w : World) (hs : s.size ≤ 140737488351232) : Calls Try.prog 18 #[.string s] w (BoolIs (nameB s) w) := by
  by_cases h : s.size ≤ 1048576
  · exact name_any s w h (fun _ => ca_all iRune s h)
  have e : nameB s = false := by
    unfold nameB fitsB
    rw [decide_eq_false (p := s.size ≤ 96) (by omega)]; simp
  rw [e]
  have F := Lib.hid (fun w => far_fits s w (by omega) hs)
  replace h := Lib.hid h
  clear hs e
  go_enter Try.func18, Try.ntmps18
  go_wp2_with fail
  refine (F.out _).mono ?_
  rintro e w1 ⟨rfl, b1⟩
  go_wp2_with fail
  go_ret
  exact ⟨rfl, b1⟩
end Go.Proofs.Ytfdaooaooalknaa
