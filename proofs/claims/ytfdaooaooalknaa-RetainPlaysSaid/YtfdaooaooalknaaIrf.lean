/-
  LAYER 17: strings.IndexRune("+#", r) is -1 at every rune above 127.
-/
import Derived.Test.YtfdaooaooalknaaSh
import Derived.Test.YtfdaooaooalknaaIrb
import Derived.Test.YtfdaooaooalknaaIrc
import Derived.Test.YtfdaooaooalknaaIrd
import Derived.Test.YtfdaooaooalknaaIre
import Derived.Laws.Runes
namespace Go.Proofs.Ytfdaooaooalknaa
set_option linter.unusedSimpArgs false
set_option linter.unusedVariables false
open Go.RowKit
theorem iRune : IRune := fun r w h0 h1 => by
  by_cases hr : r = 65533
  · subst hr; exact ir_e w
  have hv : Utf8.valid (r : Int) = true := by
    unfold Utf8.valid
    simp
    omega
  obtain ⟨a, b, c⟩ := encode_facts (r : Int) hv (by omega)
  rcases (show (Utf8.encode (r : Int)).size = 2 ∨ (Utf8.encode (r : Int)).size = 3 ∨ (Utf8.encode (r : Int)).size = 4 by omega) with h | h | h
  · refine ir_2 r h0 h1 hr w h (fun hx => ?_)
    have e : (Utf8.encode (r : Int)).size - 1 = 1 := by omega
    have h3 := c (by omega)
    simp only [e] at h3
    omega
  · exact ir_3 r h0 h1 hr w h
  · exact ir_4 r h0 h1 hr w h
end Go.Proofs.Ytfdaooaooalknaa
