/-
  LAYER 18: the document's covers.
-/
import Derived.Test.YtfdaooaooalknaaVa
namespace Go.Proofs.Ytfdaooaooalknaa
set_option linter.unusedSimpArgs false
set_option linter.unusedVariables false
open Go.RowKit

end Go.Proofs.Ytfdaooaooalknaa
