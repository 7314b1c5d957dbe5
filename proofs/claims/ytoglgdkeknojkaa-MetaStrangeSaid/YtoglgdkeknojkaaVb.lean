/-
  LAYER 1: awake, and two laws.
-/
import Derived.Test.YtoglgdkeknojkaaVa
namespace Go.Proofs.Ytoglgdkeknojkaa
open Go.RowKit

end Go.Proofs.Ytoglgdkeknojkaa
