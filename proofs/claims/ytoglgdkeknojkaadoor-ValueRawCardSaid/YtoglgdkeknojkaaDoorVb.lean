/-
  LAYER 1: awake, and two laws.
-/
import Derived.Test.YtoglgdkeknojkaaDoorVa
namespace Go.Proofs.YtoglgdkeknojkaaDoor
open Go.RowKit

end Go.Proofs.YtoglgdkeknojkaaDoor
