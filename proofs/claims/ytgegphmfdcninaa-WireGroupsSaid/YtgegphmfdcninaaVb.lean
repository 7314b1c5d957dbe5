/-
  LAYER 1: awake, and two laws.
-/
import Derived.Test.YtgegphmfdcninaaVa
namespace Go.Proofs.Ytgegphmfdcninaa
open Go.RowKit

end Go.Proofs.Ytgegphmfdcninaa
