/-
  LAYER 2: both sides' Get4 and Get8 of any place.
-/
import Derived.Test.YtoglgdkeknojkaaDoorFs
namespace Go.Proofs.YtoglgdkeknojkaaDoor
open Go.RowKit

def Got (k : IntKind) (x m e : Int) (w : World) (en : Ending) (w' : World) : Prop := en = .returned (.tuple #[.int k x, .int .i64 m, .int .i64 e]) ∧ w = w'
end Go.Proofs.YtoglgdkeknojkaaDoor
