/-
  RateZero: awake.
-/
import Derived.Test.YtdcnnghnnahhcabProg
import Derived.Test.YtdcnnghnnahhcabCom
import Derived.WalkLawsBesides
import Derived.WalkSpells
import Derived.Laws.OwnMore
import Derived.Deep.DeepMust
import Derived.Deep.DeepFit
import Derived.Outline
namespace Go.Proofs.Ytdcnnghnnahhcab
open Go.RowKit

theorem m_push (v : Value) (w : World) : (method 334 100 v "Push").run Try.prog w = .ok (212, v) w := by kernel_rfl
theorem as_grant (v : Value) (w : World) : (Instr.typeAssert (.iface 99 v) 20 99 false).run Try.prog w = .ok v w := by kernel_rfl

end Go.Proofs.Ytdcnnghnnahhcab
