/-
  IdsZero: the law, given that it is awake.
-/
import Derived.Test.YtdcnnghnnahhcabProg
import Derived.Test.YtdcnnghnnahhcabCom
import Derived.WalkLawsBesides
import Derived.WalkSpells
import Derived.Laws.OwnMore
import Derived.Deep.DeepMust
import Derived.Deep.DeepFit
import Derived.Outline
namespace Go.Proofs.Ytdcnnghnnahhcab
open Go.RowKit

set_option maxHeartbeats 2000000 in
set_option maxRecDepth 100000 in
theorem izero_of (awake14 : ∀ w, Calls Try.prog 14 #[] w (Yes w)) (n : Int) (w : World) : Calls Try.prog 3 #[.int .i64 n] w (Yes w) := by
  go_enter Try.func3, Try.ntmps3
  go_wp2_with (first | (go_at_call 14; refine (awake14 _).mono ?_; rintro e w' ⟨rfl, hb⟩) | go_in)
  go_ret
  exact ⟨rfl, ext_trans (by repeat (first | exact Below.refl _ _ | refine Below.drew ?_ | refine Below.alloc ?_ (by first | (simp; done) | (simp; omega)) _)) hb⟩
end Go.Proofs.Ytdcnnghnnahhcab
