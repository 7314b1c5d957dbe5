/-
  LAYER 29: contracts.
-/
import Derived.Test.YtaannopaipjcoabProg
import Derived.Test.YtaannopaipjcoabCom
import Derived.WalkLawsBesides
import Derived.WalkSpells
import Derived.Deep.DeepMust
import Derived.Deep.DeepFit
import Derived.Outline
namespace Go.Proofs.Ytaannopaipjcoab
open Go.RowKit

set_option maxRecDepth 100000 in
theorem awake_any (w : World) : Calls Try.prog 19 #[] w (Yes w) := by
  go_enter Try.func19, Try.ntmps19
  go_wp2
  go_end0
  go_wp2
  go_end0
  go_wp2
  go_ret
  exact ⟨rfl, by repeat (first | exact Below.refl _ _ | refine Below.drew ?_ | refine Below.alloc ?_ (by simp) _ | refine Below.setCell ?_ (by simp) _)⟩
set_option maxRecDepth 100000 in
theorem zero_any (n : Int) (w : World) : Calls Try.prog 6 #[.int .i64 n] w (Yes w) := by
  go_enter Try.func6, Try.ntmps6
  go_wp2_with (first | (go_at_call 19; refine (awake_any _).mono ?_; rintro e w' ⟨rfl, hb⟩) | go_in)
  go_ret
  exact ⟨rfl, ext_trans (by repeat (first | exact Below.refl _ _ | refine Below.drew ?_ | refine Below.alloc ?_ (by simp) _ | refine Below.setCell ?_ (by simp) _)) hb⟩
end Go.Proofs.Ytaannopaipjcoab
