/-
  LAYER 11: contracts of Right, Publish, Told, the program's and the document's.
-/
import Derived.Test.YtceiipcdkonnlaaDoorProg
import Derived.Test.YtceiipcdkonnlaaDoorCom
import Derived.WalkLawsBesides
import Derived.WalkSpells
import Derived.Deep.DeepMust
import Derived.Deep.DeepFit
import Derived.Outline
namespace Go.Proofs.YtceiipcdkonnlaaDoor
set_option linter.unusedSimpArgs false
set_option linter.unusedVariables false
open Go.RowKit

/-- The table's third place. -/
def Tab (w : World) : Prop := w.cell? ⟨2, 2, none⟩ = some (.int .u16 15423)

/-- The flags that a message's packet may have. -/
def MayBe (f : Int) : Prop := f = 0 ∨ f = 1 ∨ f = 2 ∨ f = 3 ∨ f = 4 ∨ f = 5 ∨ f = 10 ∨ f = 11 ∨ f = 12 ∨ f = 13
theorem right_ok (f : Int) (w : World) (ht : Tab w) (h : MayBe f) : Calls Tryd.prog 30 #[.int .i64 3, .int .i64 f] w fun e w' => e = .returned (.int .i64 0) ∧ w = w' := by
  unfold Tab at ht
  rcases h with rfl | rfl | rfl | rfl | rfl | rfl | rfl | rfl | rfl | rfl
  all_goals
    go_enter Tryd.func30, Tryd.ntmps30
    go_wp2
    go_ret
    exact ⟨rfl, rfl⟩
end Go.Proofs.YtceiipcdkonnlaaDoor
