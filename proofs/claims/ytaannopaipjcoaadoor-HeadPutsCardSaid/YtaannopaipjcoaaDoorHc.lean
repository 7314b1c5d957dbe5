/-
  LAYER 11: contracts of Told, the program's and the document's; awake.
-/
import Derived.Test.YtaannopaipjcoaaDoorHb
namespace Go.Proofs.YtaannopaipjcoaaDoor
open Go.RowKit

def Tell (f : Int) : Value := .tuple #[.bool (decide (8 ≤ f)), .int .i64 (f / 2 % 4), .bool (decide (f % 2 = 1))]
def Void : Value := .tuple #[.bool false, .int .i64 0, .bool false]

set_option maxRecDepth 100000 in
theorem told_ok (f : Int) (w : World) (ht : Tab w) (h : MayBe f) : Calls Tryd.prog 15 #[.int .i64 f] w fun e w' => e = .returned (Tell f) ∧ w = w' := by
  have hr := right_ok f w ht h
  unfold Tell
  rcases h with rfl | rfl | rfl | rfl | rfl | rfl | rfl | rfl | rfl | rfl
  all_goals
    go_enter Tryd.func15, Tryd.ntmps15
    go_wp2_with (first | (go_at_call 9; refine hr.mono ?_; rintro e w' ⟨rfl, rfl⟩) | go_in)
    all_goals go_ret3
    all_goals exact ⟨rfl, rfl⟩
set_option maxRecDepth 100000 in
theorem told_bad (f : Int) (w : World) (ht : Tab w) (h : ¬ MayBe f) : Calls Tryd.prog 15 #[.int .i64 f] w fun e w' => e = .returned Void ∧ w = w' := by
  have hr := right_bad f w ht h
  unfold Void
  go_enter Tryd.func15, Tryd.ntmps15
  go_wp2_with (first | (go_at_call 9; refine hr.mono ?_; rintro e w' ⟨rfl, rfl⟩) | go_in)
  all_goals go_ret3
  all_goals exact ⟨rfl, rfl⟩
set_option maxRecDepth 100000 in
theorem reft_ok (f : Int) (w : World) (h : MayBe f) : Calls Tryd.prog 17 #[.int .i64 f] w fun e w' => e = .returned (Tell f) ∧ w = w' := by
  have hr := ref_ok f w h
  unfold Tell
  rcases h with rfl | rfl | rfl | rfl | rfl | rfl | rfl | rfl | rfl | rfl
  all_goals
    go_enter Tryd.func17, Tryd.ntmps17
    go_wp2_with (first | (go_at_call 10; refine hr.mono ?_; rintro e w' ⟨rfl, rfl⟩) | go_in)
    all_goals go_ret3
    all_goals exact ⟨rfl, rfl⟩
set_option maxRecDepth 100000 in
theorem reft_bad (f : Int) (w : World) (h : ¬ MayBe f) : Calls Tryd.prog 17 #[.int .i64 f] w fun e w' => e = .returned Void ∧ w = w' := by
  have hr := ref_bad f w h
  unfold Void
  go_enter Tryd.func17, Tryd.ntmps17
  go_wp2_with (first | (go_at_call 10; refine hr.mono ?_; rintro e w' ⟨rfl, rfl⟩) | go_in)
  all_goals go_ret3
  all_goals exact ⟨rfl, rfl⟩

end Go.Proofs.YtaannopaipjcoaaDoor
