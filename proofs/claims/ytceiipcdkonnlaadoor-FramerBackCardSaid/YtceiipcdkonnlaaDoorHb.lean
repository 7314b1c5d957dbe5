/-
  LAYER 11: contracts of Publish, the program's and the document's; of what a kind and flags that may not be answer.
-/
import Derived.Test.YtceiipcdkonnlaaDoorHa
namespace Go.Proofs.YtceiipcdkonnlaaDoor
set_option linter.unusedSimpArgs false
set_option linter.unusedVariables false
open Go.RowKit

def Pub (dup : Bool) (qos : Int) (retain : Bool) : Int := if qos < 0 ∨ 2 < qos ∨ (dup = true ∧ qos = 0) then -1 else 2 * qos + (if dup then 8 else 0) + (if retain then 1 else 0)

theorem qos_cases (q : Int) : q < 0 ∨ 2 < q ∨ q = 0 ∨ q = 1 ∨ q = 2 := by omega

theorem not_may (f : Int) (h : ¬ MayBe f) : f < 0 ∨ 15 < f ∨ f = 6 ∨ f = 7 ∨ f = 8 ∨ f = 9 ∨ f = 14 ∨ f = 15 := by
  unfold MayBe at h
  omega

set_option maxRecDepth 100000 in
theorem right_bad (f : Int) (w : World) (ht : Tab w) (h : ¬ MayBe f) : Calls Tryd.prog 30 #[.int .i64 3, .int .i64 f] w fun e w' => e = .returned (.int .i64 10) ∧ w = w' := by
  unfold Tab at ht
  rcases not_may f h with h | h | rfl | rfl | rfl | rfl | rfl | rfl
  all_goals
    go_enter Tryd.func30, Tryd.ntmps30
    go_wp2
    all_goals go_ret
    all_goals exact ⟨rfl, rfl⟩

set_option maxRecDepth 100000 in
theorem ref_ok (f : Int) (w : World) (h : MayBe f) : Calls Tryd.prog 25 #[.int .i64 3, .int .i64 f] w fun e w' => e = .returned (.int .i64 0) ∧ w = w' := by
  rcases h with rfl | rfl | rfl | rfl | rfl | rfl | rfl | rfl | rfl | rfl
  all_goals
    go_enter Tryd.func25, Tryd.ntmps25
    go_wp2
    all_goals go_ret
    all_goals exact ⟨rfl, rfl⟩
set_option maxRecDepth 100000 in
theorem ref_bad (f : Int) (w : World) (h : ¬ MayBe f) : Calls Tryd.prog 25 #[.int .i64 3, .int .i64 f] w fun e w' => e = .returned (.int .i64 10) ∧ w = w' := by
  rcases not_may f h with h | h | rfl | rfl | rfl | rfl | rfl | rfl
  all_goals
    go_enter Tryd.func25, Tryd.ntmps25
    go_wp2
    all_goals go_ret
    all_goals exact ⟨rfl, rfl⟩
end Go.Proofs.YtceiipcdkonnlaaDoor
