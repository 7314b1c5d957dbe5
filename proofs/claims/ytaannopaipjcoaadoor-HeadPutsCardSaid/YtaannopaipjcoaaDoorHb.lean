/-
  LAYER 11: contracts of Publish, the program's and the document's; of what a kind and flags that may not be answer.
-/
import Derived.Test.YtaannopaipjcoaaDoorHa
namespace Go.Proofs.YtaannopaipjcoaaDoor
open Go.RowKit

def Pub (dup : Bool) (qos : Int) (retain : Bool) : Int := if qos < 0 ∨ 2 < qos ∨ (dup = true ∧ qos = 0) then -1 else 2 * qos + (if dup then 8 else 0) + (if retain then 1 else 0)

theorem qos_cases (q : Int) : q < 0 ∨ 2 < q ∨ q = 0 ∨ q = 1 ∨ q = 2 := by omega

set_option maxRecDepth 100000 in
theorem pub14 (dup : Bool) (qos : Int) (retain : Bool) (w : World) : Calls Tryd.prog 14 #[.bool dup, .int .i64 qos, .bool retain] w fun e w' => e = .returned (.int .i64 (Pub dup qos retain)) ∧ w = w' := by
  unfold Pub
  rcases qos_cases qos with h | h | rfl | rfl | rfl
  · go_enter Tryd.func14, Tryd.ntmps14
    go_wp2
    all_goals go_ret
    all_goals exact ⟨rfl, rfl⟩
  · go_enter Tryd.func14, Tryd.ntmps14
    go_wp2
    all_goals go_ret
    all_goals exact ⟨rfl, rfl⟩
  all_goals cases dup <;> cases retain
  all_goals
    go_enter Tryd.func14, Tryd.ntmps14
    go_wp2
    all_goals go_ret
    all_goals exact ⟨rfl, rfl⟩

set_option maxRecDepth 100000 in
theorem pub16 (dup : Bool) (qos : Int) (retain : Bool) (w : World) : Calls Tryd.prog 16 #[.bool dup, .int .i64 qos, .bool retain] w fun e w' => e = .returned (.int .i64 (Pub dup qos retain)) ∧ w = w' := by
  unfold Pub
  rcases qos_cases qos with h | h | rfl | rfl | rfl
  · go_enter Tryd.func16, Tryd.ntmps16
    go_wp2
    all_goals go_ret
    all_goals exact ⟨rfl, rfl⟩
  · go_enter Tryd.func16, Tryd.ntmps16
    go_wp2
    all_goals go_ret
    all_goals exact ⟨rfl, rfl⟩
  all_goals cases dup <;> cases retain
  all_goals
    go_enter Tryd.func16, Tryd.ntmps16
    go_wp2
    all_goals go_ret
    all_goals exact ⟨rfl, rfl⟩

theorem not_may (f : Int) (h : ¬ MayBe f) : f < 0 ∨ 15 < f ∨ f = 6 ∨ f = 7 ∨ f = 8 ∨ f = 9 ∨ f = 14 ∨ f = 15 := by
  unfold MayBe at h
  omega

set_option maxRecDepth 100000 in
theorem right_bad (f : Int) (w : World) (ht : Tab w) (h : ¬ MayBe f) : Calls Tryd.prog 9 #[.int .i64 3, .int .i64 f] w fun e w' => e = .returned (.int .i64 10) ∧ w = w' := by
  unfold Tab at ht
  rcases not_may f h with h | h | rfl | rfl | rfl | rfl | rfl | rfl
  all_goals
    go_enter Tryd.func9, Tryd.ntmps9
    go_wp2
    all_goals go_ret
    all_goals exact ⟨rfl, rfl⟩

set_option maxRecDepth 100000 in
theorem ref_ok (f : Int) (w : World) (h : MayBe f) : Calls Tryd.prog 10 #[.int .i64 3, .int .i64 f] w fun e w' => e = .returned (.int .i64 0) ∧ w = w' := by
  rcases h with rfl | rfl | rfl | rfl | rfl | rfl | rfl | rfl | rfl | rfl
  all_goals
    go_enter Tryd.func10, Tryd.ntmps10
    go_wp2
    all_goals go_ret
    all_goals exact ⟨rfl, rfl⟩
set_option maxRecDepth 100000 in
theorem ref_bad (f : Int) (w : World) (h : ¬ MayBe f) : Calls Tryd.prog 10 #[.int .i64 3, .int .i64 f] w fun e w' => e = .returned (.int .i64 10) ∧ w = w' := by
  rcases not_may f h with h | h | rfl | rfl | rfl | rfl | rfl | rfl
  all_goals
    go_enter Tryd.func10, Tryd.ntmps10
    go_wp2
    all_goals go_ret
    all_goals exact ⟨rfl, rfl⟩
end Go.Proofs.YtaannopaipjcoaaDoor
