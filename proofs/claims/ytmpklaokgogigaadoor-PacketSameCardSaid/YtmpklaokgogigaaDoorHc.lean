/-
  LAYER 11: contracts of Right, Publish, Told, the program's and the document's.
-/
import Derived.Test.YtmpklaokgogigaaDoorProg
import Derived.Test.YtmpklaokgogigaaDoorCom
import Derived.WalkLawsBesides
import Derived.WalkSpells
import Derived.Deep.DeepMust
import Derived.Deep.DeepFit
import Derived.Outline
namespace Go.Proofs.YtmpklaokgogigaaDoor.Hea
set_option linter.unusedSimpArgs false
set_option linter.unusedVariables false
open Go.RowKit

/-- The table's third place. -/
def Tab (w : World) : Prop := w.cell? ⟨0, 2, none⟩ = some (.int .u16 15423)

/-- The flags that a message's packet may have. -/
def MayBe (f : Int) : Prop := f = 0 ∨ f = 1 ∨ f = 2 ∨ f = 3 ∨ f = 4 ∨ f = 5 ∨ f = 10 ∨ f = 11 ∨ f = 12 ∨ f = 13
theorem right_ok (f : Int) (w : World) (ht : Tab w) (h : MayBe f) : Calls Tryd.prog 16 #[.int .i64 3, .int .i64 f] w fun e w' => e = .returned (.int .i64 0) ∧ w = w' := by
  unfold Tab at ht
  rcases h with rfl | rfl | rfl | rfl | rfl | rfl | rfl | rfl | rfl | rfl
  all_goals
    go_enter Tryd.func16, Tryd.ntmps16
    go_wp2
    go_ret
    exact ⟨rfl, rfl⟩
end Go.Proofs.YtmpklaokgogigaaDoor.Hea

/-
  LAYER 11: contracts of Publish, the program's and the document's; of what a kind and flags that may not be answer.
-/
namespace Go.Proofs.YtmpklaokgogigaaDoor.Hea
set_option linter.unusedSimpArgs false
set_option linter.unusedVariables false
open Go.RowKit

def Pub (dup : Bool) (qos : Int) (retain : Bool) : Int := if qos < 0 ∨ 2 < qos ∨ (dup = true ∧ qos = 0) then -1 else 2 * qos + (if dup then 8 else 0) + (if retain then 1 else 0)

theorem qos_cases (q : Int) : q < 0 ∨ 2 < q ∨ q = 0 ∨ q = 1 ∨ q = 2 := by omega

set_option maxRecDepth 100000 in
theorem pub14 (dup : Bool) (qos : Int) (retain : Bool) (w : World) : Calls Tryd.prog 52 #[.bool dup, .int .i64 qos, .bool retain] w fun e w' => e = .returned (.int .i64 (Pub dup qos retain)) ∧ w = w' := by
  unfold Pub
  rcases qos_cases qos with h | h | rfl | rfl | rfl
  · go_enter Tryd.func52, Tryd.ntmps52
    go_wp2
    all_goals go_ret
    all_goals exact ⟨rfl, rfl⟩
  · go_enter Tryd.func52, Tryd.ntmps52
    go_wp2
    all_goals go_ret
    all_goals exact ⟨rfl, rfl⟩
  all_goals cases dup <;> cases retain
  all_goals
    go_enter Tryd.func52, Tryd.ntmps52
    go_wp2
    all_goals go_ret
    all_goals exact ⟨rfl, rfl⟩

theorem not_may (f : Int) (h : ¬ MayBe f) : f < 0 ∨ 15 < f ∨ f = 6 ∨ f = 7 ∨ f = 8 ∨ f = 9 ∨ f = 14 ∨ f = 15 := by
  unfold MayBe at h
  omega

set_option maxRecDepth 100000 in
theorem right_bad (f : Int) (w : World) (ht : Tab w) (h : ¬ MayBe f) : Calls Tryd.prog 16 #[.int .i64 3, .int .i64 f] w fun e w' => e = .returned (.int .i64 10) ∧ w = w' := by
  unfold Tab at ht
  rcases not_may f h with h | h | rfl | rfl | rfl | rfl | rfl | rfl
  all_goals
    go_enter Tryd.func16, Tryd.ntmps16
    go_wp2
    all_goals go_ret
    all_goals exact ⟨rfl, rfl⟩

set_option maxRecDepth 100000 in
theorem ref_ok (f : Int) (w : World) (h : MayBe f) : Calls Tryd.prog 18 #[.int .i64 3, .int .i64 f] w fun e w' => e = .returned (.int .i64 0) ∧ w = w' := by
  rcases h with rfl | rfl | rfl | rfl | rfl | rfl | rfl | rfl | rfl | rfl
  all_goals
    go_enter Tryd.func18, Tryd.ntmps18
    go_wp2
    all_goals go_ret
    all_goals exact ⟨rfl, rfl⟩
set_option maxRecDepth 100000 in
theorem ref_bad (f : Int) (w : World) (h : ¬ MayBe f) : Calls Tryd.prog 18 #[.int .i64 3, .int .i64 f] w fun e w' => e = .returned (.int .i64 10) ∧ w = w' := by
  rcases not_may f h with h | h | rfl | rfl | rfl | rfl | rfl | rfl
  all_goals
    go_enter Tryd.func18, Tryd.ntmps18
    go_wp2
    all_goals go_ret
    all_goals exact ⟨rfl, rfl⟩
end Go.Proofs.YtmpklaokgogigaaDoor.Hea

/-
  LAYER 11: contracts of Told, the program's and the document's; awake.
-/
namespace Go.Proofs.YtmpklaokgogigaaDoor.Hea
set_option linter.unusedSimpArgs false
set_option linter.unusedVariables false
open Go.RowKit

def Tell (f : Int) : Value := .tuple #[.bool (decide (8 ≤ f)), .int .i64 (f / 2 % 4), .bool (decide (f % 2 = 1))]
def Void : Value := .tuple #[.bool false, .int .i64 0, .bool false]

set_option maxRecDepth 100000 in
theorem told_ok (f : Int) (w : World) (ht : Tab w) (h : MayBe f) : Calls Tryd.prog 32 #[.int .i64 f] w fun e w' => e = .returned (Tell f) ∧ w = w' := by
  have hr := right_ok f w ht h
  unfold Tell
  rcases h with rfl | rfl | rfl | rfl | rfl | rfl | rfl | rfl | rfl | rfl
  all_goals
    go_enter Tryd.func32, Tryd.ntmps32
    go_wp2_with (first | (go_at_call 16; refine hr.mono ?_; rintro e w' ⟨rfl, rfl⟩) | go_in)
    all_goals go_ret3
    all_goals exact ⟨rfl, rfl⟩
set_option maxRecDepth 100000 in
theorem told_bad (f : Int) (w : World) (ht : Tab w) (h : ¬ MayBe f) : Calls Tryd.prog 32 #[.int .i64 f] w fun e w' => e = .returned Void ∧ w = w' := by
  have hr := right_bad f w ht h
  unfold Void
  go_enter Tryd.func32, Tryd.ntmps32
  go_wp2_with (first | (go_at_call 16; refine hr.mono ?_; rintro e w' ⟨rfl, rfl⟩) | go_in)
  all_goals go_ret3
  all_goals exact ⟨rfl, rfl⟩
set_option maxRecDepth 100000 in
theorem reft_ok (f : Int) (w : World) (h : MayBe f) : Calls Tryd.prog 39 #[.int .i64 f] w fun e w' => e = .returned (Tell f) ∧ w = w' := by
  have hr := ref_ok f w h
  unfold Tell
  rcases h with rfl | rfl | rfl | rfl | rfl | rfl | rfl | rfl | rfl | rfl
  all_goals
    go_enter Tryd.func39, Tryd.ntmps39
    go_wp2_with (first | (go_at_call 18; refine hr.mono ?_; rintro e w' ⟨rfl, rfl⟩) | go_in)
    all_goals go_ret3
    all_goals exact ⟨rfl, rfl⟩
set_option maxRecDepth 100000 in
theorem reft_bad (f : Int) (w : World) (h : ¬ MayBe f) : Calls Tryd.prog 39 #[.int .i64 f] w fun e w' => e = .returned Void ∧ w = w' := by
  have hr := ref_bad f w h
  unfold Void
  go_enter Tryd.func39, Tryd.ntmps39
  go_wp2_with (first | (go_at_call 18; refine hr.mono ?_; rintro e w' ⟨rfl, rfl⟩) | go_in)
  all_goals go_ret3
  all_goals exact ⟨rfl, rfl⟩

end Go.Proofs.YtmpklaokgogigaaDoor.Hea
