/-
  LAYER 24: the search in a row that rises.
-/
import Derived.Test.YtceiipcdkonnlaaProg
import Derived.Test.YtceiipcdkonnlaaByt
import Derived.Test.YtceiipcdkonnlaaOw
import Derived.WalkLawsBesides
import Derived.WalkSpells
import Derived.Deep.DeepMust
import Derived.Deep.DeepFit
import Derived.Deep.QuietTactic
import Derived.BigQuiet
import Derived.StillTailTactics
import Derived.Deep.RegionHeld3
import Derived.Outline
namespace Go.Proofs.Ytceiipcdkonnlaa.Inb
set_option linter.unusedSimpArgs false
set_option linter.unusedVariables false
open Go.RowKit

theorem less_any (x y : Int) (w : World) : Calls Try.prog 79 #[.int .i64 x, .int .i64 y] w fun e w' => e = .returned (.bool (decide (x < y))) ∧ w = w' := by
  by_cases h : x < y
  · go_enter Try.func79, Try.ntmps79
    go_wp2
    go_ret
    exact ⟨by simp [h], rfl⟩
  · go_enter Try.func79, Try.ntmps79
    go_wp2
    go_ret
    exact ⟨by simp [h], rfl⟩
theorem nan_any (x : Int) (w : World) : Calls Try.prog 80 #[.int .i64 x] w fun e w' => e = .returned (.bool false) ∧ w = w' := by
  go_enter Try.func80, Try.ntmps80
  go_wp2
  go_ret
  exact ⟨by simp, rfl⟩

def Sorted (l : List Int) : Prop := ∀ i j, i < j → j < l.length → l.getD i 0 < l.getD j 0
/-- p is t's place in l. -/
structure Pos (l : List Int) (t : Int) (p : Nat) : Prop where
  le : p ≤ l.length
  low : ∀ k, k < p → l.getD k 0 < t
  high : ∀ k, p ≤ k → k < l.length → t ≤ l.getD k 0
def FindPost (l : List Int) (t : Int) (w : World) (e : Ending) (w' : World) : Prop :=
  ∃ p : Nat, Pos l t p ∧ e = .returned (.tuple #[.int .i64 p, .bool (decide (p < l.length ∧ l.getD p 0 = t))]) ∧ w = w'
def BsRel (l : List Int) (t : Int) (i j : Value) : Prop :=
  ∃ a b : Nat, a ≤ b ∧ b ≤ l.length ∧ i = .int .i64 a ∧ j = .int .i64 b ∧ (∀ k, k < a → l.getD k 0 < t) ∧ (∀ k, b ≤ k → k < l.length → t ≤ l.getD k 0)

set_option maxRecDepth 100000 in
theorem bsearch (b o cap : Nat) (l : List Int) (t : Int) (w : World) (hs : Sorted l) (hl : l.length ≤ 16)
    (hc : ∀ i, i < l.length → w.cell? ⟨b, o + i, none⟩ = some (.int .i64 (l.getD i 0))) :
    Calls Try.prog 70 #[.slice (some ⟨b, o, none⟩) l.length cap, .int .i64 t] w (FindPost l t w) := by
  have HS := Lib.hid hs
  clear hs
  go_enter Try.func70, Try.ntmps70
  go_wp2
  go_loop [7, 8] (fun i j => BsRel l t i j) (fun i j => (intOf j).toNat - (intOf i).toNat)
  case atStart => exact ⟨0, l.length, by omega, by omega, rfl, rfl, by omega, by omega⟩
  case round =>
    obtain ⟨x, y, hxy, hy, rfl, rfl, hlo, hhi⟩ := hrel
    have HLO := Lib.hid hlo
    have HHI := Lib.hid hhi
    clear hlo hhi
    by_cases hlt : x < y
    · have hm : (x + y) / 2 < l.length := by omega
      have hcell := hc ((x + y) / 2) hm
      have HC := Lib.hid hc
      clear hc
      obtain ⟨c, hcd⟩ : ∃ c, c = l.getD ((x + y) / 2) 0 := ⟨_, rfl⟩
      rw [← hcd] at hcell
      have HCD := Lib.hid hcd
      clear hcd
      by_cases hcmp : c < t
      · go_wp2_with (go_at_call 79; refine (less_any _ _ _).mono ?_; rintro e w' ⟨rfl, rfl⟩)
        go_round
        case rel =>
          refine ⟨(x + y) / 2 + 1, y, by omega, hy, by go_num, rfl, fun k hk => ?_, HHI.out⟩
          by_cases hk2 : k = (x + y) / 2
          · subst hk2; rw [← HCD.out]; exact hcmp
          · have := HS.out k ((x + y) / 2) (by omega) hm
            rw [← HCD.out] at this
            omega
        case measure => simp [intOf]; omega
      · go_wp2_with (go_at_call 79; refine (less_any _ _ _).mono ?_; rintro e w' ⟨rfl, rfl⟩)
        go_round
        case rel =>
          refine ⟨x, (x + y) / 2, by omega, by omega, rfl, by go_num, HLO.out, fun k hk hkl => ?_⟩
          by_cases hk2 : k = (x + y) / 2
          · subst hk2; rw [← HCD.out]; omega
          · have := HS.out ((x + y) / 2) k (by omega) hkl
            rw [← HCD.out] at this
            omega
        case measure => simp [intOf]; omega
    · obtain rfl : x = y := by omega
      have hP : Pos l t x := ⟨hy, HLO.out, HHI.out⟩
      have HP := Lib.hid hP
      clear hP
      by_cases hxl : x < l.length
      · have hcell := hc x hxl
        have HC := Lib.hid hc
        clear hc
        obtain ⟨c, hcd⟩ : ∃ c, c = l.getD x 0 := ⟨_, rfl⟩
        rw [← hcd] at hcell
        have HCD := Lib.hid hcd
        clear hcd
        by_cases hct : c = t
        · subst hct
          go_wp2_with (go_at_call 80; refine (nan_any _ _).mono ?_; rintro e w' ⟨rfl, rfl⟩)
          go_ret2
          refine ⟨x, HP.out, ?_, rfl⟩
          rw [← HCD.out]
          simp [hxl]
        · have hb : (c == t) = false := beq_eq_false_iff_ne.2 hct
          go_wp2_with (go_at_call 80; refine (nan_any _ _).mono ?_; rintro e w' ⟨rfl, rfl⟩)
          go_ret2
          refine ⟨x, HP.out, ?_, rfl⟩
          rw [← HCD.out]
          simp [hct]
      · go_wp2_with (go_at_call 80; refine (nan_any _ _).mono ?_; rintro e w' ⟨rfl, rfl⟩)
        all_goals go_ret2
        all_goals refine ⟨x, HP.out, ?_, rfl⟩
        all_goals simp [hxl]
end Go.Proofs.Ytceiipcdkonnlaa.Inb
