/-
  LAYER 11: Right, of any kind and any flags, the program's and the document's.
-/
import Derived.Test.YtceiipcdkonnlaaDoorHb
import Derived.Lib.Hide
namespace Go.Proofs.YtceiipcdkonnlaaDoor
set_option linter.unusedSimpArgs false
set_option linter.unusedVariables false
open Go.RowKit

/-- The table's three places. -/
def Tab3 (w : World) : Prop := w.cell? ⟨2, 0, none⟩ = some (.int .u16 1) ∧ w.cell? ⟨2, 1, none⟩ = some (.int .u16 4) ∧ w.cell? ⟨2, 2, none⟩ = some (.int .u16 15423)
theorem Tab3.tab {w : World} (h : Tab3 w) : Tab w := h.2.2
def MayBe' (f : Int) : Bool := decide (f = 0 ∨ f = 1 ∨ f = 2 ∨ f = 3 ∨ f = 4 ∨ f = 5 ∨ f = 10 ∨ f = 11 ∨ f = 12 ∨ f = 13)
def RightF (k f : Int) : Int :=
  if k < 1 ∨ 14 < k then 11 else if k = 3 then (if MayBe f then 0 else 10) else if k = 6 ∨ k = 8 ∨ k = 10 then (if f = 2 then 0 else 10) else if f = 0 then 0 else 10
where MayBe (f : Int) : Bool := MayBe' f

theorem row_mid (k : Int) (w : World) (h : k = 6 ∨ k = 8 ∨ k = 10) : Calls Tryd.prog 36 #[.int .i64 k] w fun e w' => e = .returned (.int .i64 1) ∧ w = w' := by
  rcases h with rfl | rfl | rfl
  all_goals
    go_enter Tryd.func36, Tryd.ntmps36
    go_wp2
    go_ret
    exact ⟨rfl, rfl⟩
theorem row_low (k : Int) (w : World) (h3 : ((k == 3) = false)) (h6 : ((k == 6) = false)) (h8 : ((k == 8) = false)) (h10 : ((k == 10) = false)) : Calls Tryd.prog 36 #[.int .i64 k] w fun e w' => e = .returned (.int .i64 0) ∧ w = w' := by
  go_enter Tryd.func36, Tryd.ntmps36
  go_wp2
  go_ret
  exact ⟨rfl, rfl⟩
theorem flags_cases (f : Int) : f < 0 ∨ 15 < f ∨ f = 0 ∨ f = 1 ∨ f = 2 ∨ f = 3 ∨ f = 4 ∨ f = 5 ∨ f = 6 ∨ f = 7 ∨ f = 8 ∨ f = 9 ∨ f = 10 ∨ f = 11 ∨ f = 12 ∨ f = 13 ∨ f = 14 ∨ f = 15 := by omega

set_option maxRecDepth 100000 in
theorem right_mid (k f : Int) (w : World) (ht : Tab3 w) (h : k = 6 ∨ k = 8 ∨ k = 10) : Calls Tryd.prog 30 #[.int .i64 k, .int .i64 f] w fun e w' => e = .returned (.int .i64 (if f = 2 then 0 else 10)) ∧ w = w' := by
  have hr := row_mid k w h
  obtain ⟨_, t1, _⟩ := ht
  have k1 : 1 ≤ k := by omega
  have k2 : k ≤ 14 := by omega
  clear h
  rcases flags_cases f with h | h | rfl | rfl | rfl | rfl | rfl | rfl | rfl | rfl | rfl | rfl | rfl | rfl | rfl | rfl | rfl | rfl
  · rw [if_neg (by omega)]
    go_enter Tryd.func30, Tryd.ntmps30
    go_wp2_with (go_at_call 36; refine hr.mono ?_; rintro e w' ⟨rfl, rfl⟩)
    go_ret
    exact ⟨rfl, rfl⟩
  · rw [if_neg (by omega)]
    go_enter Tryd.func30, Tryd.ntmps30
    go_wp2_with (go_at_call 36; refine hr.mono ?_; rintro e w' ⟨rfl, rfl⟩)
    go_ret
    exact ⟨rfl, rfl⟩
  all_goals
    go_enter Tryd.func30, Tryd.ntmps30
    go_wp2_with (go_at_call 36; refine hr.mono ?_; rintro e w' ⟨rfl, rfl⟩)
    go_ret
    exact ⟨rfl, rfl⟩
set_option maxRecDepth 100000 in
theorem right_low (k f : Int) (w : World) (ht : Tab3 w) (k1 : 1 ≤ k) (k2 : k ≤ 14) (h3 : ((k == 3) = false)) (h6 : ((k == 6) = false)) (h8 : ((k == 8) = false)) (h10 : ((k == 10) = false)) : Calls Tryd.prog 30 #[.int .i64 k, .int .i64 f] w fun e w' => e = .returned (.int .i64 (if f = 0 then 0 else 10)) ∧ w = w' := by
  have hr := row_low k w h3 h6 h8 h10
  obtain ⟨t0, _, _⟩ := ht
  clear h3 h6 h8 h10
  rcases flags_cases f with h | h | rfl | rfl | rfl | rfl | rfl | rfl | rfl | rfl | rfl | rfl | rfl | rfl | rfl | rfl | rfl | rfl
  · rw [if_neg (by omega)]
    go_enter Tryd.func30, Tryd.ntmps30
    go_wp2_with (go_at_call 36; refine hr.mono ?_; rintro e w' ⟨rfl, rfl⟩)
    go_ret
    exact ⟨rfl, rfl⟩
  · rw [if_neg (by omega)]
    go_enter Tryd.func30, Tryd.ntmps30
    go_wp2_with (go_at_call 36; refine hr.mono ?_; rintro e w' ⟨rfl, rfl⟩)
    go_ret
    exact ⟨rfl, rfl⟩
  all_goals
    go_enter Tryd.func30, Tryd.ntmps30
    go_wp2_with (go_at_call 36; refine hr.mono ?_; rintro e w' ⟨rfl, rfl⟩)
    go_ret
    exact ⟨rfl, rfl⟩

theorem kinds (k : Int) : (k < 1 ∨ 14 < k) ∨ k = 3 ∨ (k = 6 ∨ k = 8 ∨ k = 10) ∨ (1 ≤ k ∧ k ≤ 14 ∧ ((k == 3) = false) ∧ ((k == 6) = false) ∧ ((k == 8) = false) ∧ ((k == 10) = false)) := by
  by_cases h1 : k < 1 ∨ 14 < k
  · exact .inl h1
  · by_cases h3 : k = 3
    · exact .inr (.inl h3)
    · by_cases h6 : k = 6 ∨ k = 8 ∨ k = 10
      · exact .inr (.inr (.inl h6))
      · right; right; right
        refine ⟨by omega, by omega, ?_, ?_, ?_, ?_⟩ <;> rw [beq_eq_false_iff_ne] <;> omega
theorem mayBe_iff (f : Int) : RightF.MayBe f = true ↔ MayBe f := by unfold RightF.MayBe MayBe' MayBe; exact decide_eq_true_iff
theorem right_any (k f : Int) (w : World) (ht : Tab3 w) : Calls Tryd.prog 30 #[.int .i64 k, .int .i64 f] w fun e w' => e = .returned (.int .i64 (RightF k f)) ∧ w = w' := by
  unfold RightF
  rcases kinds k with h | rfl | h | ⟨k1, k2, h3, h6, h8, h10⟩
  · rw [if_pos h]
    rcases h with h | h
    all_goals
      go_enter Tryd.func30, Tryd.ntmps30
      go_wp2
      go_ret
      exact ⟨rfl, rfl⟩
  · rw [if_neg (by decide), if_pos rfl]
    by_cases hm : MayBe f
    · rw [if_pos ((mayBe_iff f).2 hm)]
      exact right_ok f w ht.tab hm
    · rw [if_neg (fun h => hm ((mayBe_iff f).1 h))]
      exact right_bad f w ht.tab hm
  · rw [if_neg (by omega), if_neg (by omega), if_pos h]
    exact right_mid k f w ht h
  · have n3 := beq_eq_false_iff_ne.1 h3
    have n6 := beq_eq_false_iff_ne.1 h6
    have n8 := beq_eq_false_iff_ne.1 h8
    have n10 := beq_eq_false_iff_ne.1 h10
    rw [if_neg (by omega), if_neg n3, if_neg (by rintro (h | h | h) <;> contradiction)]
    exact right_low k f w ht k1 k2 h3 h6 h8 h10

theorem ref_any (k f : Int) (w : World) : Calls Tryd.prog 25 #[.int .i64 k, .int .i64 f] w fun e w' => e = .returned (.int .i64 (RightF k f)) ∧ w = w' := by
  unfold RightF
  rcases kinds k with h | rfl | h | ⟨k1, k2, h3, h6, h8, h10⟩
  · rw [if_pos h]
    rcases h with h | h
    all_goals
      go_enter Tryd.func25, Tryd.ntmps25
      go_wp2
      go_ret
      exact ⟨rfl, rfl⟩
  · rw [if_neg (by decide), if_pos rfl]
    by_cases hm : MayBe f
    · rw [if_pos ((mayBe_iff f).2 hm)]
      exact ref_ok f w hm
    · rw [if_neg (fun h => hm ((mayBe_iff f).1 h))]
      exact ref_bad f w hm
  · rw [if_neg (by omega), if_neg (by omega), if_pos h]
    by_cases hf : f = 2
    · subst hf
      rw [if_pos rfl]
      rcases h with rfl | rfl | rfl
      all_goals
        go_enter Tryd.func25, Tryd.ntmps25
        go_wp2
        go_ret
        exact ⟨rfl, rfl⟩
    · rw [if_neg hf]
      have hb : (f != 2) = true := by simpa using hf
      clear hf
      rcases h with rfl | rfl | rfl
      all_goals
        go_enter Tryd.func25, Tryd.ntmps25
        go_wp2
        go_ret
        exact ⟨rfl, rfl⟩
  · have n3 := beq_eq_false_iff_ne.1 h3
    have n6 := beq_eq_false_iff_ne.1 h6
    have n8 := beq_eq_false_iff_ne.1 h8
    have n10 := beq_eq_false_iff_ne.1 h10
    rw [if_neg (by omega), if_neg n3, if_neg (by rintro (h | h | h) <;> contradiction)]
    clear n3 n6 n8 n10
    by_cases hf : f = 0
    · subst hf
      rw [if_pos rfl]
      go_enter Tryd.func25, Tryd.ntmps25
      go_wp2
      go_ret
      exact ⟨rfl, rfl⟩
    · rw [if_neg hf]
      have hb : (f != 0) = true := by simpa using hf
      clear hf
      go_enter Tryd.func25, Tryd.ntmps25
      go_wp2
      go_ret
      exact ⟨rfl, rfl⟩
end Go.Proofs.YtceiipcdkonnlaaDoor
