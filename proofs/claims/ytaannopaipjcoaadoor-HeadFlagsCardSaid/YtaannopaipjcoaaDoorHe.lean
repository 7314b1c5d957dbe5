/-
  LAYER 11: MADE AND TOLD: the law's walk.
-/
import Derived.Test.YtaannopaipjcoaaDoorHd
namespace Go.Proofs.YtaannopaipjcoaaDoor
open Go.RowKit

theorem pub_or (dup : Bool) (qos : Int) (retain : Bool) : Pub dup qos retain = -1 ∨
    (MayBe (Pub dup qos retain) ∧ 0 ≤ Pub dup qos retain ∧ Tell (Pub dup qos retain) = .tuple #[.bool dup, .int .i64 qos, .bool retain]) := by
  unfold Pub
  by_cases h : qos < 0 ∨ 2 < qos ∨ (dup = true ∧ qos = 0)
  · exact .inl (if_pos h)
  · right
    rw [if_neg h]
    have hq : qos = 0 ∨ qos = 1 ∨ qos = 2 := by omega
    rcases hq with rfl | rfl | rfl <;> cases dup <;> cases retain <;> first | (exfalso; simp at h; done) | exact ⟨by unfold MayBe; decide, by decide, rfl⟩
theorem tell_pub (f : Int) (h : MayBe f) : ∃ a b c, Tell f = .tuple #[.bool a, .int .i64 b, .bool c] ∧ Pub a b c = f := by
  rcases h with rfl | rfl | rfl | rfl | rfl | rfl | rfl | rfl | rfl | rfl <;> exact ⟨_, _, _, rfl, rfl⟩
theorem not_minus : ¬ MayBe (-1) := by unfold MayBe; decide


set_option maxHeartbeats 1000000 in
set_option maxRecDepth 100000 in
theorem flags_bb (dup : Bool) (qos : Int) (retain : Bool) (f p : Int) (w : World) (ht : Tab w)
    (k14 : Calls Tryd.prog 14 #[.bool dup, .int .i64 qos, .bool retain] w fun e w' => e = .returned (.int .i64 p) ∧ w = w')
    (k16 : Calls Tryd.prog 16 #[.bool dup, .int .i64 qos, .bool retain] w fun e w' => e = .returned (.int .i64 p) ∧ w = w')
    (hp : p = -1) (k15 : Calls Tryd.prog 15 #[.int .i64 (-1)] w fun e w' => e = .returned (.tuple #[.bool false, .int .i64 0, .bool false]) ∧ w = w')
    (l15 : Calls Tryd.prog 15 #[.int .i64 f] w fun e w' => e = .returned (.tuple #[.bool false, .int .i64 0, .bool false]) ∧ w = w') (l17 : Calls Tryd.prog 17 #[.int .i64 f] w fun e w' => e = .returned (.tuple #[.bool false, .int .i64 0, .bool false]) ∧ w = w') (l9 : Calls Tryd.prog 9 #[.int .i64 3, .int .i64 f] w fun e w' => e = .returned (.int .i64 10) ∧ w = w') :
    Calls Tryd.prog 6 #[.bool dup, .int .i64 qos, .bool retain, .int .i64 f] w (Yes w) := by
  subst hp
  go_enter Tryd.func6, Tryd.ntmps6
  go_wp2_with fail
  refine (k14).mono ?_
  rintro e w' ⟨rfl, rfl⟩
  go_wp2_with fail
  refine (k15).mono ?_
  rintro e w' ⟨rfl, rfl⟩
  go_wp2_with fail
  refine (k16).mono ?_
  rintro e w' ⟨rfl, rfl⟩
  go_wp2_with fail
  refine (l15).mono ?_
  rintro e w' ⟨rfl, rfl⟩
  go_wp2_with fail
  refine (l17).mono ?_
  rintro e w' ⟨rfl, rfl⟩
  go_wp2_with fail
  refine (l9).mono ?_
  rintro e w' ⟨rfl, rfl⟩
  go_wp2_with fail
  refine (awake_any _ ht).mono ?_
  rintro e w' ⟨rfl, hb⟩
  go_wp2_with fail
  go_ret
  exact ⟨rfl, hb⟩

set_option maxHeartbeats 1000000 in
set_option maxRecDepth 100000 in
theorem flags_bo (dup : Bool) (qos : Int) (retain : Bool) (f p : Int) (w : World) (ht : Tab w)
    (k14 : Calls Tryd.prog 14 #[.bool dup, .int .i64 qos, .bool retain] w fun e w' => e = .returned (.int .i64 p) ∧ w = w')
    (k16 : Calls Tryd.prog 16 #[.bool dup, .int .i64 qos, .bool retain] w fun e w' => e = .returned (.int .i64 p) ∧ w = w')
    (hp : p = -1) (k15 : Calls Tryd.prog 15 #[.int .i64 (-1)] w fun e w' => e = .returned (.tuple #[.bool false, .int .i64 0, .bool false]) ∧ w = w')
    (a : Bool) (b : Int) (c : Bool) (l15 : Calls Tryd.prog 15 #[.int .i64 f] w fun e w' => e = .returned (.tuple #[.bool a, .int .i64 b, .bool c]) ∧ w = w') (l17 : Calls Tryd.prog 17 #[.int .i64 f] w fun e w' => e = .returned (.tuple #[.bool a, .int .i64 b, .bool c]) ∧ w = w') (l9 : Calls Tryd.prog 9 #[.int .i64 3, .int .i64 f] w fun e w' => e = .returned (.int .i64 0) ∧ w = w') (l14 : Calls Tryd.prog 14 #[.bool a, .int .i64 b, .bool c] w fun e w' => e = .returned (.int .i64 f) ∧ w = w') :
    Calls Tryd.prog 6 #[.bool dup, .int .i64 qos, .bool retain, .int .i64 f] w (Yes w) := by
  subst hp
  go_enter Tryd.func6, Tryd.ntmps6
  go_wp2_with fail
  refine (k14).mono ?_
  rintro e w' ⟨rfl, rfl⟩
  go_wp2_with fail
  refine (k15).mono ?_
  rintro e w' ⟨rfl, rfl⟩
  go_wp2_with fail
  refine (k16).mono ?_
  rintro e w' ⟨rfl, rfl⟩
  go_wp2_with fail
  refine (l15).mono ?_
  rintro e w' ⟨rfl, rfl⟩
  go_wp2_with fail
  refine (l17).mono ?_
  rintro e w' ⟨rfl, rfl⟩
  go_wp2_with fail
  refine (l9).mono ?_
  rintro e w' ⟨rfl, rfl⟩
  go_wp2_with fail
  refine (l14).mono ?_
  rintro e w' ⟨rfl, rfl⟩
  go_wp2_with fail
  refine (awake_any _ ht).mono ?_
  rintro e w' ⟨rfl, hb⟩
  go_wp2_with fail
  go_ret
  exact ⟨rfl, hb⟩

set_option maxHeartbeats 1000000 in
set_option maxRecDepth 100000 in
theorem flags_ob (dup : Bool) (qos : Int) (retain : Bool) (f p : Int) (w : World) (ht : Tab w)
    (k14 : Calls Tryd.prog 14 #[.bool dup, .int .i64 qos, .bool retain] w fun e w' => e = .returned (.int .i64 p) ∧ w = w')
    (k16 : Calls Tryd.prog 16 #[.bool dup, .int .i64 qos, .bool retain] w fun e w' => e = .returned (.int .i64 p) ∧ w = w')
    (h0 : 0 ≤ p) (k15 : Calls Tryd.prog 15 #[.int .i64 p] w fun e w' => e = .returned (.tuple #[.bool dup, .int .i64 qos, .bool retain]) ∧ w = w') (k9 : Calls Tryd.prog 9 #[.int .i64 3, .int .i64 p] w fun e w' => e = .returned (.int .i64 0) ∧ w = w')
    (l15 : Calls Tryd.prog 15 #[.int .i64 f] w fun e w' => e = .returned (.tuple #[.bool false, .int .i64 0, .bool false]) ∧ w = w') (l17 : Calls Tryd.prog 17 #[.int .i64 f] w fun e w' => e = .returned (.tuple #[.bool false, .int .i64 0, .bool false]) ∧ w = w') (l9 : Calls Tryd.prog 9 #[.int .i64 3, .int .i64 f] w fun e w' => e = .returned (.int .i64 10) ∧ w = w') :
    Calls Tryd.prog 6 #[.bool dup, .int .i64 qos, .bool retain, .int .i64 f] w (Yes w) := by
  go_enter Tryd.func6, Tryd.ntmps6
  go_wp2_with fail
  refine (k14).mono ?_
  rintro e w' ⟨rfl, rfl⟩
  go_wp2_with fail
  refine (k15).mono ?_
  rintro e w' ⟨rfl, rfl⟩
  go_wp2_with fail
  refine (k16).mono ?_
  rintro e w' ⟨rfl, rfl⟩
  go_wp2_with fail
  refine (k9).mono ?_
  rintro e w' ⟨rfl, rfl⟩
  go_wp2_with fail
  refine (l15).mono ?_
  rintro e w' ⟨rfl, rfl⟩
  go_wp2_with fail
  refine (l17).mono ?_
  rintro e w' ⟨rfl, rfl⟩
  go_wp2_with fail
  refine (l9).mono ?_
  rintro e w' ⟨rfl, rfl⟩
  go_wp2_with fail
  refine (awake_any _ ht).mono ?_
  rintro e w' ⟨rfl, hb⟩
  go_wp2_with fail
  go_ret
  exact ⟨rfl, hb⟩

set_option maxHeartbeats 1000000 in
set_option maxRecDepth 100000 in
theorem flags_oo (dup : Bool) (qos : Int) (retain : Bool) (f p : Int) (w : World) (ht : Tab w)
    (k14 : Calls Tryd.prog 14 #[.bool dup, .int .i64 qos, .bool retain] w fun e w' => e = .returned (.int .i64 p) ∧ w = w')
    (k16 : Calls Tryd.prog 16 #[.bool dup, .int .i64 qos, .bool retain] w fun e w' => e = .returned (.int .i64 p) ∧ w = w')
    (h0 : 0 ≤ p) (k15 : Calls Tryd.prog 15 #[.int .i64 p] w fun e w' => e = .returned (.tuple #[.bool dup, .int .i64 qos, .bool retain]) ∧ w = w') (k9 : Calls Tryd.prog 9 #[.int .i64 3, .int .i64 p] w fun e w' => e = .returned (.int .i64 0) ∧ w = w')
    (a : Bool) (b : Int) (c : Bool) (l15 : Calls Tryd.prog 15 #[.int .i64 f] w fun e w' => e = .returned (.tuple #[.bool a, .int .i64 b, .bool c]) ∧ w = w') (l17 : Calls Tryd.prog 17 #[.int .i64 f] w fun e w' => e = .returned (.tuple #[.bool a, .int .i64 b, .bool c]) ∧ w = w') (l9 : Calls Tryd.prog 9 #[.int .i64 3, .int .i64 f] w fun e w' => e = .returned (.int .i64 0) ∧ w = w') (l14 : Calls Tryd.prog 14 #[.bool a, .int .i64 b, .bool c] w fun e w' => e = .returned (.int .i64 f) ∧ w = w') :
    Calls Tryd.prog 6 #[.bool dup, .int .i64 qos, .bool retain, .int .i64 f] w (Yes w) := by
  go_enter Tryd.func6, Tryd.ntmps6
  go_wp2_with fail
  refine (k14).mono ?_
  rintro e w' ⟨rfl, rfl⟩
  go_wp2_with fail
  refine (k15).mono ?_
  rintro e w' ⟨rfl, rfl⟩
  go_wp2_with fail
  refine (k16).mono ?_
  rintro e w' ⟨rfl, rfl⟩
  go_wp2_with fail
  refine (k9).mono ?_
  rintro e w' ⟨rfl, rfl⟩
  go_wp2_with fail
  refine (l15).mono ?_
  rintro e w' ⟨rfl, rfl⟩
  go_wp2_with fail
  refine (l17).mono ?_
  rintro e w' ⟨rfl, rfl⟩
  go_wp2_with fail
  refine (l9).mono ?_
  rintro e w' ⟨rfl, rfl⟩
  go_wp2_with fail
  refine (l14).mono ?_
  rintro e w' ⟨rfl, rfl⟩
  go_wp2_with fail
  refine (awake_any _ ht).mono ?_
  rintro e w' ⟨rfl, hb⟩
  go_wp2_with fail
  go_ret
  exact ⟨rfl, hb⟩

theorem flags_any (dup : Bool) (qos : Int) (retain : Bool) (f : Int) (w : World) (ht : Tab w) : Calls Tryd.prog 6 #[.bool dup, .int .i64 qos, .bool retain, .int .i64 f] w (Yes w) := by
  have k14 := pub14 dup qos retain w
  have k16 := pub16 dup qos retain w
  have hor := pub_or dup qos retain
  generalize Pub dup qos retain = p at k14 k16 hor
  rcases hor with hp | ⟨hm, h0, hT⟩
  · have k15 := told_bad (-1) w ht not_minus
    rcases Classical.em (MayBe f) with hf | hf
    · obtain ⟨a, b, c, hT, hP⟩ := tell_pub f hf
      have l15 := told_ok f w ht hf
      have l17 := reft_ok f w hf
      have l14 := pub14 a b c w
      rw [hP] at l14
      rw [hT] at l15 l17
      exact flags_bo dup qos retain f p w ht k14 k16 hp k15 a b c l15 l17 (right_ok f w ht hf) l14
    · exact flags_bb dup qos retain f p w ht k14 k16 hp k15 (told_bad f w ht hf) (reft_bad f w hf) (right_bad f w ht hf)
  · have k15 := told_ok p w ht hm
    have k9 := right_ok p w ht hm
    rw [hT] at k15
    rcases Classical.em (MayBe f) with hf | hf
    · obtain ⟨a, b, c, hT, hP⟩ := tell_pub f hf
      have l15 := told_ok f w ht hf
      have l17 := reft_ok f w hf
      have l14 := pub14 a b c w
      rw [hP] at l14
      rw [hT] at l15 l17
      exact flags_oo dup qos retain f p w ht k14 k16 h0 k15 k9 a b c l15 l17 (right_ok f w ht hf) l14
    · exact flags_ob dup qos retain f p w ht k14 k16 h0 k15 k9 (told_bad f w ht hf) (reft_bad f w hf) (right_bad f w ht hf)
end Go.Proofs.YtaannopaipjcoaaDoor
