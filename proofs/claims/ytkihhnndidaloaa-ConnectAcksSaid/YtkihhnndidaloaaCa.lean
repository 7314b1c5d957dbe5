/-
  LAYER 13: the answer to who comes, of both sides.
-/
import Derived.Test.YtkihhnndidaloaaPd
namespace Go.Proofs.Ytkihhnndidaloaa
open Go.RowKit

def ackE (p : Bool) (c : Int) : Int := if c < 0 ∨ 5 < c then 1 else if p = true ∧ c ≠ 0 then 4 else 0
theorem rightack (p : Bool) (c : Int) (w : World) : Calls Try.prog 70 #[.bool p, .int .i64 c] w fun e w' => e = .returned (.int .i64 (ackE p c)) ∧ w = w' := by
  unfold ackE
  by_cases h : c < 0 ∨ 5 < c
  · rw [if_pos h]
    rcases (show c < 0 ∨ (0 ≤ c ∧ 5 < c) by omega) with h | ⟨h, h'⟩
    all_goals
      go_enter Try.func70, Try.ntmps70
      go_wp2
      go_ret
      exact ⟨rfl, rfl⟩
  · rw [if_neg h]
    have h0 : 0 ≤ c := by omega
    have h5 : c ≤ 5 := by omega
    cases p
    · rw [if_neg (by simp)]
      clear h
      go_enter Try.func70, Try.ntmps70
      go_wp2
      go_ret
      exact ⟨rfl, rfl⟩
    · by_cases hc : c = 0
      · rw [if_neg (by simp [hc])]
        subst hc
        go_enter Try.func70, Try.ntmps70
        go_wp2
        go_ret
        exact ⟨rfl, rfl⟩
      · rw [if_pos ⟨rfl, hc⟩]
        have hb : (c != 0) = true := by simpa using hc
        clear h hc
        go_enter Try.func70, Try.ntmps70
        go_wp2
        go_ret
        exact ⟨rfl, rfl⟩
def ackL (p : Bool) (c : Nat) : List Nat := [if p then 1 else 0, c]
theorem putack_ok (p : Bool) (c : Nat) (w : World) (h : ackE p c = 0) : Calls Try.prog 28 #[.bool p, .int .i64 c] w (Numb (ackL p c) 0 w) := by
  have R := fun w => rightack p c w
  rw [h] at R
  replace R := Lib.hid R
  have h5 : (c : Int) ≤ 5 := by
    unfold ackE at h
    split at h
    · exact absurd h (by decide)
    · omega
  clear h
  cases p
  · go_enter Try.func28, Try.ntmps28
    go_wp2_with fail
    refine (R.out _).mono ?_
    rintro e w1 ⟨rfl, rfl⟩
    go_wp2_with fail
    go_ret2
    exact ⟨_, rfl, lit_two w 0 c, ext_alloc _ _⟩
  · go_enter Try.func28, Try.ntmps28
    go_wp2_with fail
    refine (R.out _).mono ?_
    rintro e w1 ⟨rfl, rfl⟩
    go_wp2_with fail
    go_ret2
    exact ⟨_, rfl, lit_two w 1 c, ext_alloc _ _⟩
theorem putack_err (p : Bool) (c E : Int) (w : World) (h : ackE p c = E) (hE : E ≠ 0) : Calls Try.prog 28 #[.bool p, .int .i64 c] w (Numb [] E w) := by
  have R := fun w => rightack p c w
  rw [h] at R
  replace R := Lib.hid R
  have hb : (E != 0) = true := by simpa using hE
  clear h hE
  have : Calls Try.prog 28 #[.bool p, .int .i64 c] w fun e w' => e = .returned (.tuple #[.slice none 0 0, .int .i64 E]) ∧ w = w' := by
    go_enter Try.func28, Try.ntmps28
    go_wp2_with fail
    refine (R.out _).mono ?_
    rintro e w1 ⟨rfl, rfl⟩
    go_wp2_with fail
    go_ret2
    exact ⟨rfl, rfl⟩
  refine this.mono ?_
  rintro e w' ⟨rfl, rfl⟩
  exact ⟨_, rfl, ⟨none, 0, rfl, ⟨by simp, fun _ => rfl⟩, .inl rfl⟩, Below.refl _ _⟩
theorem rputack (p : Bool) (c : Int) (w : World) (b : -9223372036854775808 ≤ c ∧ c ≤ 9223372036854775807) : Calls Try.prog 29 #[.bool p, .int .i64 c] w (Numb (if ackE p c = 0 then ackL p c.toNat else []) (ackE p c) w) := by
  by_cases h : c < 0 ∨ 5 < c
  · have hE : ackE p c = 1 := by unfold ackE; rw [if_pos h]
    rw [hE, if_neg (by decide)]
    clear hE
    have : Calls Try.prog 29 #[.bool p, .int .i64 c] w fun e w' => e = .returned (.tuple #[.slice none 0 0, .int .i64 1]) ∧ w = w' := by
      rcases (show c < 0 ∨ (0 ≤ c ∧ 5 < c) by omega) with h | ⟨h, h'⟩
      all_goals
        go_enter Try.func29, Try.ntmps29
        go_wp2
        go_ret2
        exact ⟨rfl, rfl⟩
    refine this.mono ?_
    rintro e w' ⟨rfl, rfl⟩
    exact ⟨_, rfl, ⟨none, 0, rfl, ⟨by simp, fun _ => rfl⟩, .inl rfl⟩, Below.refl _ _⟩
  · obtain ⟨c, rfl⟩ := Int.eq_ofNat_of_zero_le (show 0 ≤ c by omega)
    have h5 : (c : Int) ≤ 5 := by omega
    cases p
    · have hE : ackE false c = 0 := by unfold ackE; rw [if_neg h, if_neg (by simp)]
      rw [hE, if_pos rfl, Int.toNat_natCast]
      clear h hE
      go_enter Try.func29, Try.ntmps29
      go_wp2
      go_ret2
      exact ⟨_, rfl, lit_two w 0 c, ext_alloc _ _⟩
    · by_cases hc : c = 0
      · subst hc
        have hE : ackE true ((0 : Nat) : Int) = 0 := by decide
        rw [hE, if_pos rfl]
        clear h hE
        go_enter Try.func29, Try.ntmps29
        go_wp2
        go_ret2
        exact ⟨_, rfl, lit_two w 1 0, ext_alloc _ _⟩
      · have hE : ackE true c = 4 := by unfold ackE; rw [if_neg h, if_pos ⟨rfl, by omega⟩]
        rw [hE, if_neg (by decide)]
        clear hE
        have hb : ((c : Int) != 0) = true := by simp; omega
        clear h hc
        have : Calls Try.prog 29 #[.bool true, .int .i64 c] w fun e w' => e = .returned (.tuple #[.slice none 0 0, .int .i64 4]) ∧ w = w' := by
          go_enter Try.func29, Try.ntmps29
          go_wp2
          go_ret2
          exact ⟨rfl, rfl⟩
        refine this.mono ?_
        rintro e w' ⟨rfl, rfl⟩
        exact ⟨_, rfl, ⟨none, 0, rfl, ⟨by simp, fun _ => rfl⟩, .inl rfl⟩, Below.refl _ _⟩
end Go.Proofs.Ytkihhnndidaloaa
