/-
  LAYER 13: the answer to who comes, of both sides.
-/
import Derived.Test.YtmpklaokgogigaaDoorPh
import Derived.Deep.QuietTactic
import Derived.BigQuiet
namespace Go.Proofs.YtmpklaokgogigaaDoor.Pub
set_option linter.unusedSimpArgs false
set_option linter.unusedVariables false
open Go.RowKit

def ackE (p : Bool) (c : Int) : Int := if c < 0 ∨ 5 < c then 1 else if p = true ∧ c ≠ 0 then 4 else 0
theorem rightack (p : Bool) (c : Int) (w : World) : Calls Tryd.prog 60 #[.bool p, .int .i64 c] w fun e w' => e = .returned (.int .i64 (ackE p c)) ∧ w = w' := by
  unfold ackE
  by_cases h : c < 0 ∨ 5 < c
  · rw [if_pos h]
    rcases (show c < 0 ∨ (0 ≤ c ∧ 5 < c) by omega) with h | ⟨h, h'⟩
    all_goals
      go_enter Tryd.func60, Tryd.ntmps60
      go_wp2
      go_ret
      exact ⟨rfl, rfl⟩
  · rw [if_neg h]
    have h0 : 0 ≤ c := by omega
    have h5 : c ≤ 5 := by omega
    cases p
    · rw [if_neg (by simp)]
      clear h
      go_enter Tryd.func60, Tryd.ntmps60
      go_wp2
      go_ret
      exact ⟨rfl, rfl⟩
    · by_cases hc : c = 0
      · rw [if_neg (by simp [hc])]
        subst hc
        go_enter Tryd.func60, Tryd.ntmps60
        go_wp2
        go_ret
        exact ⟨rfl, rfl⟩
      · rw [if_pos ⟨rfl, hc⟩]
        have hb : (c != 0) = true := by simpa using hc
        clear h hc
        go_enter Tryd.func60, Tryd.ntmps60
        go_wp2
        go_ret
        exact ⟨rfl, rfl⟩
def ackL (p : Bool) (c : Nat) : List Nat := [if p then 1 else 0, c]
theorem putack_ok (p : Bool) (c : Nat) (w : World) (h : ackE p c = 0) : Calls Tryd.prog 76 #[.bool p, .int .i64 c] w (Numb (ackL p c) 0 w) := by
  have R := fun w => rightack p c w
  rw [h] at R
  replace R := Lib.hid R
  have h5 : (c : Int) ≤ 5 := by
    unfold ackE at h
    split at h
    · exact absurd h (by decide)
    · omega
  clear h
  cases p
  · go_enter Tryd.func76, Tryd.ntmps76
    go_wp2_with fail
    refine (R.out _).mono ?_
    rintro e w1 ⟨rfl, rfl⟩
    go_wp2_with fail
    go_ret2
    exact ⟨_, rfl, lit_two w 0 c, ext_alloc _ _⟩
  · go_enter Tryd.func76, Tryd.ntmps76
    go_wp2_with fail
    refine (R.out _).mono ?_
    rintro e w1 ⟨rfl, rfl⟩
    go_wp2_with fail
    go_ret2
    exact ⟨_, rfl, lit_two w 1 c, ext_alloc _ _⟩
theorem putack_err (p : Bool) (c E : Int) (w : World) (h : ackE p c = E) (hE : E ≠ 0) : Calls Tryd.prog 76 #[.bool p, .int .i64 c] w (Numb [] E w) := by
  have R := fun w => rightack p c w
  rw [h] at R
  replace R := Lib.hid R
  have hb : (E != 0) = true := by simpa using hE
  clear h hE
  have : Calls Tryd.prog 76 #[.bool p, .int .i64 c] w fun e w' => e = .returned (.tuple #[.slice none 0 0, .int .i64 E]) ∧ w = w' := by
    go_enter Tryd.func76, Tryd.ntmps76
    go_wp2_with fail
    refine (R.out _).mono ?_
    rintro e w1 ⟨rfl, rfl⟩
    go_wp2_with fail
    go_ret2
    exact ⟨rfl, rfl⟩
  refine this.mono ?_
  rintro e w' ⟨rfl, rfl⟩
  exact ⟨_, rfl, ⟨none, 0, rfl, ⟨by simp, fun _ => rfl⟩, .inl rfl⟩, Below.refl _ _⟩
end Go.Proofs.YtmpklaokgogigaaDoor.Pub

/-
  LAYER 13: an answer read, the program's.
-/
namespace Go.Proofs.YtmpklaokgogigaaDoor.Pub
set_option linter.unusedSimpArgs false
set_option linter.unusedVariables false
open Go.RowKit

def AckPost (p : Bool) (c E : Int) (w : World) (e : Ending) (w' : World) : Prop := e = .returned (.tuple #[.bool p, .int .i64 c, .int .i64 E]) ∧ Below w.heap.size w w'
set_option maxRecDepth 100000 in
theorem ofack_len (s : ByteArray) (w : World) (h : s.size ≠ 2) : Calls Tryd.prog 31 #[.string s] w (AckPost false 0 4 w) := by
  have h' : ((s.size : Int) != 2) = true := by simp; omega
  replace h := Lib.hid h
  go_enter Tryd.func31, Tryd.ntmps31
  go_wp2_with fail
  go_ret3
  exact ⟨rfl, Below.refl _ _⟩
set_option maxHeartbeats 1000000 in
set_option maxRecDepth 100000 in
theorem ofack_two (s : ByteArray) (p : Bool) (w : World) (h : s.size = 2) (h0 : 0 < s.size) (h1 : 1 < s.size) (hx : ((s[0]'h0).toNat : Int) ≤ 1) (hp : (((s[0]'h0).toNat : Int) == 1) = p) :
    Calls Tryd.prog 31 #[.string s] w (AckPost (if ackE p (s[1]'h1).toNat = 0 then p else false) (if ackE p (s[1]'h1).toNat = 0 then ((s[1]'h1).toNat : Int) else 0) (ackE p (s[1]'h1).toNat) w) := by
  have h' : ((s.size : Int) != 2) = false := by simp; omega
  have h0' : (0 : Int) < s.size := by omega
  have hy1 : (0 : Int) ≤ (s[1]'h1).toNat := by omega
  have hy2 : ((s[1]'h1).toNat : Int) ≤ 255 := by have := UInt8.toNat_lt (s[1]'h1); omega
  have h1' : (1 : Int) < s.size := by omega
  have R := fun w => rightack p (s[1]'h1).toNat w
  generalize hE : ackE p (s[1]'h1).toNat = E at *
  replace h := Lib.hid h
  replace R := Lib.hid R
  by_cases hz : E = 0
  · rw [if_pos hz, if_pos hz]
    subst hz
    clear hE
    cases p
    all_goals
      go_enter Tryd.func31, Tryd.ntmps31
      go_wp2
      go_quiet (fail)
      go_wp2_with fail
      refine (R.out _).mono ?_
      rintro e w' ⟨rfl, rfl⟩
      go_wp2_with fail
      go_ret3
      exact ⟨rfl, below_drewN (Below.refl _ _) _⟩
  · rw [if_neg hz, if_neg hz]
    have hb : (E != 0) = true := by simpa using hz
    clear hz hE
    cases p
    all_goals
      go_enter Tryd.func31, Tryd.ntmps31
      go_wp2
      go_quiet (fail)
      go_wp2_with fail
      refine (R.out _).mono ?_
      rintro e w' ⟨rfl, rfl⟩
      go_wp2_with fail
      go_ret3
      exact ⟨rfl, below_drewN (Below.refl _ _) _⟩
end Go.Proofs.YtmpklaokgogigaaDoor.Pub

/-
  LAYER 13: an answer read, of both sides, of any bytes.
-/
namespace Go.Proofs.YtmpklaokgogigaaDoor.Pub
set_option linter.unusedSimpArgs false
set_option linter.unusedVariables false
open Go.RowKit

def ackF (s : ByteArray) : Bool × Int × Int :=
  if s.size = 2 then (if 1 < gB s 0 then (false, 0, 4) else if ackE (gB s 0 == 1) (gB s 1) = 0 then (gB s 0 == 1, (gB s 1 : Int), 0) else (false, 0, ackE (gB s 0 == 1) (gB s 1))) else (false, 0, 4)
set_option maxRecDepth 100000 in
theorem rofack_len (s : ByteArray) (w : World) (h : s.size ≠ 2) : Calls Tryd.prog 38 #[.string s] w (AckPost false 0 4 w) := by
  have h' : ((s.size : Int) != 2) = true := by simp; omega
  replace h := Lib.hid h
  go_enter Tryd.func38, Tryd.ntmps38
  go_wp2_with fail
  go_ret3
  exact ⟨rfl, Below.refl _ _⟩
set_option maxRecDepth 100000 in
theorem ofack_big (f : FuncId) (hf : f = 31 ∨ f = 38) (s : ByteArray) (w : World) (h : s.size = 2) (h0 : 0 < s.size) (hx : 1 < ((s[0]'h0).toNat : Int)) : Calls Tryd.prog f #[.string s] w (AckPost false 0 4 w) := by
  have h' : ((s.size : Int) != 2) = false := by simp; omega
  have h0' : (0 : Int) < s.size := by omega
  replace h := Lib.hid h
  rcases hf with rfl | rfl
  · go_enter Tryd.func31, Tryd.ntmps31
    go_wp2_with fail
    go_ret3
    exact ⟨rfl, Below.refl _ _⟩
  · go_enter Tryd.func38, Tryd.ntmps38
    go_wp2_with fail
    go_ret3
    exact ⟨rfl, Below.refl _ _⟩
set_option maxHeartbeats 1000000 in
set_option maxRecDepth 100000 in
theorem rofack_two (s : ByteArray) (w : World) (h : s.size = 2) (h0 : 0 < s.size) (h1 : 1 < s.size) (p : Bool) (hx : ((s[0]'h0).toNat : Int) ≤ 1) (hp : (((s[0]'h0).toNat : Int) == 1) = p) (E : Int) (hE : ackE p (s[1]'h1).toNat = E) :
    Calls Tryd.prog 38 #[.string s] w (AckPost (if E = 0 then p else false) (if E = 0 then ((s[1]'h1).toNat : Int) else 0) E w) := by
  have h' : ((s.size : Int) != 2) = false := by simp; omega
  have h0' : (0 : Int) < s.size := by omega
  have hy1 : (0 : Int) ≤ (s[1]'h1).toNat := by omega
  have hy2 : ((s[1]'h1).toNat : Int) ≤ 255 := by have := UInt8.toNat_lt (s[1]'h1); omega
  have h1' : (1 : Int) < s.size := by omega
  replace h := Lib.hid h
  unfold ackE at hE
  by_cases h5 : 5 < ((s[1]'h1).toNat : Int)
  · rw [if_pos (by omega)] at hE
    subst hE
    rw [if_neg (by decide), if_neg (by decide)]
    clear hp
    go_enter Tryd.func38, Tryd.ntmps38
    go_wp2_with fail
    go_ret3
    exact ⟨rfl, Below.refl _ _⟩
  · rw [if_neg (by omega)] at hE
    have h5' : ((s[1]'h1).toNat : Int) ≤ 5 := by omega
    clear h5
    cases p
    · rw [if_neg (by simp)] at hE
      subst hE
      rw [if_pos rfl, if_pos rfl]
      go_enter Tryd.func38, Tryd.ntmps38
      go_wp2
      go_quiet (fail)
      go_wp2_with fail
      go_ret3
      exact ⟨rfl, below_drewN (Below.refl _ _) _⟩
    · by_cases hc : ((s[1]'h1).toNat : Int) = 0
      · have hb : (((s[1]'h1).toNat : Int) != 0) = false := by simpa using hc
        rw [if_neg (by simp [hc])] at hE
        subst hE
        rw [if_pos rfl, if_pos rfl]
        replace hc := Lib.hid hc
        go_enter Tryd.func38, Tryd.ntmps38
        go_wp2
        go_quiet (fail)
        go_wp2_with fail
        go_ret3
        exact ⟨rfl, below_drewN (Below.refl _ _) _⟩
      · have hb : (((s[1]'h1).toNat : Int) != 0) = true := by simpa using hc
        rw [if_pos ⟨rfl, hc⟩] at hE
        subst hE
        rw [if_neg (by decide), if_neg (by decide)]
        clear hc
        go_enter Tryd.func38, Tryd.ntmps38
        go_wp2_with fail
        go_ret3
        exact ⟨rfl, Below.refl _ _⟩
theorem beq_cast (n : Nat) : (n == 1) = ((n : Int) == 1) := by
  by_cases h : n = 1
  · subst h; rfl
  · rw [beq_eq_false_iff_ne.2 h, beq_eq_false_iff_ne.2 (by omega)]
theorem ofacks (s : ByteArray) (w : World) : Calls Tryd.prog 31 #[.string s] w (AckPost (ackF s).1 (ackF s).2.1 (ackF s).2.2 w) ∧ Calls Tryd.prog 38 #[.string s] w (AckPost (ackF s).1 (ackF s).2.1 (ackF s).2.2 w) := by
  by_cases h : s.size = 2
  · have h0 : 0 < s.size := by omega
    have h1 : 1 < s.size := by omega
    have e0 := gB_at s 0 h0
    have e1 := gB_at s 1 h1
    by_cases hx : 1 < gB s 0
    · have hF : ackF s = (false, 0, 4) := by unfold ackF; rw [if_pos h, if_pos hx]
      rw [hF]
      exact ⟨ofack_big 31 (.inl rfl) s w h h0 (by omega), ofack_big 38 (.inr rfl) s w h h0 (by omega)⟩
    · obtain ⟨E, hE⟩ : ∃ E, ackE (gB s 0 == 1) (gB s 1) = E := ⟨_, rfl⟩
      have hF : ackF s = (if E = 0 then (gB s 0 == 1) else false, if E = 0 then (gB s 1 : Int) else 0, E) := by
        unfold ackF; rw [if_pos h, if_neg hx, hE]; split <;> simp_all
      rw [hF]
      have A := ofack_two s (gB s 0 == 1) w h h0 h1 (by omega) (by rw [e0, beq_cast])
      have B := rofack_two s w h h0 h1 (gB s 0 == 1) (by omega) (by rw [e0, beq_cast]) E (by rw [e1]; exact hE)
      rw [e1, hE] at A
      rw [e1] at B
      exact ⟨A, B⟩
  · have hF : ackF s = (false, 0, 4) := by unfold ackF; rw [if_neg h]
    rw [hF]
    exact ⟨ofack_len s w h, rofack_len s w h⟩
end Go.Proofs.YtmpklaokgogigaaDoor.Pub
