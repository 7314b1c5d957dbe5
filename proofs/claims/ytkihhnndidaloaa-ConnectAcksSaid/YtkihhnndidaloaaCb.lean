/-
  LAYER 13: an answer read, the program's.
-/
import Derived.Test.YtkihhnndidaloaaCa
import Derived.Deep.QuietTactic
import Derived.BigQuiet
namespace Go.Proofs.Ytkihhnndidaloaa
open Go.RowKit

def AckPost (p : Bool) (c E : Int) (w : World) (e : Ending) (w' : World) : Prop := e = .returned (.tuple #[.bool p, .int .i64 c, .int .i64 E]) ∧ Below w.heap.size w w'
set_option maxRecDepth 100000 in
theorem ofack_len (s : ByteArray) (w : World) (h : s.size ≠ 2) : Calls Try.prog 30 #[.string s] w (AckPost false 0 4 w) := by
  have h' : ((s.size : Int) != 2) = true := by simp; omega
  replace h := Lib.hid h
  go_enter Try.func30, Try.ntmps30
  go_wp2_with fail
  go_ret3
  exact ⟨rfl, Below.refl _ _⟩
set_option maxHeartbeats 1000000 in
set_option maxRecDepth 100000 in
theorem ofack_two (s : ByteArray) (p : Bool) (w : World) (h : s.size = 2) (h0 : 0 < s.size) (h1 : 1 < s.size) (hx : ((s[0]'h0).toNat : Int) ≤ 1) (hp : (((s[0]'h0).toNat : Int) == 1) = p) :
    Calls Try.prog 30 #[.string s] w (AckPost (if ackE p (s[1]'h1).toNat = 0 then p else false) (if ackE p (s[1]'h1).toNat = 0 then ((s[1]'h1).toNat : Int) else 0) (ackE p (s[1]'h1).toNat) w) := by
  have h' : ((s.size : Int) != 2) = false := by simp; omega
  have h0' : (0 : Int) < s.size := by omega
  have hy1 : (0 : Int) ≤ (s[1]'h1).toNat := by omega
  have hy2 : ((s[1]'h1).toNat : Int) ≤ 255 := by have := UInt8.toNat_lt (s[1]'h1); omega
  have h1' : (1 : Int) < s.size := by omega
  have R := fun w => rightack p (s[1]'h1).toNat w
  generalize hE : ackE p (s[1]'h1).toNat = E at *
  replace h := Lib.hid h
  replace R := Lib.hid R
  by_cases hz : E = 0
  · rw [if_pos hz, if_pos hz]
    subst hz
    clear hE
    cases p
    all_goals
      go_enter Try.func30, Try.ntmps30
      go_wp2
      go_quiet (fail)
      go_wp2_with fail
      refine (R.out _).mono ?_
      rintro e w' ⟨rfl, rfl⟩
      go_wp2_with fail
      go_ret3
      exact ⟨rfl, below_drewN (Below.refl _ _) _⟩
  · rw [if_neg hz, if_neg hz]
    have hb : (E != 0) = true := by simpa using hz
    clear hz hE
    cases p
    all_goals
      go_enter Try.func30, Try.ntmps30
      go_wp2
      go_quiet (fail)
      go_wp2_with fail
      refine (R.out _).mono ?_
      rintro e w' ⟨rfl, rfl⟩
      go_wp2_with fail
      go_ret3
      exact ⟨rfl, below_drewN (Below.refl _ _) _⟩
end Go.Proofs.Ytkihhnndidaloaa
