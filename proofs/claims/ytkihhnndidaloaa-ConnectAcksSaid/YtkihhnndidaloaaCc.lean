/-
  LAYER 13: an answer read, of both sides, of any bytes.
-/
import Derived.Test.YtkihhnndidaloaaCb
namespace Go.Proofs.Ytkihhnndidaloaa
open Go.RowKit

def ackF (s : ByteArray) : Bool × Int × Int :=
  if s.size = 2 then (if 1 < gB s 0 then (false, 0, 4) else if ackE (gB s 0 == 1) (gB s 1) = 0 then (gB s 0 == 1, (gB s 1 : Int), 0) else (false, 0, ackE (gB s 0 == 1) (gB s 1))) else (false, 0, 4)
set_option maxRecDepth 100000 in
theorem rofack_len (s : ByteArray) (w : World) (h : s.size ≠ 2) : Calls Try.prog 31 #[.string s] w (AckPost false 0 4 w) := by
  have h' : ((s.size : Int) != 2) = true := by simp; omega
  replace h := Lib.hid h
  go_enter Try.func31, Try.ntmps31
  go_wp2_with fail
  go_ret3
  exact ⟨rfl, Below.refl _ _⟩
set_option maxRecDepth 100000 in
theorem ofack_big (f : FuncId) (hf : f = 30 ∨ f = 31) (s : ByteArray) (w : World) (h : s.size = 2) (h0 : 0 < s.size) (hx : 1 < ((s[0]'h0).toNat : Int)) : Calls Try.prog f #[.string s] w (AckPost false 0 4 w) := by
  have h' : ((s.size : Int) != 2) = false := by simp; omega
  have h0' : (0 : Int) < s.size := by omega
  replace h := Lib.hid h
  rcases hf with rfl | rfl
  · go_enter Try.func30, Try.ntmps30
    go_wp2_with fail
    go_ret3
    exact ⟨rfl, Below.refl _ _⟩
  · go_enter Try.func31, Try.ntmps31
    go_wp2_with fail
    go_ret3
    exact ⟨rfl, Below.refl _ _⟩
set_option maxHeartbeats 1000000 in
set_option maxRecDepth 100000 in
theorem rofack_two (s : ByteArray) (w : World) (h : s.size = 2) (h0 : 0 < s.size) (h1 : 1 < s.size) (p : Bool) (hx : ((s[0]'h0).toNat : Int) ≤ 1) (hp : (((s[0]'h0).toNat : Int) == 1) = p) (E : Int) (hE : ackE p (s[1]'h1).toNat = E) :
    Calls Try.prog 31 #[.string s] w (AckPost (if E = 0 then p else false) (if E = 0 then ((s[1]'h1).toNat : Int) else 0) E w) := by
  have h' : ((s.size : Int) != 2) = false := by simp; omega
  have h0' : (0 : Int) < s.size := by omega
  have hy1 : (0 : Int) ≤ (s[1]'h1).toNat := by omega
  have hy2 : ((s[1]'h1).toNat : Int) ≤ 255 := by have := UInt8.toNat_lt (s[1]'h1); omega
  have h1' : (1 : Int) < s.size := by omega
  replace h := Lib.hid h
  unfold ackE at hE
  by_cases h5 : 5 < ((s[1]'h1).toNat : Int)
  · rw [if_pos (by omega)] at hE
    subst hE
    rw [if_neg (by decide), if_neg (by decide)]
    clear hp
    go_enter Try.func31, Try.ntmps31
    go_wp2_with fail
    go_ret3
    exact ⟨rfl, Below.refl _ _⟩
  · rw [if_neg (by omega)] at hE
    have h5' : ((s[1]'h1).toNat : Int) ≤ 5 := by omega
    clear h5
    cases p
    · rw [if_neg (by simp)] at hE
      subst hE
      rw [if_pos rfl, if_pos rfl]
      go_enter Try.func31, Try.ntmps31
      go_wp2
      go_quiet (fail)
      go_wp2_with fail
      go_ret3
      exact ⟨rfl, below_drewN (Below.refl _ _) _⟩
    · by_cases hc : ((s[1]'h1).toNat : Int) = 0
      · have hb : (((s[1]'h1).toNat : Int) != 0) = false := by simpa using hc
        rw [if_neg (by simp [hc])] at hE
        subst hE
        rw [if_pos rfl, if_pos rfl]
        replace hc := Lib.hid hc
        go_enter Try.func31, Try.ntmps31
        go_wp2
        go_quiet (fail)
        go_wp2_with fail
        go_ret3
        exact ⟨rfl, below_drewN (Below.refl _ _) _⟩
      · have hb : (((s[1]'h1).toNat : Int) != 0) = true := by simpa using hc
        rw [if_pos ⟨rfl, hc⟩] at hE
        subst hE
        rw [if_neg (by decide), if_neg (by decide)]
        clear hc
        go_enter Try.func31, Try.ntmps31
        go_wp2_with fail
        go_ret3
        exact ⟨rfl, Below.refl _ _⟩
theorem beq_cast (n : Nat) : (n == 1) = ((n : Int) == 1) := by
  by_cases h : n = 1
  · subst h; rfl
  · rw [beq_eq_false_iff_ne.2 h, beq_eq_false_iff_ne.2 (by omega)]
theorem ofacks (s : ByteArray) (w : World) : Calls Try.prog 30 #[.string s] w (AckPost (ackF s).1 (ackF s).2.1 (ackF s).2.2 w) ∧ Calls Try.prog 31 #[.string s] w (AckPost (ackF s).1 (ackF s).2.1 (ackF s).2.2 w) := by
  by_cases h : s.size = 2
  · have h0 : 0 < s.size := by omega
    have h1 : 1 < s.size := by omega
    have e0 := gB_at s 0 h0
    have e1 := gB_at s 1 h1
    by_cases hx : 1 < gB s 0
    · have hF : ackF s = (false, 0, 4) := by unfold ackF; rw [if_pos h, if_pos hx]
      rw [hF]
      exact ⟨ofack_big 30 (.inl rfl) s w h h0 (by omega), ofack_big 31 (.inr rfl) s w h h0 (by omega)⟩
    · obtain ⟨E, hE⟩ : ∃ E, ackE (gB s 0 == 1) (gB s 1) = E := ⟨_, rfl⟩
      have hF : ackF s = (if E = 0 then (gB s 0 == 1) else false, if E = 0 then (gB s 1 : Int) else 0, E) := by
        unfold ackF; rw [if_pos h, if_neg hx, hE]; split <;> simp_all
      rw [hF]
      have A := ofack_two s (gB s 0 == 1) w h h0 h1 (by omega) (by rw [e0, beq_cast])
      have B := rofack_two s w h h0 h1 (gB s 0 == 1) (by omega) (by rw [e0, beq_cast]) E (by rw [e1]; exact hE)
      rw [e1, hE] at A
      rw [e1] at B
      exact ⟨A, B⟩
  · have hF : ackF s = (false, 0, 4) := by unfold ackF; rw [if_neg h]
    rw [hF]
    exact ⟨ofack_len s w h, rofack_len s w h⟩
end Go.Proofs.Ytkihhnndidaloaa
