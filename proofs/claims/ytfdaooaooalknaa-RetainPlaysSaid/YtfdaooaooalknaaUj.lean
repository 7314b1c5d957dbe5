/-
  LAYER 4: step and Right, the document's.
-/
import Derived.Test.YtfdaooaooalknaaUi
namespace Go.Proofs.Ytfdaooaooalknaa
set_option linter.unusedSimpArgs false
set_option linter.unusedVariables false
open Go.RowKit

theorem tail_at (s : ByteArray) (i k : Nat) (hk : i + k ≤ 140737488355328) (b : Bool) (h : tl (gB s) s.size (i + k) = b) : ∀ w, Calls Try.prog 75 #[.string s, .int .i64 ((i : Int) + k)] w fun e w' => e = .returned (.bool b) ∧ w = w' := by
  intro w
  have := tail_any s (i + k) w hk
  rw [h, show ((i + k : Nat) : Int) = (i : Int) + k from by omega] at this
  exact this
theorem step_any (s : ByteArray) (i : Nat) (w : World) (hi : i < s.size) (hs : s.size ≤ 65535) :
    Calls Try.prog 58 #[.string s, .int .i64 i] w (StepPost (stp (gB s) s.size i) w) := by
  have e0 := gB_at s i hi
  have hlt := gB_lt s i
  rw [← e0] at hlt
  have T1 := fun b => tail_at s i 1 (by omega) b
  have T2 := fun b => tail_at s i 2 (by omega) b
  have T3 := fun b => tail_at s i 3 (by omega) b
  unfold stp
  rw [← e0]
  by_cases c1 : s[i].toNat < 128
  · rw [if_pos c1]; exact step_A s i w hi hs (by omega) (by omega)
  rw [if_neg c1]
  have t1 := tl_iff (gB s) s.size (i + 1)
  have t2 := tl_iff (gB s) s.size (i + 2)
  have t3 := tl_iff (gB s) s.size (i + 3)
  by_cases r1 : s[i].toNat ≤ 193
  · rw [if_neg (fun h => by have := h.1; omega), if_neg (fun h => by have := h.1; omega), if_neg (fun h => by have := h.1; omega)]
    exact step_E1 s i w hi hs (by omega) (by omega)
  by_cases r2 : s[i].toNat ≤ 223
  · cases b1 : tl (gB s) s.size (i + 1)
    · rw [if_neg (by simp), if_neg (by simp), if_neg (by simp)]
      exact step_B0 s i w hi hs (by omega) (by omega) (T1 _ b1)
    · obtain ⟨q1, q2, q3⟩ := t1.1 b1
      rw [if_pos ⟨⟨by omega, by omega⟩, rfl⟩]
      have e1 := gB_at s (i + 1) q1
      rw [← e1] at q2 q3 ⊢
      exact step_B1 s i w hi hs (by omega) (by omega) q1 (by omega) (by omega) (T1 _ b1)
  rw [if_neg (fun h => by have := h.1; omega)]
  by_cases r3 : s[i].toNat ≤ 239
  · cases b1 : tl (gB s) s.size (i + 1)
    · rw [if_neg (by simp), if_neg (by simp)]
      exact step_C0 s i w hi hs (by omega) (by omega) (T1 _ b1)
    · cases b2 : tl (gB s) s.size (i + 2)
      · rw [if_neg (by simp), if_neg (by simp)]
        exact step_C1 s i w hi hs (by omega) (by omega) (T1 _ b1) (T2 _ b2)
      · obtain ⟨q1, q2, q3⟩ := t1.1 b1
        obtain ⟨u1, u2, u3⟩ := t2.1 b2
        rw [if_pos ⟨⟨by omega, by omega⟩, rfl, rfl⟩]
        have e1 := gB_at s (i + 1) q1
        have e2 := gB_at s (i + 2) u1
        rw [← e1] at q2 q3 ⊢
        rw [← e2] at u2 u3 ⊢
        clear t1 t2 t3
        by_cases n1 : (s[i].toNat - 224) * 4096 + (s[i + 1].toNat - 128) * 64 + (s[i + 2].toNat - 128) < 2048
        · rw [if_pos (.inl n1)]
          exact step_Ca s i w hi hs (by omega) (by omega) q1 (by omega) (by omega) u1 (by omega) (by omega) (T1 _ b1) (T2 _ b2) n1
        · by_cases n2 : 55296 ≤ (s[i].toNat - 224) * 4096 + (s[i + 1].toNat - 128) * 64 + (s[i + 2].toNat - 128)
          · by_cases n3 : (s[i].toNat - 224) * 4096 + (s[i + 1].toNat - 128) * 64 + (s[i + 2].toNat - 128) ≤ 57343
            · rw [if_pos (.inr ⟨n2, n3⟩)]
              exact step_Cb s i w hi hs (by omega) (by omega) q1 (by omega) (by omega) u1 (by omega) (by omega) (T1 _ b1) (T2 _ b2) n2 n3
            · rw [if_neg (fun h => by rcases h with h | h; exact n1 h; exact n3 h.2)]
              exact step_Cd s i w hi hs (by omega) (by omega) q1 (by omega) (by omega) u1 (by omega) (by omega) (T1 _ b1) (T2 _ b2) (by omega)
          · rw [if_neg (fun h => by rcases h with h | h; exact n1 h; exact n2 h.1)]
            exact step_Cc s i w hi hs (by omega) (by omega) q1 (by omega) (by omega) u1 (by omega) (by omega) (T1 _ b1) (T2 _ b2) (by omega) (by omega)
  rw [if_neg (fun h => by have := h.1; omega)]
  by_cases r4 : s[i].toNat ≤ 244
  · cases b1 : tl (gB s) s.size (i + 1)
    · rw [if_neg (by simp)]
      exact step_D0 s i w hi hs (by omega) (by omega) (T1 _ b1)
    · cases b2 : tl (gB s) s.size (i + 2)
      · rw [if_neg (by simp)]
        exact step_D1 s i w hi hs (by omega) (by omega) (T1 _ b1) (T2 _ b2)
      · cases b3 : tl (gB s) s.size (i + 3)
        · rw [if_neg (by simp)]
          exact step_D2 s i w hi hs (by omega) (by omega) (T1 _ b1) (T2 _ b2) (T3 _ b3)
        · obtain ⟨q1, q2, q3⟩ := t1.1 b1
          obtain ⟨u1, u2, u3⟩ := t2.1 b2
          obtain ⟨v1, v2, v3⟩ := t3.1 b3
          rw [if_pos ⟨⟨by omega, by omega⟩, rfl, rfl, rfl⟩]
          have e1 := gB_at s (i + 1) q1
          have e2 := gB_at s (i + 2) u1
          have e3 := gB_at s (i + 3) v1
          rw [← e1] at q2 q3 ⊢
          rw [← e2] at u2 u3 ⊢
          rw [← e3] at v2 v3 ⊢
          clear t1 t2 t3
          by_cases n1 : (s[i].toNat - 240) * 262144 + (s[i + 1].toNat - 128) * 4096 + (s[i + 2].toNat - 128) * 64 + (s[i + 3].toNat - 128) < 65536
          · rw [if_pos (.inl n1)]
            exact step_Da s i w hi hs (by omega) (by omega) q1 (by omega) (by omega) u1 (by omega) (by omega) v1 (by omega) (by omega) (T1 _ b1) (T2 _ b2) (T3 _ b3) n1
          · by_cases n2 : 1114111 < (s[i].toNat - 240) * 262144 + (s[i + 1].toNat - 128) * 4096 + (s[i + 2].toNat - 128) * 64 + (s[i + 3].toNat - 128)
            · rw [if_pos (.inr n2)]
              exact step_Db s i w hi hs (by omega) (by omega) q1 (by omega) (by omega) u1 (by omega) (by omega) v1 (by omega) (by omega) (T1 _ b1) (T2 _ b2) (T3 _ b3) n2
            · rw [if_neg (fun h => by rcases h with h | h; exact n1 h; exact n2 h)]
              exact step_Dc s i w hi hs (by omega) (by omega) q1 (by omega) (by omega) u1 (by omega) (by omega) v1 (by omega) (by omega) (T1 _ b1) (T2 _ b2) (T3 _ b3) (by omega) (by omega)
  · rw [if_neg (fun h => by have := h.1; omega)]
    exact step_E2 s i w hi hs (by omega) (by omega)

set_option maxHeartbeats 1000000 in
set_option maxRecDepth 100000 in
theorem rright_any (s : ByteArray) (w : World) :
    Calls Try.prog 45 #[.string s] w fun e w' => e = .returned (.bool (rightB s)) ∧ ∃ n, w' = w.drewN n := by
  by_cases hl : 65535 < s.size
  · have hb : rightB s = false := by unfold rightB; simp; omega
    rw [hb]
    have hl' : (65535 : Int) < s.size := by omega
    clear hb
    go_enter Try.func45, Try.ntmps45
    go_wp2
    go_ret
    exact ⟨rfl, 0, rfl⟩
  · have hb : rightB s = rtB s := by unfold rightB; simp; omega
    rw [hb]
    have hl' : (s.size : Int) ≤ 65535 := by omega
    clear hb
    go_enter Try.func45, Try.ntmps45
    go_wp2
    go_loopw [3] (fun at' w' => ∃ (pos b nq : Nat), w' = w.drewN nq ∧ at' = .int .i64 pos ∧ pos ≤ s.size ∧ rt (gB s) s.size b pos = rtB s ∧ s.size ≤ pos + b) (fun at' _ => s.size - (intOf at').toNat)
    case atStart => exact ⟨0, s.size, 0, rfl, rfl, by omega, rfl, by omega⟩
    case round =>
      obtain ⟨pos, b, nq, rfl, rfl, hps, hc, hb⟩ := hrel
      by_cases hp : pos < s.size
      · have hp' : (pos : Int) < s.size := by omega
        have hst := rt_step (gB s) s.size b pos hp hb
        have hso := rt_stop (gB s) s.size b pos hp hb
        have hn0 := stp_none (gB s) s.size pos
        have hsm := stp_small (gB s) s.size pos
        have hfit : pos + (stp (gB s) s.size pos).1 ≤ s.size := by
          by_cases h : (stp (gB s) s.size pos).1 ≤ 1
          · omega
          · have := stp_tail (gB s) s.size pos ((stp (gB s) s.size pos).1 - 1) (by omega) (by omega)
            omega
        have S := step_any s pos (w.drewN nq) hp (by omega)
        obtain ⟨⟨n, c⟩, hp'⟩ : ∃ p, p = stp (gB s) s.size pos := ⟨_, rfl⟩
        rw [← hp'] at hst hso hn0 hfit hsm S
        unfold StepPost at S
        simp only at hst hso hn0 hfit hsm S
        replace hc := Lib.hid hc
        replace hst := Lib.hid hst
        replace hso := Lib.hid hso
        replace hn0 := Lib.hid hn0
        replace S := Lib.hid S
        clear hp'
        have hn4 : (n : Int) ≤ 4 := by omega
        have hpn : (pos : Int) + n ≤ s.size := by omega
        by_cases h0 : n = 0
        · obtain rfl := hn0.out h0
          subst h0
          have hf : rtB s = false := by rw [← hc.out]; exact hso.out rfl
          replace hf := Lib.hid hf
          go_wp2_with fail
          refine (S.out).mono ?_
          rintro e w' ⟨rfl, n2, rfl⟩
          go_wp2_with fail
          go_ret
          exact ⟨by rw [hf.out]; rfl, nq + n2, by simp⟩
        · by_cases hc0 : c = 0
          · subst hc0
            have hnb : ((n : Int) == 0) = false := beq_eq_false_iff_ne.2 (by omega)
            have hf : rtB s = false := by rw [← hc.out]; exact hso.out rfl
            replace hf := Lib.hid hf
            clear h0
            go_wp2_with fail
            refine (S.out).mono ?_
            rintro e w' ⟨rfl, n2, rfl⟩
            go_wp2_with fail
            go_ret
            exact ⟨by rw [hf.out]; rfl, nq + n2, by simp⟩
          · obtain ⟨b', hb', hrt, hbb⟩ := hst.out h0 hc0
            have hnb : ((n : Int) == 0) = false := beq_eq_false_iff_ne.2 (by omega)
            have hcz : ((c : Int) == 0) = false := beq_eq_false_iff_ne.2 (by omega)
            have hrel : rt (gB s) s.size b' (pos + n) = rtB s := by rw [← hrt]; exact hc.out
            replace hrel := Lib.hid hrel
            have hn1 : 1 ≤ n := by omega
            clear h0 hb' hrt hc0
            go_wp2_with fail
            refine (S.out).mono ?_
            rintro e w' ⟨rfl, n2, rfl⟩
            go_wp2_with fail
            go_roundw
            case rel => exact ⟨pos + n, b', nq + n2, by simp, by go_num, hfit, hrel.out, hbb⟩
            case measure => simp [intOf]; omega
      · have hp' : (s.size : Int) ≤ pos := by omega
        have hf : rtB s = true := by
          rw [← hc]
          cases b with
          | zero => simp [rt]; omega
          | succ b => rw [rt, if_neg hp]
        replace hf := Lib.hid hf
        clear hc
        go_wp2
        go_ret
        exact ⟨by rw [hf.out]; rfl, nq, rfl⟩
end Go.Proofs.Ytfdaooaooalknaa
