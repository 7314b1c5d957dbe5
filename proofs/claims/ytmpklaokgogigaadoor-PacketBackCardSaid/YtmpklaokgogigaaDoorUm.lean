/-
  LAYER 4: step and Right, the document's.
-/
import Derived.Test.YtmpklaokgogigaaDoorUi
import Derived.Deep.QuietTactic
import Derived.BigQuiet
namespace Go.Proofs.YtmpklaokgogigaaDoor
set_option linter.unusedSimpArgs false
set_option linter.unusedVariables false
open Go.RowKit

theorem tail_at (s : ByteArray) (i k : Nat) (hk : i + k ≤ 140737488355328) (b : Bool) (h : tl (gB s) s.size (i + k) = b) : ∀ w, Calls Tryd.prog 102 #[.string s, .int .i64 ((i : Int) + k)] w fun e w' => e = .returned (.bool b) ∧ w = w' := by
  intro w
  have := tail_any s (i + k) w hk
  rw [h, show ((i + k : Nat) : Int) = (i : Int) + k from by omega] at this
  exact this
theorem step_any (s : ByteArray) (i : Nat) (w : World) (hi : i < s.size) (hs : s.size ≤ 65535) :
    Calls Tryd.prog 100 #[.string s, .int .i64 i] w (StepPost (stp (gB s) s.size i) w) := by
  have e0 := gB_at s i hi
  have hlt := gB_lt s i
  rw [← e0] at hlt
  have T1 := fun b => tail_at s i 1 (by omega) b
  have T2 := fun b => tail_at s i 2 (by omega) b
  have T3 := fun b => tail_at s i 3 (by omega) b
  unfold stp
  rw [← e0]
  by_cases c1 : s[i].toNat < 128
  · rw [if_pos c1]; exact step_A s i w hi hs (by omega) (by omega)
  rw [if_neg c1]
  have t1 := tl_iff (gB s) s.size (i + 1)
  have t2 := tl_iff (gB s) s.size (i + 2)
  have t3 := tl_iff (gB s) s.size (i + 3)
  by_cases r1 : s[i].toNat ≤ 193
  · rw [if_neg (fun h => by have := h.1; omega), if_neg (fun h => by have := h.1; omega), if_neg (fun h => by have := h.1; omega)]
    exact step_E1 s i w hi hs (by omega) (by omega)
  by_cases r2 : s[i].toNat ≤ 223
  · cases b1 : tl (gB s) s.size (i + 1)
    · rw [if_neg (by simp), if_neg (by simp), if_neg (by simp)]
      exact step_B0 s i w hi hs (by omega) (by omega) (T1 _ b1)
    · obtain ⟨q1, q2, q3⟩ := t1.1 b1
      rw [if_pos ⟨⟨by omega, by omega⟩, rfl⟩]
      have e1 := gB_at s (i + 1) q1
      rw [← e1] at q2 q3 ⊢
      exact step_B1 s i w hi hs (by omega) (by omega) q1 (by omega) (by omega) (T1 _ b1)
  rw [if_neg (fun h => by have := h.1; omega)]
  by_cases r3 : s[i].toNat ≤ 239
  · cases b1 : tl (gB s) s.size (i + 1)
    · rw [if_neg (by simp), if_neg (by simp)]
      exact step_C0 s i w hi hs (by omega) (by omega) (T1 _ b1)
    · cases b2 : tl (gB s) s.size (i + 2)
      · rw [if_neg (by simp), if_neg (by simp)]
        exact step_C1 s i w hi hs (by omega) (by omega) (T1 _ b1) (T2 _ b2)
      · obtain ⟨q1, q2, q3⟩ := t1.1 b1
        obtain ⟨u1, u2, u3⟩ := t2.1 b2
        rw [if_pos ⟨⟨by omega, by omega⟩, rfl, rfl⟩]
        have e1 := gB_at s (i + 1) q1
        have e2 := gB_at s (i + 2) u1
        rw [← e1] at q2 q3 ⊢
        rw [← e2] at u2 u3 ⊢
        clear t1 t2 t3
        by_cases n1 : (s[i].toNat - 224) * 4096 + (s[i + 1].toNat - 128) * 64 + (s[i + 2].toNat - 128) < 2048
        · rw [if_pos (.inl n1)]
          exact step_Ca s i w hi hs (by omega) (by omega) q1 (by omega) (by omega) u1 (by omega) (by omega) (T1 _ b1) (T2 _ b2) n1
        · by_cases n2 : 55296 ≤ (s[i].toNat - 224) * 4096 + (s[i + 1].toNat - 128) * 64 + (s[i + 2].toNat - 128)
          · by_cases n3 : (s[i].toNat - 224) * 4096 + (s[i + 1].toNat - 128) * 64 + (s[i + 2].toNat - 128) ≤ 57343
            · rw [if_pos (.inr ⟨n2, n3⟩)]
              exact step_Cb s i w hi hs (by omega) (by omega) q1 (by omega) (by omega) u1 (by omega) (by omega) (T1 _ b1) (T2 _ b2) n2 n3
            · rw [if_neg (fun h => by rcases h with h | h; exact n1 h; exact n3 h.2)]
              exact step_Cd s i w hi hs (by omega) (by omega) q1 (by omega) (by omega) u1 (by omega) (by omega) (T1 _ b1) (T2 _ b2) (by omega)
          · rw [if_neg (fun h => by rcases h with h | h; exact n1 h; exact n2 h.1)]
            exact step_Cc s i w hi hs (by omega) (by omega) q1 (by omega) (by omega) u1 (by omega) (by omega) (T1 _ b1) (T2 _ b2) (by omega) (by omega)
  rw [if_neg (fun h => by have := h.1; omega)]
  by_cases r4 : s[i].toNat ≤ 244
  · cases b1 : tl (gB s) s.size (i + 1)
    · rw [if_neg (by simp)]
      exact step_D0 s i w hi hs (by omega) (by omega) (T1 _ b1)
    · cases b2 : tl (gB s) s.size (i + 2)
      · rw [if_neg (by simp)]
        exact step_D1 s i w hi hs (by omega) (by omega) (T1 _ b1) (T2 _ b2)
      · cases b3 : tl (gB s) s.size (i + 3)
        · rw [if_neg (by simp)]
          exact step_D2 s i w hi hs (by omega) (by omega) (T1 _ b1) (T2 _ b2) (T3 _ b3)
        · obtain ⟨q1, q2, q3⟩ := t1.1 b1
          obtain ⟨u1, u2, u3⟩ := t2.1 b2
          obtain ⟨v1, v2, v3⟩ := t3.1 b3
          rw [if_pos ⟨⟨by omega, by omega⟩, rfl, rfl, rfl⟩]
          have e1 := gB_at s (i + 1) q1
          have e2 := gB_at s (i + 2) u1
          have e3 := gB_at s (i + 3) v1
          rw [← e1] at q2 q3 ⊢
          rw [← e2] at u2 u3 ⊢
          rw [← e3] at v2 v3 ⊢
          clear t1 t2 t3
          by_cases n1 : (s[i].toNat - 240) * 262144 + (s[i + 1].toNat - 128) * 4096 + (s[i + 2].toNat - 128) * 64 + (s[i + 3].toNat - 128) < 65536
          · rw [if_pos (.inl n1)]
            exact step_Da s i w hi hs (by omega) (by omega) q1 (by omega) (by omega) u1 (by omega) (by omega) v1 (by omega) (by omega) (T1 _ b1) (T2 _ b2) (T3 _ b3) n1
          · by_cases n2 : 1114111 < (s[i].toNat - 240) * 262144 + (s[i + 1].toNat - 128) * 4096 + (s[i + 2].toNat - 128) * 64 + (s[i + 3].toNat - 128)
            · rw [if_pos (.inr n2)]
              exact step_Db s i w hi hs (by omega) (by omega) q1 (by omega) (by omega) u1 (by omega) (by omega) v1 (by omega) (by omega) (T1 _ b1) (T2 _ b2) (T3 _ b3) n2
            · rw [if_neg (fun h => by rcases h with h | h; exact n1 h; exact n2 h)]
              exact step_Dc s i w hi hs (by omega) (by omega) q1 (by omega) (by omega) u1 (by omega) (by omega) v1 (by omega) (by omega) (T1 _ b1) (T2 _ b2) (T3 _ b3) (by omega) (by omega)
  · rw [if_neg (fun h => by have := h.1; omega)]
    exact step_E2 s i w hi hs (by omega) (by omega)

set_option maxHeartbeats 1000000 in
set_option maxRecDepth 100000 in
theorem rright_any (s : ByteArray) (w : World) :
    Calls Tryd.prog 93 #[.string s] w fun e w' => e = .returned (.bool (rightB s)) ∧ ∃ n, w' = w.drewN n := by
  by_cases hl : 65535 < s.size
  · have hb : rightB s = false := by unfold rightB; simp; omega
    rw [hb]
    have hl' : (65535 : Int) < s.size := by omega
    clear hb
    go_enter Tryd.func93, Tryd.ntmps93
    go_wp2
    go_ret
    exact ⟨rfl, 0, rfl⟩
  · have hb : rightB s = rtB s := by unfold rightB; simp; omega
    rw [hb]
    have hl' : (s.size : Int) ≤ 65535 := by omega
    clear hb
    go_enter Tryd.func93, Tryd.ntmps93
    go_wp2
    go_loopw [3] (fun at' w' => ∃ (pos b nq : Nat), w' = w.drewN nq ∧ at' = .int .i64 pos ∧ pos ≤ s.size ∧ rt (gB s) s.size b pos = rtB s ∧ s.size ≤ pos + b) (fun at' _ => s.size - (intOf at').toNat)
    case atStart => exact ⟨0, s.size, 0, rfl, rfl, by omega, rfl, by omega⟩
    case round =>
      obtain ⟨pos, b, nq, rfl, rfl, hps, hc, hb⟩ := hrel
      by_cases hp : pos < s.size
      · have hp' : (pos : Int) < s.size := by omega
        have hst := rt_step (gB s) s.size b pos hp hb
        have hso := rt_stop (gB s) s.size b pos hp hb
        have hn0 := stp_none (gB s) s.size pos
        have hsm := stp_small (gB s) s.size pos
        have hfit : pos + (stp (gB s) s.size pos).1 ≤ s.size := by
          by_cases h : (stp (gB s) s.size pos).1 ≤ 1
          · omega
          · have := stp_tail (gB s) s.size pos ((stp (gB s) s.size pos).1 - 1) (by omega) (by omega)
            omega
        have S := step_any s pos (w.drewN nq) hp (by omega)
        obtain ⟨⟨n, c⟩, hp'⟩ : ∃ p, p = stp (gB s) s.size pos := ⟨_, rfl⟩
        rw [← hp'] at hst hso hn0 hfit hsm S
        unfold StepPost at S
        simp only at hst hso hn0 hfit hsm S
        replace hc := Lib.hid hc
        replace hst := Lib.hid hst
        replace hso := Lib.hid hso
        replace hn0 := Lib.hid hn0
        replace S := Lib.hid S
        clear hp'
        have hn4 : (n : Int) ≤ 4 := by omega
        have hpn : (pos : Int) + n ≤ s.size := by omega
        by_cases h0 : n = 0
        · obtain rfl := hn0.out h0
          subst h0
          have hf : rtB s = false := by rw [← hc.out]; exact hso.out rfl
          replace hf := Lib.hid hf
          go_wp2_with fail
          refine (S.out).mono ?_
          rintro e w' ⟨rfl, n2, rfl⟩
          go_wp2_with fail
          go_ret
          exact ⟨by rw [hf.out]; rfl, nq + n2, by simp⟩
        · by_cases hc0 : c = 0
          · subst hc0
            have hnb : ((n : Int) == 0) = false := beq_eq_false_iff_ne.2 (by omega)
            have hf : rtB s = false := by rw [← hc.out]; exact hso.out rfl
            replace hf := Lib.hid hf
            clear h0
            go_wp2_with fail
            refine (S.out).mono ?_
            rintro e w' ⟨rfl, n2, rfl⟩
            go_wp2_with fail
            go_ret
            exact ⟨by rw [hf.out]; rfl, nq + n2, by simp⟩
          · obtain ⟨b', hb', hrt, hbb⟩ := hst.out h0 hc0
            have hnb : ((n : Int) == 0) = false := beq_eq_false_iff_ne.2 (by omega)
            have hcz : ((c : Int) == 0) = false := beq_eq_false_iff_ne.2 (by omega)
            have hrel : rt (gB s) s.size b' (pos + n) = rtB s := by rw [← hrt]; exact hc.out
            replace hrel := Lib.hid hrel
            have hn1 : 1 ≤ n := by omega
            clear h0 hb' hrt hc0
            go_wp2_with fail
            refine (S.out).mono ?_
            rintro e w' ⟨rfl, n2, rfl⟩
            go_wp2_with fail
            go_roundw
            case rel => exact ⟨pos + n, b', nq + n2, by simp, by go_num, hfit, hrel.out, hbb⟩
            case measure => simp [intOf]; omega
      · have hp' : (s.size : Int) ≤ pos := by omega
        have hf : rtB s = true := by
          rw [← hc]
          cases b with
          | zero => simp [rt]; omega
          | succ b => rw [rt, if_neg hp]
        replace hf := Lib.hid hf
        clear hc
        go_wp2
        go_ret
        exact ⟨by rw [hf.out]; rfl, nq, rfl⟩
end Go.Proofs.YtmpklaokgogigaaDoor

/-
  LAYER 4: Put2, Get2, GetRaw, Get, PutRaw, Put, the document's.
-/
namespace Go.Proofs.YtmpklaokgogigaaDoor
set_option linter.unusedSimpArgs false
set_option linter.unusedVariables false
open Go.RowKit

theorem put2_err (n : Int) (w : World) (h : n < 0 ∨ 65535 < n) (b : -9223372036854775808 ≤ n ∧ n ≤ 9223372036854775807) :
    Calls Tryd.prog 91 #[.int .i64 n] w fun e w' => e = .returned (.tuple #[.slice none 0 0, .int .i64 1]) ∧ w = w' := by
  rcases (show n < 0 ∨ (0 ≤ n ∧ 65535 < n) by omega) with h | ⟨h, h'⟩
  all_goals
    go_enter Tryd.func91, Tryd.ntmps91
    go_wp2
    go_ret2
    exact ⟨rfl, rfl⟩

set_option maxHeartbeats 1000000 in
set_option maxRecDepth 100000 in
theorem rget2_any (v : Value) (l : List Nat) (at' : Int) (w : World) (hb : BytesAt w v l) (h256 : ∀ x ∈ l, x < 256) (hl : l.length ≤ 140737488355328) (b : -9223372036854775808 ≤ at' ∧ at' ≤ 9223372036854775807) :
    Calls Tryd.prog 70 #[v, .int .i64 at'] w fun e w' => e = .returned (.tuple #[.int .i64 (get2V l at').1, .int .i64 (get2V l at').2.1, .int .i64 (get2V l at').2.2]) ∧ ∃ n, w' = w.drewN n := by
  obtain ⟨a, cap, rfl, hcap, hc⟩ := hb
  obtain ⟨n, hn⟩ : ∃ n, n = l.length := ⟨_, rfl⟩
  rw [← hn] at hl hcap hc ⊢
  by_cases h1 : at' < 0 ∨ (n : Int) < at'
  · have e : get2V l at' = (0, 0, 1) := by unfold get2V; rw [← hn, if_pos h1]
    rw [e]
    clear e hn hc hcap
    rcases (show at' < 0 ∨ (0 ≤ at' ∧ (n : Int) < at') by omega) with h | ⟨h, h'⟩
    all_goals
      clear h1
      go_enter Tryd.func70, Tryd.ntmps70
      go_wp2
      go_ret3
      exact ⟨rfl, 0, rfl⟩
  · obtain ⟨k, rfl⟩ := Int.eq_ofNat_of_zero_le (show 0 ≤ at' by omega)
    have h0 : (k : Int) ≤ n := by omega
    by_cases h2 : (n : Int) - k < 2
    · have e : get2V l k = (0, 0, 2) := by unfold get2V; rw [← hn, if_neg h1, if_pos h2]
      rw [e]
      clear e hn hc hcap h1
      go_enter Tryd.func70, Tryd.ntmps70
      go_wp2
      go_ret3
      exact ⟨rfl, 0, rfl⟩
    · have e : get2V l k = (((256 * l.getD k 0 + l.getD (k + 1) 0 : Nat) : Int), (k : Int) + 2, 0) := by unfold get2V; rw [← hn, if_neg h1, if_neg h2]; simp
      rw [e]
      rcases hc with hc | ⟨bb, o, rfl, hlt, hcell⟩
      · subst hc; simp at hn; omega
      have c0 := hcell k (by omega)
      have c1 := hcell (k + 1) (by omega)
      have b0 : l.getD k 0 < 256 := by
        rw [List.getD_eq_getElem?_getD, List.getElem?_eq_getElem (by omega)]; exact h256 _ (List.getElem_mem _)
      have b1 : l.getD (k + 1) 0 < 256 := by
        rw [List.getD_eq_getElem?_getD, List.getElem?_eq_getElem (by omega)]; exact h256 _ (List.getElem_mem _)
      generalize l.getD k 0 = x at *
      generalize l.getD (k + 1) 0 = y at *
      have hor : bits .or .i64 ((x : Int) * 256) (y : Int) = ((256 * x + y : Nat) : Int) := by
        rw [show (x : Int) * 256 = ((x * 256 : Nat) : Int) from by omega, i64_or_nat _ _ (by omega) (by omega), nat_join 8 _ _ (by omega) (by omega)]
        omega
      have hb0 : (x : Int) < 256 := by omega
      have hb1 : (y : Int) < 256 := by omega
      have w1 : IntKind.i64.wrap ((k : Int) + 1) = k + 1 := IntWalk.i64_in _ (by omega)
      have w2 : ((k : Int) + 1).toNat = k + 1 := by omega
      have w3 : 0 ≤ (k : Int) + 1 := by omega
      have w4 : IntKind.i64.wrap ((k : Int) + 2) = k + 2 := IntWalk.i64_in _ (by omega)
      have c1' : w.cell? ⟨bb, o + k + 1, none⟩ = some (.int .u8 (y : Int)) := by rw [Nat.add_assoc]; exact c1
      have hk2 : (k : Int) + 2 ≤ n := by omega
      clear hcell e hn h256 h1 h2 b
      go_enter Tryd.func70, Tryd.ntmps70
      go_wp2
      go_quiet (fail)
      go_wp2
      go_ret3
      exact ⟨by simp, nq, rfl⟩

set_option maxHeartbeats 1000000 in
set_option maxRecDepth 100000 in
theorem rgetraw_any (v : Value) (l : List Nat) (at' : Int) (w : World) (hb : BytesAt w v l) (h256 : ∀ x ∈ l, x < 256) (hl : l.length ≤ 140737488355328) (b : -9223372036854775808 ≤ at' ∧ at' ≤ 9223372036854775807) :
    Calls Tryd.prog 92 #[v, .int .i64 at'] w (RawPost (rawV l at') w) := by
  have G := rget2_any v l at' w hb h256 hl b
  by_cases h0 : (get2V l at').2.2 = 0
  · obtain ⟨k, m, rfl, hk, hm, e⟩ := get2_ok h0 h256
    rw [e] at G
    have er : rawV l k = if (l.length : Int) - ((k + 2 : Nat) : Int) < m then (ByteArray.empty, 0, 2) else (strB ((l.drop (k + 2)).take m), ((k + 2 : Nat) : Int) + m, 0) := by
      unfold rawV; rw [e]; simp only [ne_eq, not_true, if_false, Int.toNat_natCast]
    obtain ⟨n, hn⟩ : ∃ n, n = l.length := ⟨_, rfl⟩
    have hk' : ((k + 2 : Nat) : Int) ≤ n := by omega
    have hm' : (m : Int) ≤ 65535 := by omega
    obtain ⟨a, cap, rfl, hcap, hc⟩ := id hb
    rw [← hn] at er hcap hl G ⊢
    have hn2 : (n : Int) ≤ 140737488355328 := by omega
    obtain ⟨bb, o, rfl⟩ : ∃ bb o, a = some ⟨bb, o, none⟩ := by
      rcases hc with rfl | ⟨bb, o, rfl, _⟩
      · simp at hn; omega
      · exact ⟨bb, o, rfl⟩
    obtain ⟨q, hq⟩ : ∃ q, q = k + 2 := ⟨_, rfl⟩
    rw [← hq] at er G hk' hk
    have hn3 := Lib.hid hn
    replace G := Lib.hid G
    by_cases hlt : (n : Int) - q < m
    · rw [if_pos hlt] at er
      rw [er]
      clear er e hq hn hc hb h256 h0
      go_enter Tryd.func92, Tryd.ntmps92
      go_wp2_with (go_at_call 70; refine G.out.mono ?_; rintro e w' ⟨rfl, nq, rfl⟩)
      go_ret3
      exact ⟨rfl, nq, rfl⟩
    · rw [if_neg hlt] at er
      rw [er]
      have hqm : q + m ≤ n := by omega
      have hqm' : (q : Int) + m ≤ n := by omega
      have hcp : n ≤ cap := hcap.1
      have hcp' : (q : Int) + m ≤ cap := by omega
      clear e hq hn hc h0 hlt er
      by_cases hcq : cap = q
      · obtain rfl : m = 0 := by omega
        subst hcq
        have HB : BytesAt w (.slice (some ⟨bb, o, none⟩) 0 0) ((l.drop cap).take 0) := ⟨some ⟨bb, o, none⟩, 0, rfl, ⟨by simp, fun h => by cases h⟩, .inl rfl⟩
        have kc : ∀ nq, (convert 48 9 (.slice (some ⟨bb, o, none⟩) 0 0)).run Tryd.prog (w.drewN nq) = _ := fun nq => (HB.drewN nq).conv (P := Tryd.prog) Tryd.underlying48 Tryd.underlying5 Tryd.underlying9
        clear HB hb
        go_enter Tryd.func92, Tryd.ntmps92
        go_wp2_with (go_at_call 70; refine G.out.mono ?_; rintro e w' ⟨rfl, nq, rfl⟩)
        go_ret3
        exact ⟨by simp, nq, rfl⟩
      · have HB := hb.sub q m (cap - q) (by rw [← hn3.out]; omega) (by omega)
        have kc : ∀ nq, (convert 48 9 (.slice (some ⟨bb, o + q, none⟩) m (cap - q))).run Tryd.prog (w.drewN nq) = _ := fun nq => (HB.drewN nq).conv (P := Tryd.prog) Tryd.underlying48 Tryd.underlying5 Tryd.underlying9
        have hcq1 : q < cap := by omega
        have hcq2 : (q : Int) < cap := by omega
        generalize strB ((l.drop q).take m) = S at *
        clear HB hb hcq
        go_enter Tryd.func92, Tryd.ntmps92
        go_wp2_with (go_at_call 70; refine G.out.mono ?_; rintro e w' ⟨rfl, nq, rfl⟩)
        go_ret3
        exact ⟨by simp, nq, rfl⟩
  · obtain ⟨x, hx⟩ : ∃ x, (get2V l at').2.2 = x := ⟨_, rfl⟩
    have er : rawV l at' = (ByteArray.empty, 0, x) := by unfold rawV; rw [if_pos h0, hx]
    rw [er]
    rw [hx] at G h0
    have h0' : (x != 0) = true := by simpa using h0
    replace G := Lib.hid G
    clear er hx h0
    go_enter Tryd.func92, Tryd.ntmps92
    go_wp2_with (go_at_call 70; refine G.out.mono ?_; rintro e w' ⟨rfl, nq, rfl⟩)
    go_ret3
    exact ⟨rfl, nq, rfl⟩

theorem raw_err (l : List Nat) (at' : Int) : (rawV l at').2.2 ≠ 0 → (rawV l at').1 = ByteArray.empty ∧ (rawV l at').2.1 = 0 := by
  unfold rawV
  split
  · intro _; exact ⟨rfl, rfl⟩
  · split
    · intro _; exact ⟨rfl, rfl⟩
    · intro h; exact absurd rfl h
set_option maxHeartbeats 1000000 in
set_option maxRecDepth 100000 in
theorem rget_any (v : Value) (l : List Nat) (at' : Int) (w : World) (hb : BytesAt w v l) (h256 : ∀ x ∈ l, x < 256) (hl : l.length ≤ 140737488355328) (b : -9223372036854775808 ≤ at' ∧ at' ≤ 9223372036854775807) :
    Calls Tryd.prog 69 #[v, .int .i64 at'] w (GetPost (getV l at') w) := by
  have G := rgetraw_any v l at' w hb h256 hl b
  obtain ⟨a, cap, rfl, _⟩ := id hb
  have hz := raw_err l at'
  unfold getV
  clear hb
  generalize rawV l at' = r at *
  obtain ⟨S, y, x⟩ := r
  unfold RawPost at G
  simp only at G hz ⊢
  by_cases hx : x = 0
  · subst hx
    clear hz
    have R := rright_any S
    by_cases hr : rightB S = true
    · rw [hr] at R ⊢
      replace R := Lib.hid R
      replace G := Lib.hid G
      clear hr
      go_enter Tryd.func69, Tryd.ntmps69
      go_wp2_with (first | (go_at_call 92; refine G.out.mono ?_; rintro e w' ⟨rfl, nq, rfl⟩) | (go_at_call 93; refine (R.out _).mono ?_; rintro e w2 ⟨rfl, n2, rfl⟩))
      go_ret3
      exact ⟨by first | rfl | simp, below_drewN (Below.refl _ _) (nq + n2)⟩
    · have hr : rightB S = false := by simpa using hr
      rw [hr] at R ⊢
      replace R := Lib.hid R
      replace G := Lib.hid G
      clear hr
      go_enter Tryd.func69, Tryd.ntmps69
      go_wp2_with (first | (go_at_call 92; refine G.out.mono ?_; rintro e w' ⟨rfl, nq, rfl⟩) | (go_at_call 93; refine (R.out _).mono ?_; rintro e w2 ⟨rfl, n2, rfl⟩))
      go_ret3
      exact ⟨by first | rfl | simp, below_drewN (Below.refl _ _) (nq + n2)⟩
  · have hx' : (x != 0) = true := by simpa using hx
    rw [if_neg (by simp [hx])]
    obtain ⟨rfl, rfl⟩ := hz hx
    replace G := Lib.hid G
    clear hx
    go_enter Tryd.func69, Tryd.ntmps69
    go_wp2_with (first | (go_at_call 92; refine G.out.mono ?_; rintro e w' ⟨rfl, nq, rfl⟩))
    go_ret3
    exact ⟨rfl, below_drewN (Below.refl _ _) nq⟩

end Go.Proofs.YtmpklaokgogigaaDoor

/-
  LAYER 4: texts one behind the other, plain.
-/
namespace Go.Proofs.YtmpklaokgogigaaDoor
set_option linter.unusedSimpArgs false
set_option linter.unusedVariables false
open Go.RowKit

theorem gB_left (a b : ByteArray) (k : Nat) (h : k < a.size) : gB (a ++ b) k = gB a k := by
  have h2 : k < (a ++ b).size := by rw [ByteArray.size_append]; omega
  rw [← gB_at _ _ h2, ← gB_at _ _ h, ByteArray.getElem_append_left h]
theorem gB_right (a b : ByteArray) (k : Nat) (h : k < b.size) : gB (a ++ b) (a.size + k) = gB b k := by
  have h2 : a.size + k < (a ++ b).size := by rw [ByteArray.size_append]; omega
  rw [← gB_at _ _ h2, ← gB_at _ _ h, ByteArray.getElem_append_right (by omega)]
  simp
theorem join_right (a b : ByteArray) (ha : rightB a = true) (hb : rightB b = true) (h : a.size + b.size ≤ 65535) : rightB (a ++ b) = true := by
  unfold rightB at *
  simp only [Bool.and_eq_true, decide_eq_true_eq] at *
  refine ⟨by rw [ByteArray.size_append]; omega, ?_⟩
  have ra := (rtB_iff a).1 ha.2
  have rb := (rtB_iff b).1 hb.2
  refine (rtB_iff _).2 (Rgt.join (m := b.size) (by rw [ByteArray.size_append]) (fun k hk => gB_left a b k hk) ra (by omega) ?_)
  have := Rgt.shift (d := a.size) (g' := gB (a ++ b)) (n' := (a ++ b).size) (by rw [ByteArray.size_append]) (fun k hk => gB_right a b k hk) rb
  simpa using this
theorem join_bad (a b : ByteArray) (ha : rightB a = true) (hb : 0 < b.size) (hc : 128 ≤ gB b 0 ∧ gB b 0 ≤ 191) : rightB (a ++ b) = false := by
  cases hr : rightB (a ++ b) with
  | false => rfl
  | true =>
    exfalso
    unfold rightB at *
    simp only [Bool.and_eq_true, decide_eq_true_eq] at *
    have ra := (rtB_iff a).1 ha.2
    have rr := (rtB_iff _).1 hr.2
    have rc := Rgt.cut (m := b.size) (by rw [ByteArray.size_append]) (fun k hk => gB_left a b k hk) ra (by omega) rr
    have := (rc.inv (by rw [ByteArray.size_append]; omega)).1
    have g0 := gB_right a b 0 hb
    exact this (wd_tail0 _ _ _ (by rw [show a.size = a.size + 0 from rfl, g0]; exact hc))
theorem join_nul (a b : ByteArray) (hb : 0 < b.size) (hc : gB b 0 = 0) : rightB (a ++ b) = false := by
  cases hr : rightB (a ++ b) with
  | false => rfl
  | true =>
    exfalso
    unfold rightB at *
    simp only [Bool.and_eq_true, decide_eq_true_eq] at *
    have rr := (rtB_iff _).1 hr.2
    have g0 := gB_right a b 0 hb
    exact Rgt.noNul (d := a.size) (by rw [ByteArray.size_append]; omega) (by rw [show a.size = a.size + 0 from rfl, g0]; exact hc) rr (by omega)
end Go.Proofs.YtmpklaokgogigaaDoor

/-
  LAYER 4: what is laid, of both sides alike.
-/
namespace Go.Proofs.YtmpklaokgogigaaDoor
set_option linter.unusedSimpArgs false
set_option linter.unusedVariables false
open Go.RowKit

/-- What comes of a text that is laid: an error, or its bytes. -/
def Made (l : Option (List Nat)) (err : Int) (w : World) (e : Ending) (w' : World) : Prop :=
  ∃ v, e = .returned (.tuple #[v, .int .i64 err]) ∧ BytesAt w' v (l.getD []) ∧ Below w.heap.size w w'
theorem made_nil {P : Program} {f : FuncId} {args : Array Value} {w : World} {err : Int} (h : Calls P f args w fun e w' => e = .returned (.tuple #[.slice none 0 0, .int .i64 err]) ∧ w = w') : Calls P f args w (Made none err w) :=
  h.mono fun e w' ⟨he, hw⟩ => ⟨_, he, ⟨none, 0, rfl, ⟨by simp, fun _ => rfl⟩, .inl rfl⟩, by subst hw; exact Below.refl _ _⟩
theorem made_nilb {P : Program} {f : FuncId} {args : Array Value} {w : World} {err : Int} (h : Calls P f args w fun e w' => e = .returned (.tuple #[.slice none 0 0, .int .i64 err]) ∧ Below w.heap.size w w') : Calls P f args w (Made none err w) :=
  h.mono fun e w' ⟨he, hw⟩ => ⟨_, he, ⟨none, 0, rfl, ⟨by simp, fun _ => rfl⟩, .inl rfl⟩, hw⟩
theorem made_ok {P : Program} {f : FuncId} {args : Array Value} {w : World} {s : ByteArray} (h : Calls P f args w (PutPost s w)) : Calls P f args w (Made (some (rawL s)) 0 w) :=
  h.mono fun e w' ⟨v, he, ho, hw⟩ => ⟨v, he, BytesAt.of_own ho, hw⟩
def laidL (s : ByteArray) : Option (List Nat) := if 65535 < s.size then none else some (rawL s)
def laidE (s : ByteArray) : Int := if 65535 < s.size then 3 else 0
def textL (s : ByteArray) : Option (List Nat) := if 65535 < s.size then none else if rightB s = true then some (rawL s) else none
def textE (s : ByteArray) : Int := if 65535 < s.size then 3 else if rightB s = true then 0 else 9
theorem m_put (s : ByteArray) (w : World) : Calls Tryd.prog 96 #[.string s] w (Made (textL s) (textE s) w) := by
  unfold textL textE
  by_cases h : 65535 < s.size
  · rw [if_pos h, if_pos h]; exact made_nil (put_long s w h)
  · rw [if_neg h, if_neg h]
    cases hr : rightB s
    · exact made_nilb (put_bad s w (by omega) hr)
    · exact made_ok (put_ok s w (by omega) hr)
theorem m_raw (s : ByteArray) (w : World) : Calls Tryd.prog 98 #[.string s] w (Made (laidL s) (laidE s) w) := by
  unfold laidL laidE
  by_cases h : 65535 < s.size
  · rw [if_pos h, if_pos h]; exact made_nil (putraw_long s w h)
  · rw [if_neg h, if_neg h]; exact made_ok (putraw_any s w (by omega))
theorem row_of {w : World} {a : Option Addr} {len cap : Nat} {l : List Nat} (h : BytesAt w (.slice a len cap) l) {W : World} (hb : Below w.heap.size w W) : BytesAt W (.slice a len cap) l := h.keep hb (Nat.le_refl _)
end Go.Proofs.YtmpklaokgogigaaDoor
