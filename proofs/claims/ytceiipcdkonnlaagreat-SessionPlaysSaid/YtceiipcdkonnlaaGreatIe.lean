/-
  LAYER 21: the heap's down.
-/
import Derived.Test.YtceiipcdkonnlaaGreatId
namespace Go.Proofs.YtceiipcdkonnlaaGreat.Ids
set_option linter.unusedSimpArgs false
set_option linter.unusedVariables false
open Go.RowKit Que Hp
section
variable {B : Nat} {w w' : World} {g : Nat} {most c : Int} {tv bv : Value} {T : List Bool} {H : List Int}
def DownPost (B : Nat) (w : World) (g : Nat) (most : Int) (tv : Value) (T : List Bool) (bv : Value) (H : List Int) (c : Int) (n : Nat) (e : Ending) (w' : World) : Prop :=
  (∃ b, e = .returned (.bool b)) ∧ Moved B w g most tv T bv H c n w'
theorem kid_right {G : List Int} {n i : Nat} (h : 2 * i + 2 < n) (hl : at' G (2 * i + 2) < at' G (2 * i + 1)) : kid G n i = 2 * i + 2 := if_pos ⟨h, hl⟩
theorem kid_left {G : List Int} {n i : Nat} (h : ¬ (2 * i + 2 < n ∧ at' G (2 * i + 2) < at' G (2 * i + 1))) : kid G n i = 2 * i + 1 := if_neg h
set_option maxHeartbeats 8000000 in
set_option maxRecDepth 100000 in
theorem down_any (h : Id B w g most tv T bv H c) {n i0 : Nat} (hn : n ≤ H.length) (D : Dn H n i0) (hH : H.length ≤ 1000) (hi0 : i0 ≤ 1000) :
    Calls Tryz.prog 93 #[.iface 137 (.pointer (some ⟨g, 2, none⟩)), .int .i64 i0, .int .i64 n] w (DownPost B w g most tv T bv H c n) := by
  have hn' : (n : Int) ≤ 1000 := by omega
  have hi0' : (i0 : Int) ≤ 1000 := by omega
  go_enter Tryz.func93, Tryz.ntmps93
  go_wp2_with fail
  go_loopw [7] (fun iv wr => ∃ (i : Nat) (G : List Int), iv = .int .i64 (i : Int) ∧ i ≤ 1000 ∧ G.Perm H ∧ Dn G n i ∧ (∀ k, n ≤ k → at' G k = at' H k) ∧ Id B wr g most tv T bv G c ∧ Far (SB bv) w wr) (fun iv _ => 2000 - (intOf iv).toNat)
  case atStart => exact ⟨i0, H, rfl, hi0, List.Perm.refl _, D, fun _ _ => rfl, h, Far.refl _ _⟩
  case round =>
    obtain ⟨i, G, rfl, hi1, hp, hd, hk, hi, hf⟩ := hrel
    have hlen := hp.length_eq
    have R : Hid (∀ m, HeapP G n → Moved B w g most tv T bv H c n (wr.drewN m)) := Lib.hid fun m hh => ⟨G, hp, hh, hk, hi.drewN m, hf.trans (Far.of_ext (S := SB bv) (ext_drewN wr m)) (fun _ _ h => h)⟩
    have i1 : (i : Int) ≤ 1000 := by omega
    by_cases hleaf : n ≤ 2 * i + 1
    · have hg1 : (n : Int) ≤ 2 * (i : Int) + 1 := by omega
      have RR := Lib.hid (R.out 0 (hd.leaf hleaf))
      clear hp hd hk hi hf hlen R D h hleaf
      go_wp2_with fail
      go_ret
      exact ⟨⟨_, rfl⟩, RR.out⟩
    · have hl1 : 2 * i + 1 < n := by omega
      have hg1 : ¬ (n : Int) ≤ 2 * (i : Int) + 1 := by omega
      have hg2 : ¬ (2 * (i : Int) + 1 < 0) := by omega
      have kl := m_less g wr _ hi.c2
      have KL := Lib.hid (fun m => m_less g (wr.drewN m) _ (hi.drewN m).c2)
      have KS := Lib.hid (fun m => m_swap g (wr.drewN m) _ (hi.drewN m).c2)
      have HI := Lib.hid hi
      have HF := Lib.hid hf
      have HP := Lib.hid hp
      have HD := Lib.hid hd
      have HK := Lib.hid hk
      have hlen2 := hlen
      clear hi hf hp hd hk D h hleaf
      by_cases h2 : 2 * i + 2 < n
      · have hg3 : 2 * (i : Int) + 1 + 1 < (n : Int) := by omega
        have L1 : Hid (Calls Tryz.prog 116 #[bv, .int .i64 (2 * (i : Int) + 1 + 1), .int .i64 (2 * (i : Int) + 1)] wr fun e w' => ∃ k, e = .returned (.bool (decide (at' G (2 * i + 2) < at' G (2 * i + 1)))) ∧ wr.drewN k = w') := Lib.hid (by
          have := less_any HI.out (i := 2 * i + 2) (j := 2 * i + 1) (by omega) (by omega) (by omega)
          rw [show ((2 * i + 2 : Nat) : Int) = 2 * (i : Int) + 1 + 1 by omega, show ((2 * i + 1 : Nat) : Int) = 2 * (i : Int) + 1 by omega] at this
          exact this)
        by_cases hr : at' G (2 * i + 2) < at' G (2 * i + 1)
        · have hkid := Lib.hid (kid_right h2 hr)
          have hdr : decide (at' G (2 * i + 2) < at' G (2 * i + 1)) = true := decide_eq_true hr
          rw [hdr] at L1
          clear hr hdr
          have L2 : Hid (∀ m, Calls Tryz.prog 116 #[bv, .int .i64 (2 * (i : Int) + 1 + 1), .int .i64 i] (wr.drewN m) fun e w' => ∃ k, e = .returned (.bool (decide (at' G (2 * i + 2) < at' G i))) ∧ (wr.drewN m).drewN k = w') := Lib.hid fun m => by
            have := less_any (HI.out.drewN m) (i := 2 * i + 2) (j := i) (by omega) (by omega) (by omega)
            rw [show ((2 * i + 2 : Nat) : Int) = 2 * (i : Int) + 1 + 1 by omega] at this
            exact this
          have L20 : Hid (Calls Tryz.prog 116 #[bv, .int .i64 (2 * (i : Int) + 1 + 1), .int .i64 i] wr fun e w' => ∃ k, e = .returned (.bool (decide (at' G (2 * i + 2) < at' G i))) ∧ wr.drewN k = w') := Lib.hid (by
            have := less_any HI.out (i := 2 * i + 2) (j := i) (by omega) (by omega) (by omega)
            rw [show ((2 * i + 2 : Nat) : Int) = 2 * (i : Int) + 1 + 1 by omega] at this
            exact this)
          by_cases hlt : at' G (2 * i + 2) < at' G i
          · have S : Hid (∀ m, Calls Tryz.prog 117 #[bv, .int .i64 i, .int .i64 (2 * (i : Int) + 1 + 1)] (wr.drewN m) fun e w' => e = .returned (.tuple #[]) ∧ Id B w' g most tv T bv (sw G i (2 * i + 2)) c ∧ Far (SB bv) (wr.drewN m) w') := Lib.hid fun m => by
              have := swap_any (HI.out.drewN m) (i := i) (j := 2 * i + 2) (by omega) (by omega) (by omega) (by omega)
              rw [show ((2 * i + 2 : Nat) : Int) = 2 * (i : Int) + 1 + 1 by omega] at this
              exact this
            have hdl : decide (at' G (2 * i + 2) < at' G i) = true := decide_eq_true hlt
            rw [hdl] at L2 L20
            have N : Hid (Dn (sw G i (2 * i + 2)) n (2 * i + 2)) := Lib.hid (by
              have := HD.out.next (by omega) hl1 (by rw [hkid.out]; exact hlt)
              rw [hkid.out] at this
              exact this)
            have P2 : Hid ((sw G i (2 * i + 2)).Perm H) := Lib.hid ((sw_perm (by omega) (by omega)).trans HP.out)
            have K2 : Hid (∀ q, n ≤ q → at' (sw G i (2 * i + 2)) q = at' H q) := Lib.hid fun q hq => by rw [sw_at (by omega) (by omega), if_neg (by omega), if_neg (by omega)]; exact HK.out q hq
            clear hdl hlt
            go_wp2_with fail
            refine L1.out.mono ?_
            rintro e w2 ⟨m1, rfl, rfl⟩
            have kl2 := KL.out m1
            go_wp2_with fail
            refine (L2.out m1).mono ?_
            rintro e w3 ⟨m2, rfl, rfl⟩
            have ks2 := KS.out (m1 + m2)
            go_wp2_with fail
            refine (S.out _).mono ?_
            rintro e w4 ⟨rfl, i4, f4⟩
            have I4 := Lib.hid i4
            have F4 := Lib.hid ((HF.out.trans (Far.of_ext (S := SB bv) (ext_drewN wr _)) (fun _ _ h => h)).trans f4 (fun _ _ h => h))
            clear i4 f4
            go_wp2_with fail
            go_roundw
            case rel => exact ⟨2 * i + 2, _, by simp <;> omega, by omega, P2.out, N.out, K2.out, I4.out, F4.out⟩
            case measure => simp [intOf]; omega
          · have hdl : decide (at' G (2 * i + 2) < at' G i) = false := decide_eq_false hlt
            rw [hdl] at L2 L20
            have RR : Hid (∀ m, Moved B w g most tv T bv H c n (wr.drewN m)) := Lib.hid fun m => R.out m (HD.out.done (by rw [hkid.out]; omega))
            clear hdl hlt R
            go_wp2_with fail
            refine L1.out.mono ?_
            rintro e w2 ⟨m1, rfl, rfl⟩
            have kl2 := KL.out m1
            go_wp2_with fail
            refine (L2.out m1).mono ?_
            rintro e w3 ⟨m2, rfl, rfl⟩
            go_wp2_with fail
            go_ret
            exact ⟨⟨_, rfl⟩, RR.out _⟩
        · have hkid := Lib.hid (kid_left (n := n) (G := G) (i := i) (fun h => hr h.2))
          have hdr : decide (at' G (2 * i + 2) < at' G (2 * i + 1)) = false := decide_eq_false hr
          rw [hdr] at L1
          clear hr hdr
          have L2 : Hid (∀ m, Calls Tryz.prog 116 #[bv, .int .i64 (2 * (i : Int) + 1), .int .i64 i] (wr.drewN m) fun e w' => ∃ k, e = .returned (.bool (decide (at' G (2 * i + 1) < at' G i))) ∧ (wr.drewN m).drewN k = w') := Lib.hid fun m => by
            have := less_any (HI.out.drewN m) (i := 2 * i + 1) (j := i) (by omega) (by omega) (by omega)
            rw [show ((2 * i + 1 : Nat) : Int) = 2 * (i : Int) + 1 by omega] at this
            exact this
          have L20 : Hid (Calls Tryz.prog 116 #[bv, .int .i64 (2 * (i : Int) + 1), .int .i64 i] wr fun e w' => ∃ k, e = .returned (.bool (decide (at' G (2 * i + 1) < at' G i))) ∧ wr.drewN k = w') := Lib.hid (by
            have := less_any HI.out (i := 2 * i + 1) (j := i) (by omega) (by omega) (by omega)
            rw [show ((2 * i + 1 : Nat) : Int) = 2 * (i : Int) + 1 by omega] at this
            exact this)
          by_cases hlt : at' G (2 * i + 1) < at' G i
          · have S : Hid (∀ m, Calls Tryz.prog 117 #[bv, .int .i64 i, .int .i64 (2 * (i : Int) + 1)] (wr.drewN m) fun e w' => e = .returned (.tuple #[]) ∧ Id B w' g most tv T bv (sw G i (2 * i + 1)) c ∧ Far (SB bv) (wr.drewN m) w') := Lib.hid fun m => by
              have := swap_any (HI.out.drewN m) (i := i) (j := 2 * i + 1) (by omega) (by omega) (by omega) (by omega)
              rw [show ((2 * i + 1 : Nat) : Int) = 2 * (i : Int) + 1 by omega] at this
              exact this
            have hdl : decide (at' G (2 * i + 1) < at' G i) = true := decide_eq_true hlt
            rw [hdl] at L2 L20
            have N : Hid (Dn (sw G i (2 * i + 1)) n (2 * i + 1)) := Lib.hid (by
              have := HD.out.next (by omega) hl1 (by rw [hkid.out]; exact hlt)
              rw [hkid.out] at this
              exact this)
            have P2 : Hid ((sw G i (2 * i + 1)).Perm H) := Lib.hid ((sw_perm (by omega) (by omega)).trans HP.out)
            have K2 : Hid (∀ q, n ≤ q → at' (sw G i (2 * i + 1)) q = at' H q) := Lib.hid fun q hq => by rw [sw_at (by omega) (by omega), if_neg (by omega), if_neg (by omega)]; exact HK.out q hq
            clear hdl hlt
            go_wp2_with fail
            refine L1.out.mono ?_
            rintro e w2 ⟨m1, rfl, rfl⟩
            have kl2 := KL.out m1
            go_wp2_with fail
            refine (L2.out m1).mono ?_
            rintro e w3 ⟨m2, rfl, rfl⟩
            have ks2 := KS.out (m1 + m2)
            go_wp2_with fail
            refine (S.out _).mono ?_
            rintro e w4 ⟨rfl, i4, f4⟩
            have I4 := Lib.hid i4
            have F4 := Lib.hid ((HF.out.trans (Far.of_ext (S := SB bv) (ext_drewN wr _)) (fun _ _ h => h)).trans f4 (fun _ _ h => h))
            clear i4 f4
            go_wp2_with fail
            go_roundw
            case rel => exact ⟨2 * i + 1, _, by simp <;> omega, by omega, P2.out, N.out, K2.out, I4.out, F4.out⟩
            case measure => simp [intOf]; omega
          · have hdl : decide (at' G (2 * i + 1) < at' G i) = false := decide_eq_false hlt
            rw [hdl] at L2 L20
            have RR : Hid (∀ m, Moved B w g most tv T bv H c n (wr.drewN m)) := Lib.hid fun m => R.out m (HD.out.done (by rw [hkid.out]; omega))
            clear hdl hlt R
            go_wp2_with fail
            refine L1.out.mono ?_
            rintro e w2 ⟨m1, rfl, rfl⟩
            have kl2 := KL.out m1
            go_wp2_with fail
            refine (L2.out m1).mono ?_
            rintro e w3 ⟨m2, rfl, rfl⟩
            go_wp2_with fail
            go_ret
            exact ⟨⟨_, rfl⟩, RR.out _⟩
      · have hg3 : ¬ 2 * (i : Int) + 1 + 1 < (n : Int) := by omega
        have hkid := Lib.hid (kid_left (n := n) (G := G) (i := i) (fun h => h2 h.1))
        have L2 : Hid (∀ m, Calls Tryz.prog 116 #[bv, .int .i64 (2 * (i : Int) + 1), .int .i64 i] (wr.drewN m) fun e w' => ∃ k, e = .returned (.bool (decide (at' G (2 * i + 1) < at' G i))) ∧ (wr.drewN m).drewN k = w') := Lib.hid fun m => by
          have := less_any (HI.out.drewN m) (i := 2 * i + 1) (j := i) (by omega) (by omega) (by omega)
          rw [show ((2 * i + 1 : Nat) : Int) = 2 * (i : Int) + 1 by omega] at this
          exact this
        have L20 : Hid (Calls Tryz.prog 116 #[bv, .int .i64 (2 * (i : Int) + 1), .int .i64 i] wr fun e w' => ∃ k, e = .returned (.bool (decide (at' G (2 * i + 1) < at' G i))) ∧ wr.drewN k = w') := Lib.hid (by
          have := less_any HI.out (i := 2 * i + 1) (j := i) (by omega) (by omega) (by omega)
          rw [show ((2 * i + 1 : Nat) : Int) = 2 * (i : Int) + 1 by omega] at this
          exact this)
        by_cases hlt : at' G (2 * i + 1) < at' G i
        · have S : Hid (∀ m, Calls Tryz.prog 117 #[bv, .int .i64 i, .int .i64 (2 * (i : Int) + 1)] (wr.drewN m) fun e w' => e = .returned (.tuple #[]) ∧ Id B w' g most tv T bv (sw G i (2 * i + 1)) c ∧ Far (SB bv) (wr.drewN m) w') := Lib.hid fun m => by
            have := swap_any (HI.out.drewN m) (i := i) (j := 2 * i + 1) (by omega) (by omega) (by omega) (by omega)
            rw [show ((2 * i + 1 : Nat) : Int) = 2 * (i : Int) + 1 by omega] at this
            exact this
          have hdl : decide (at' G (2 * i + 1) < at' G i) = true := decide_eq_true hlt
          rw [hdl] at L2 L20
          have N : Hid (Dn (sw G i (2 * i + 1)) n (2 * i + 1)) := Lib.hid (by
            have := HD.out.next (by omega) hl1 (by rw [hkid.out]; exact hlt)
            rw [hkid.out] at this
            exact this)
          have P2 : Hid ((sw G i (2 * i + 1)).Perm H) := Lib.hid ((sw_perm (by omega) (by omega)).trans HP.out)
          have K2 : Hid (∀ q, n ≤ q → at' (sw G i (2 * i + 1)) q = at' H q) := Lib.hid fun q hq => by rw [sw_at (by omega) (by omega), if_neg (by omega), if_neg (by omega)]; exact HK.out q hq
          clear hdl hlt
          
          go_wp2_with fail
          refine L20.out.mono ?_
          rintro e w3 ⟨m2, rfl, rfl⟩
          have ks2 := KS.out m2
          go_wp2_with fail
          refine (S.out _).mono ?_
          rintro e w4 ⟨rfl, i4, f4⟩
          have I4 := Lib.hid i4
          have F4 := Lib.hid ((HF.out.trans (Far.of_ext (S := SB bv) (ext_drewN wr _)) (fun _ _ h => h)).trans f4 (fun _ _ h => h))
          clear i4 f4
          go_wp2_with fail
          go_roundw
          case rel => exact ⟨2 * i + 1, _, by simp <;> omega, by omega, P2.out, N.out, K2.out, I4.out, F4.out⟩
          case measure => simp [intOf]; omega
        · have hdl : decide (at' G (2 * i + 1) < at' G i) = false := decide_eq_false hlt
          rw [hdl] at L2 L20
          have RR : Hid (∀ m, Moved B w g most tv T bv H c n (wr.drewN m)) := Lib.hid fun m => R.out m (HD.out.done (by rw [hkid.out]; omega))
          clear hdl hlt R
          
          go_wp2_with fail
          refine L20.out.mono ?_
          rintro e w3 ⟨m2, rfl, rfl⟩
          go_wp2_with fail
          go_ret
          exact ⟨⟨_, rfl⟩, RR.out _⟩
end
end Go.Proofs.YtceiipcdkonnlaaGreat.Ids
