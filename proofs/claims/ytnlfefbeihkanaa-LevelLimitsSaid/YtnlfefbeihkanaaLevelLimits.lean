/-
  LevelLimits: FOR EVERY INPUT the law returns true and leaves its arguments as they were.
-/
import Derived.Test.YtnlfefbeihkanaaSd
import Derived.Test.YtnlfefbeihkanaaRows
import Derived.WalkKit
import Derived.ProofKit
import Derived.OpenShut
import Derived.ShutString
import Derived.ChangeOld
import Derived.Below
import Derived.SizedLaws
import Derived.Lib.SmallJoins
namespace Go.Proofs.Ytnlfefbeihkanaa.levelLimits
open Go.ChangeShapes Go.WideShapes Go.ChangeAt Go.RowKit
open Go.ChangeMaps (open_string shut_string)
set_option linter.unusedVariables false

theorem own : ownKnob Try.prog.godebug = none := by kernel_rfl
theorem laidOut : laidOutB Try.prog = true := by kernel_rfl

set_option maxHeartbeats 2000000 in
set_option maxRecDepth 100000 in
theorem walk (n k : Int) (w : World) (bn : 0 ≤ n ∧ n ≤ 255) (bk : 0 ≤ k ∧ k ≤ 255) : Calls Try.prog 5 #[.int .u8 n, .int .u8 k] w (Yes w) := by
  obtain ⟨n, rfl⟩ := Int.eq_ofNat_of_zero_le bn.1
  obtain ⟨k, rfl⟩ := Int.eq_ofNat_of_zero_le bk.1
  have hn : n ≤ 255 := by omega
  obtain ⟨K, hK⟩ : ∃ K, K = k % 20 := ⟨_, rfl⟩
  have hK20 : K < 20 := by omega
  have qK : (k : Int) % 20 = (K : Int) := by omega
  have A := lim_a ⟨n, by omega⟩
  have D := lim_d ⟨K, hK20⟩
  simp only at A D
  have NA := Lib.hid fun w => name_any (aS n) w (by rw [aS_size]; omega) (fun _ => ca_asc _ (aS_asc n) (by rw [aS_size]; omega))
  have FA := Lib.hid fun w => filter_any (aS n) w (by rw [aS_size]; omega) (fun _ => ca_parts (aS_asc n) (by rw [aS_size]; omega))
  have ND := Lib.hid fun w => name_any (dS K) w (by rw [dS_size]; omega) (fun _ => ca_asc _ (dS_asc K) (by rw [dS_size]; omega))
  have FD := Lib.hid fun w => filter_any (dS K) w (by rw [dS_size]; omega) (fun _ => ca_parts (dS_asc K) (by rw [dS_size]; omega))
  rw [A.1] at NA
  rw [A.2] at FA
  rw [D.1] at ND
  rw [D.2] at FD
  clear A D
  have hn' : (n : Int) ≤ 255 := bn.2
  have hk' : (k : Int) ≤ 255 := bk.2
  have hK' : (K : Int) < 20 := by omega
  replace hK := Lib.hid hK
  go_enter Try.func5, Try.ntmps5
  go_wp2
  go_loopw [5, 6] (fun s i wr => ∃ j : Nat, i = .int .i64 j ∧ j ≤ n ∧ s = .string (aS j) ∧ Below w.heap.size w wr) (fun _ i _ => n - (intOf i).toNat)
  case atStart => exact ⟨0, rfl, by omega, rfl, Below.refl _ _⟩
  case round =>
    obtain ⟨j, rfl, hj, rfl, hb⟩ := hrel
    replace hb := Lib.hid hb
    have hjs := aS_size j
    by_cases hend : j = n
    · subst hend
      generalize aS j = sa at *
      go_wp2
      rename World => w2
      go_loopw [7, 8] (fun s i wr => ∃ j : Nat, i = .int .i64 j ∧ j ≤ K ∧ s = .string (dS j) ∧ Below w.heap.size w wr) (fun _ i _ => K - (intOf i).toNat)
      case atStart => exact ⟨0, rfl, by omega, rfl, hb.out⟩
      case round =>
        obtain ⟨m, rfl, hm, rfl, hb2⟩ := hrel
        replace hb2 := Lib.hid hb2
        have hms := dS_size m
        by_cases hend2 : m = K
        · subst hend2
          generalize dS m = sd at *
          by_cases hm12 : 1 + m ≤ 12
          · rw [decide_eq_true hm12] at ND FD
            have hm12' : 1 + (m : Int) ≤ 12 := by omega
            replace hm12 := Lib.hid hm12
            rcases (show j = 0 ∨ (1 ≤ j ∧ j ≤ 96) ∨ 96 < j by omega) with h | h | h
            · have hA : (decide (1 ≤ j) && decide (j ≤ 96)) = false := by simp; omega
              rw [hA] at NA FA
              clear hA
              have h1 : (j : Int) < 1 := by omega
              replace h := Lib.hid h
              go_wp2_with fail
              refine (NA.out _).mono ?_
              rintro e w3 ⟨rfl, b3⟩
              go_wp2_with fail
              refine (FA.out _).mono ?_
              rintro e w4 ⟨rfl, b4⟩
              have B4 := Lib.hid (ext_trans (ext_trans hb2.out b3) b4)
              clear b3 b4
              go_wp2_with fail
              refine (ND.out _).mono ?_
              rintro e w5 ⟨rfl, b5⟩
              go_wp2_with fail
              refine (FD.out _).mono ?_
              rintro e w6 ⟨rfl, b6⟩
              have B6 := Lib.hid (ext_trans (ext_trans B4.out b5) b6)
              clear b5 b6
              go_wp2_with fail
              refine (awake17_any _).mono ?_
              rintro e w7 ⟨rfl, b7⟩
              go_wp2_with fail
              go_ret
              exact ⟨rfl, ext_trans B6.out b7⟩
            · have hA : (decide (1 ≤ j) && decide (j ≤ 96)) = true := by simp; omega
              rw [hA] at NA FA
              clear hA
              have h1 : (1 : Int) ≤ j := by omega
              have h2 : (j : Int) ≤ 96 := by omega
              replace h := Lib.hid h
              go_wp2_with fail
              refine (NA.out _).mono ?_
              rintro e w3 ⟨rfl, b3⟩
              go_wp2_with fail
              refine (FA.out _).mono ?_
              rintro e w4 ⟨rfl, b4⟩
              have B4 := Lib.hid (ext_trans (ext_trans hb2.out b3) b4)
              clear b3 b4
              go_wp2_with fail
              refine (ND.out _).mono ?_
              rintro e w5 ⟨rfl, b5⟩
              go_wp2_with fail
              refine (FD.out _).mono ?_
              rintro e w6 ⟨rfl, b6⟩
              have B6 := Lib.hid (ext_trans (ext_trans B4.out b5) b6)
              clear b5 b6
              go_wp2_with fail
              refine (awake17_any _).mono ?_
              rintro e w7 ⟨rfl, b7⟩
              go_wp2_with fail
              go_ret
              exact ⟨rfl, ext_trans B6.out b7⟩
            · have hA : (decide (1 ≤ j) && decide (j ≤ 96)) = false := by simp; omega
              rw [hA] at NA FA
              clear hA
              have h1 : (1 : Int) ≤ j := by omega
              have h2 : ¬ (j : Int) ≤ 96 := by omega
              replace h := Lib.hid h
              go_wp2_with fail
              refine (NA.out _).mono ?_
              rintro e w3 ⟨rfl, b3⟩
              go_wp2_with fail
              refine (FA.out _).mono ?_
              rintro e w4 ⟨rfl, b4⟩
              have B4 := Lib.hid (ext_trans (ext_trans hb2.out b3) b4)
              clear b3 b4
              go_wp2_with fail
              refine (ND.out _).mono ?_
              rintro e w5 ⟨rfl, b5⟩
              go_wp2_with fail
              refine (FD.out _).mono ?_
              rintro e w6 ⟨rfl, b6⟩
              have B6 := Lib.hid (ext_trans (ext_trans B4.out b5) b6)
              clear b5 b6
              go_wp2_with fail
              refine (awake17_any _).mono ?_
              rintro e w7 ⟨rfl, b7⟩
              go_wp2_with fail
              go_ret
              exact ⟨rfl, ext_trans B6.out b7⟩
          · rw [decide_eq_false hm12] at ND FD
            have hm12' : ¬ 1 + (m : Int) ≤ 12 := by omega
            replace hm12 := Lib.hid hm12
            rcases (show j = 0 ∨ (1 ≤ j ∧ j ≤ 96) ∨ 96 < j by omega) with h | h | h
            · have hA : (decide (1 ≤ j) && decide (j ≤ 96)) = false := by simp; omega
              rw [hA] at NA FA
              clear hA
              have h1 : (j : Int) < 1 := by omega
              replace h := Lib.hid h
              go_wp2_with fail
              refine (NA.out _).mono ?_
              rintro e w3 ⟨rfl, b3⟩
              go_wp2_with fail
              refine (FA.out _).mono ?_
              rintro e w4 ⟨rfl, b4⟩
              have B4 := Lib.hid (ext_trans (ext_trans hb2.out b3) b4)
              clear b3 b4
              go_wp2_with fail
              refine (ND.out _).mono ?_
              rintro e w5 ⟨rfl, b5⟩
              go_wp2_with fail
              refine (FD.out _).mono ?_
              rintro e w6 ⟨rfl, b6⟩
              have B6 := Lib.hid (ext_trans (ext_trans B4.out b5) b6)
              clear b5 b6
              go_wp2_with fail
              refine (awake17_any _).mono ?_
              rintro e w7 ⟨rfl, b7⟩
              go_wp2_with fail
              go_ret
              exact ⟨rfl, ext_trans B6.out b7⟩
            · have hA : (decide (1 ≤ j) && decide (j ≤ 96)) = true := by simp; omega
              rw [hA] at NA FA
              clear hA
              have h1 : (1 : Int) ≤ j := by omega
              have h2 : (j : Int) ≤ 96 := by omega
              replace h := Lib.hid h
              go_wp2_with fail
              refine (NA.out _).mono ?_
              rintro e w3 ⟨rfl, b3⟩
              go_wp2_with fail
              refine (FA.out _).mono ?_
              rintro e w4 ⟨rfl, b4⟩
              have B4 := Lib.hid (ext_trans (ext_trans hb2.out b3) b4)
              clear b3 b4
              go_wp2_with fail
              refine (ND.out _).mono ?_
              rintro e w5 ⟨rfl, b5⟩
              go_wp2_with fail
              refine (FD.out _).mono ?_
              rintro e w6 ⟨rfl, b6⟩
              have B6 := Lib.hid (ext_trans (ext_trans B4.out b5) b6)
              clear b5 b6
              go_wp2_with fail
              refine (awake17_any _).mono ?_
              rintro e w7 ⟨rfl, b7⟩
              go_wp2_with fail
              go_ret
              exact ⟨rfl, ext_trans B6.out b7⟩
            · have hA : (decide (1 ≤ j) && decide (j ≤ 96)) = false := by simp; omega
              rw [hA] at NA FA
              clear hA
              have h1 : (1 : Int) ≤ j := by omega
              have h2 : ¬ (j : Int) ≤ 96 := by omega
              replace h := Lib.hid h
              go_wp2_with fail
              refine (NA.out _).mono ?_
              rintro e w3 ⟨rfl, b3⟩
              go_wp2_with fail
              refine (FA.out _).mono ?_
              rintro e w4 ⟨rfl, b4⟩
              have B4 := Lib.hid (ext_trans (ext_trans hb2.out b3) b4)
              clear b3 b4
              go_wp2_with fail
              refine (ND.out _).mono ?_
              rintro e w5 ⟨rfl, b5⟩
              go_wp2_with fail
              refine (FD.out _).mono ?_
              rintro e w6 ⟨rfl, b6⟩
              have B6 := Lib.hid (ext_trans (ext_trans B4.out b5) b6)
              clear b5 b6
              go_wp2_with fail
              refine (awake17_any _).mono ?_
              rintro e w7 ⟨rfl, b7⟩
              go_wp2_with fail
              go_ret
              exact ⟨rfl, ext_trans B6.out b7⟩
        · have mlt : (m : Int) < K := by omega
          have e := dS_succ m
          go_wp2_with fail
          go_roundw
          case rel => exact ⟨m + 1, by simp, by omega, rfl, hb2.out⟩
          case measure => simp [intOf]; omega
    · have jlt : (j : Int) < n := by omega
      go_wp2_with fail
      go_roundw
      case rel => exact ⟨j + 1, by simp, by omega, by rw [← aS_succ], hb.out⟩
      case measure => simp [intOf]; omega

set_option maxRecDepth 100000 in
theorem lifted (os : Os) (started : os.Started) (H : Type) (enc : TypeId × Value → H) :
    ReturnsInHanded {} Try.checked os 5 .any (Rows.levelLimitsSpec.pre6 enc Try.prog Try.f5 Rows.levelLimitsRow.domain false) (Rows.levelLimitsSpec.post enc Try.prog Try.f5 false true false false) := by
  refine returnsInHanded_of_change_sized (C := Try.checked) own started (by kernel_rfl) Try.func5
    (ChangeSpec.witness6 (enc := enc) (C := Try.checked) false ⟨#[], #[.int .u8 0, .int .u8 0], []⟩ 8 (by kernel_rfl) (by kernel_rfl) (by kernel_rfl) (by kernel_rfl)) ?_
  intro W base args ds gs before hval0 hW hcnd hsz0 _
  have hsz : (DataW.weightsEach Try.prog (Try.f5.params.toList ++ Rows.levelLimitsSpec.plain.varTypes Try.prog) (ds ++ gs)).all (· ≤ reachBytes) = true := hsz0
  have hval : ∀ (j : Nat) t v, Try.f5.params[j]? = some t → args[j]? = some v → Value.okWide Try.prog W .any base t v := hval0
  have hW' := hW
  obtain ⟨p, q, hA0, hV, rfl, hfz, hnd⟩ := hW
  have hA : DataW.TrodAll enc Try.prog W 0 (fun _ => true) true Try.f5.params.toList args.toList ds p := hA0
  rw [Try.params5] at hA hval hsz
  obtain ⟨v0, vs0, d0, ds0, p0, q0, hargs, rfl, rfl, h0, r0⟩ := trodAll_cons hA
  obtain ⟨v1, vs1, d1, ds1, p1, q1, rfl, rfl, rfl, h1, r1⟩ := trodAll_cons r0
  obtain ⟨rfl, rfl, rfl⟩ := trodAll_nil r1
  obtain rfl : args = #[v0, v1] := by cases args; simp_all
  obtain ⟨rfl, rfl⟩ := trodVars_none hV
  have k0 := h0
  have lt0 : ∀ x ∈ p0, x.block < W.heap.size := by obtain ⟨m, hm⟩ := k0; exact DataW.trod_lt m _ _ _ hm
  have k1 := h1
  have lt1 : ∀ x ∈ p1, x.block < W.heap.size := by obtain ⟨m, hm⟩ := k1; exact DataW.trod_lt m _ _ _ hm
  obtain ⟨a0, rfl, rfl, rfl, w0⟩ := open_int Try.underlying5 (hval 0 5 v0 rfl rfl) h0
  have b0 := wf_u8 w0
  obtain ⟨a1, rfl, rfl, rfl, w1⟩ := open_int Try.underlying5 (hval 1 5 v1 rfl rfl) h1
  have b1 := wf_u8 w1
  clear hA0 hval0 hsz0
  refine (walk a0 a1 W b0 b1).mono fun e W' ⟨he, bel⟩ => ?_
  subst he
  exact ⟨_, rfl, _, _, _, [], _, [], hW', trodAll_mk1 (shut_bool Try.underlying4 _), (trodAll_cons_mk (Below.trod laidOut (by kernel_rfl) (of_decide_eq_true (by kernel_rfl)) k0 bel lt0) (trodAll_cons_mk (Below.trod laidOut (by kernel_rfl) (of_decide_eq_true (by kernel_rfl)) k1 bel lt1) trodAll_mk0)), rfl, bel.frame _, fun h => by cases h⟩

theorem over : Rows.levelLimitsRow.holds Try.pinned (OpenSpec.ofChange Rows.levelLimitsSpec) :=
  OpenClaim.holds_of_wide 5 Try.f5 rfl rfl rfl rfl rfl rfl rfl ⟨rfl, rfl, rfl, rfl, rfl⟩ rfl rfl rfl rfl rfl (by kernel_rfl) Try.func5 (by kernel_rfl)
    (of_decide_eq_true (by kernel_rfl)) (by unfold Func.isWrapper; first | (rw [if_pos (by decide +kernel)]; kernel_rfl) | (rw [if_neg (by decide +kernel)]; exact ⟨rfl, rfl⟩))
    (fun os started H enc _ => lifted os started H enc)

theorem proved : Rows.LevelLimitsSaid := over
end Go.Proofs.Ytnlfefbeihkanaa.levelLimits
