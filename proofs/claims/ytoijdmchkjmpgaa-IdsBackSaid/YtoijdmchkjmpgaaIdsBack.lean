/-
  IdsBack: FOR EVERY INPUT the law returns true and leaves its arguments as they were.
-/
import Derived.Test.YtoijdmchkjmpgaaIn
import Derived.Test.YtoijdmchkjmpgaaByt
import Derived.Test.YtoijdmchkjmpgaaRows
import Derived.WalkKit
import Derived.ProofKit
import Derived.OpenShut
import Derived.ShutString
import Derived.ChangeOld
import Derived.Below
import Derived.SizedLaws
import Derived.Lib.SmallJoins
namespace Go.Proofs.Ytoijdmchkjmpgaa.idsBack
open Go.ChangeShapes Go.WideShapes Go.ChangeAt Go.RowKit
open Go.ChangeMaps (open_string shut_string)
set_option linter.unusedVariables false

theorem own : ownKnob Try.prog.godebug = none := by kernel_rfl
theorem laidOut : laidOutB Try.prog = true := by kernel_rfl

open Ids Que Hp
set_option maxHeartbeats 16000000 in
set_option maxRecDepth 100000 in
theorem walk (m q : Int) (w : World) (b0 : 0 ≤ m ∧ m ≤ 255) (b1 : 0 ≤ q ∧ q ≤ 255) :
    Calls Try.prog 5 #[.int .u8 m, .int .u8 q] w (Yes w) := by
  have x0 : 0 ≤ m := b0.1
  have x1 : m ≤ 255 := b0.2
  have y0 : 0 ≤ q := b1.1
  have y1 : q ≤ 255 := b1.2
  clear b0 b1
  obtain ⟨n, hn⟩ : ∃ n : Nat, (n : Int) = 1 + m % 40 := ⟨(1 + m % 40).toNat, by omega⟩
  have n1 : 1 ≤ n := by omega
  have n2 : n ≤ 40 := by omega
  obtain ⟨K, hK⟩ : ∃ K : Nat, (K : Int) = q % ((n : Int) + 1) := ⟨(q % ((n : Int) + 1)).toNat, by have := Int.emod_nonneg q (show ((n : Int) + 1) ≠ 0 by omega); omega⟩
  have hKn : K ≤ n := by have := Int.emod_lt_of_pos q (show (0 : Int) < (n : Int) + 1 by omega); omega
  have NW := Lib.hid (new_ids n w n1 (by omega))
  have r0 : 0 ≤ m % 40 := by omega
  have r1 : m % 40 ≤ 39 := by omega
  replace hn := Lib.hid hn
  replace hK := Lib.hid hK
  go_enter Try.func5, Try.ntmps5
  go_wp2_with fail
  rw [show 1 + m % 40 = (n : Int) from hn.out.symm]
  clear r0 r1 x0 x1 hn
  refine NW.out.mono ?_
  rintro e w1 ⟨rfl, d1, b1⟩
  have D1 : Hid (Ds (fun k => k < w.heap.size) w1 w.heap.size n (U 0 0)) := Lib.hid d1
  replace b1 := Lib.hid b1
  clear d1 NW
  have hn1 : (1 : Int) ≤ (n : Int) := by omega
  have hn2 : (n : Int) ≤ 40 := by omega
  have hkk := Lib.hid (show q % ((n : Int) + 1) = (K : Int) from hK.out.symm)
  go_wp2_with fail
  go_loopw [8] (fun iv wr => ∃ i : Nat, iv = .int .i64 (i : Int) ∧ i ≤ K ∧ Ds (fun k => k < w.heap.size) wr w.heap.size n (U 0 i) ∧ Below w.heap.size w wr) (fun iv _ => K - (intOf iv).toNat)
  case atStart => exact ⟨0, rfl, by omega, D1.out, b1.out⟩
  case round =>
    obtain ⟨i, rfl, hi, d, hb⟩ := hrel
    have hq : q % ((n : Int) + 1) = (K : Int) := hkk.out
    have i0 : (i : Int) ≤ 40 := by omega
    by_cases hlt : i < K
    · have hlt' : (i : Int) < (K : Int) := by omega
      have T := take_ok d (by rw [trues_U]; omega)
      rw [tk_U] at T
      replace T := Lib.hid T
      replace hb := Lib.hid hb
      clear d
      go_wp2_with fail
      refine T.out.mono ?_
      rintro e w2 ⟨rfl, d2, b2⟩
      have D2 := Lib.hid d2
      have B2 := Lib.hid (hb.out.trans (b2.below hb.out.size (fun k hk => hk)))
      clear d2 b2 T
      go_wp2_with fail
      go_roundw
      case rel => exact ⟨i + 1, by simp, by omega, D2.out, B2.out⟩
      case measure => simp [intOf]; omega
    · obtain rfl : i = K := by omega
      rw [U_full] at d
      have A := Lib.hid (all_ids d)
      replace d := Lib.hid d
      replace hb := Lib.hid hb
      clear hlt
      go_wp2_with fail
      refine A.out.mono ?_
      rintro e w3 ⟨v, rfl, o3, b3⟩
      rw [lst_U] at o3
      have hLl : ((List.range i).map (fun j : Nat => (j : Int) + 1)).length = i := by simp
      rw [hLl] at o3
      obtain ⟨va, vc, rfl⟩ := own_slice o3
      have D3 := Lib.hid (d.out.row b3 o3)
      have B3 := Lib.hid (ext_trans hb.out b3)
      have O3 := Lib.hid o3
      have hi40 : (i : Int) ≤ 40 := by omega
      clear o3 b3 A hLl hq
      go_wp2_with fail
      go_loopw [10] (fun tv wq => ∃ (j : Nat) (z : Int), tv = .int .i64 z ∧ z = (j : Int) - 1 ∧ j ≤ i ∧ Ds (fun k => k < w.heap.size ∨ (Value.slice va i vc).ownBlock = some k) wq w.heap.size n (U i j) ∧ Kp (fun k => k < w.heap.size ∨ (Value.slice va i vc).ownBlock = some k) w3 wq) (fun tv _ => (intOf tv + 1).toNat)
      case atStart => exact ⟨i, _, rfl, rfl, Nat.le_refl _, D3.out, Far.refl _ _⟩
      case round =>
        obtain ⟨j, z, rfl, hz, hj, d, kp⟩ := hrel
        by_cases hj0 : j = 0
        · subst hj0
          obtain rfl : z = -1 := by omega
          have D4 := Lib.hid d
          have K4 := Lib.hid kp
          clear d kp hz
          go_wp2_with fail
          go_loopw [11] (fun tv wq => ∃ q : Nat, tv = .int .i64 ((q : Int) + 1) ∧ q ≤ n ∧ Ds (fun k => k < w.heap.size ∨ (Value.slice va i vc).ownBlock = some k) wq w.heap.size n (U i q) ∧ Kp (fun k => k < w.heap.size ∨ (Value.slice va i vc).ownBlock = some k) w3 wq) (fun tv _ => (50 - intOf tv).toNat)
          case atStart => exact ⟨0, rfl, by omega, D4.out, K4.out⟩
          case round =>
            obtain ⟨q, rfl, hqn, d, kp⟩ := hrel
            by_cases hqe : q = n
            · subst hqe
              have TF := Lib.hid (take_full d (trues_U _ _))
              have LN : Hid (∀ m, Calls Try.prog 23 #[.pointer (some ⟨w.heap.size, 0, none⟩)] (wr.drewN m) fun e w' => e = .returned (.int .i64 (q : Int)) ∧ wr.drewN m = w') := Lib.hid fun m => by
                have := len_ds (d.ext (ext_drewN _ m))
                rw [trues_U] at this
                exact this
              have BW := Lib.hid (B3.out.trans (kp.below (B := w.heap.size) B3.out.size (fun k hk => .inl hk)))
              clear d kp
              go_wp2_with fail
              refine TF.out.mono ?_
              rintro e w5 ⟨m, rfl, rfl⟩
              go_wp2_with fail
              refine (LN.out m).mono ?_
              rintro e w6 ⟨rfl, rfl⟩
              go_wp2_with fail
              refine (awake21_any _).mono ?_
              rintro e w7 ⟨rfl, b7⟩
              go_wp2
              go_ret
              exact ⟨rfl, ext_trans (below_drewN BW.out m) b7⟩
            · have hq1 : (q : Int) + 1 ≤ (n : Int) := by omega
              have hq0 : (0 : Int) ≤ (q : Int) := by omega
              have T := take_ok d (by rw [trues_U]; omega)
              rw [tk_U, nxt_U] at T
              replace T := Lib.hid T
              replace kp := Lib.hid kp
              clear d
              go_wp2_with fail
              refine T.out.mono ?_
              rintro e w5 ⟨rfl, d5, k5⟩
              have D5 := Lib.hid d5
              have K5 := Lib.hid (kp.out.trans k5)
              clear d5 k5 T
              go_wp2_with fail
              go_roundw
              case rel => exact ⟨q + 1, by simp, by omega, D5.out, K5.out⟩
              case measure => simp [intOf]; omega
        · obtain ⟨p, rfl⟩ : ∃ p, j = p + 1 := ⟨j - 1, by omega⟩
          obtain rfl : z = (p : Int) := by omega
          obtain ⟨gl, cl, hv⟩ := own_slice' O3.out (by omega)
          have cp : wr.cell? ⟨gl, p, none⟩ = some (.int .i64 ((p : Int) + 1)) := by
            have := kp.row O3.out (fun k hk => .inr hk)
            rw [hv] at this
            exact own_get this (il_range (by omega))
          simp only [Value.slice.injEq] at hv
          obtain ⟨rfl, -, rfl⟩ := hv
          have hpi : (p : Int) < (i : Int) := by omega
          have G1 := give_ok d (k := p) (by rw [U_len]; omega) (U_lo _ (by omega))
          rw [set_U (by omega)] at G1
          replace G1 := Lib.hid G1
          replace kp := Lib.hid kp
          clear d hz
          go_wp2_with fail
          refine G1.out.mono ?_
          rintro e w5 ⟨rfl, d5, k5⟩
          have G2 := Lib.hid (give_no d5 (k := p) (by rw [U_len]; omega) (U_hi _ (Nat.le_refl _) (by omega)))
          have G3 := has_in d5 (k := p) (by rw [U_len]; omega)
          rw [U_hi _ (Nat.le_refl _) (by omega)] at G3
          replace G3 := Lib.hid G3
          have K5 := kp.out.trans k5
          have cp5 : w5.cell? ⟨gl, p, none⟩ = some (.int .i64 ((p : Int) + 1)) := own_get (K5.row O3.out (fun k hk => .inr hk)) (il_range (by omega))
          replace K5 := Lib.hid K5
          have D5 := Lib.hid d5
          clear d5 k5 G1
          go_wp2_with fail
          refine G2.out.mono ?_
          rintro e w6 ⟨rfl, rfl⟩
          go_wp2_with fail
          refine G3.out.mono ?_
          rintro e w6 ⟨rfl, rfl⟩
          go_wp2_with fail
          go_roundw
          case rel => exact ⟨p, _, rfl, rfl, by omega, D5.out, K5.out⟩
          case measure => simp [intOf]

set_option maxRecDepth 100000 in
theorem lifted (os : Os) (started : os.Started) (H : Type) (enc : TypeId × Value → H) :
    ReturnsInHanded {} Try.checked os 5 .any (Rows.idsBackSpec.pre6 enc Try.prog Try.f5 Rows.idsBackRow.domain false) (Rows.idsBackSpec.post enc Try.prog Try.f5 false true false false) := by
  refine returnsInHanded_of_change_sized (C := Try.checked) own started (by kernel_rfl) Try.func5
    (ChangeSpec.witness6 (enc := enc) (C := Try.checked) false ⟨#[], #[.int .u8 0, .int .u8 0], []⟩ 8 (by kernel_rfl) (by kernel_rfl) (by kernel_rfl) (by kernel_rfl)) ?_
  intro W base args ds gs before hval0 hW hcnd hsz0 _
  have hsz : (DataW.weightsEach Try.prog (Try.f5.params.toList ++ Rows.idsBackSpec.plain.varTypes Try.prog) (ds ++ gs)).all (· ≤ reachBytes) = true := hsz0
  have hval : ∀ (j : Nat) t v, Try.f5.params[j]? = some t → args[j]? = some v → Value.okWide Try.prog W .any base t v := hval0
  have hW' := hW
  obtain ⟨p, q, hA0, hV, rfl, hfz, hnd⟩ := hW
  have hA : DataW.TrodAll enc Try.prog W 0 (fun _ => true) true Try.f5.params.toList args.toList ds p := hA0
  rw [Try.params5] at hA hval hsz
  obtain ⟨v0, vs0, d0, ds0, p0, q0, hargs, rfl, rfl, h0, r0⟩ := trodAll_cons hA
  obtain ⟨v1, vs1, d1, ds1, p1, q1, rfl, rfl, rfl, h1, r1⟩ := trodAll_cons r0
  obtain ⟨rfl, rfl, rfl⟩ := trodAll_nil r1
  obtain rfl : args = #[v0, v1] := by cases args; simp_all
  obtain ⟨rfl, rfl⟩ := trodVars_none hV
  have k0 := h0
  have lt0 : ∀ x ∈ p0, x.block < W.heap.size := by obtain ⟨m, hm⟩ := k0; exact DataW.trod_lt m _ _ _ hm
  have k1 := h1
  have lt1 : ∀ x ∈ p1, x.block < W.heap.size := by obtain ⟨m, hm⟩ := k1; exact DataW.trod_lt m _ _ _ hm
  obtain ⟨a0, rfl, rfl, rfl, w0⟩ := open_int Try.underlying5 (hval 0 5 v0 rfl rfl) h0
  have b0 := wf_u8 w0
  obtain ⟨a1, rfl, rfl, rfl, w1⟩ := open_int Try.underlying5 (hval 1 5 v1 rfl rfl) h1
  have b1 := wf_u8 w1
  clear hA0 hval0 hsz0
  refine (walk a0 a1 W b0 b1).mono fun e W' ⟨he, bel⟩ => ?_
  subst he
  exact ⟨_, rfl, _, _, _, [], _, [], hW', trodAll_mk1 (shut_bool Try.underlying4 _), (trodAll_cons_mk (Below.trod laidOut (by kernel_rfl) (of_decide_eq_true (by kernel_rfl)) k0 bel lt0) (trodAll_cons_mk (Below.trod laidOut (by kernel_rfl) (of_decide_eq_true (by kernel_rfl)) k1 bel lt1) trodAll_mk0)), rfl, bel.frame _, fun h => by cases h⟩

theorem over : Rows.idsBackRow.holds Try.pinned (OpenSpec.ofChange Rows.idsBackSpec) :=
  OpenClaim.holds_of_wide 5 Try.f5 rfl rfl rfl rfl rfl rfl rfl ⟨rfl, rfl, rfl, rfl, rfl⟩ rfl rfl rfl rfl rfl (by kernel_rfl) Try.func5 (by kernel_rfl)
    (of_decide_eq_true (by kernel_rfl)) (by unfold Func.isWrapper; first | (rw [if_pos (by decide +kernel)]; kernel_rfl) | (rw [if_neg (by decide +kernel)]; exact ⟨rfl, rfl⟩))
    (fun os started H enc _ => lifted os started H enc)

theorem proved : Rows.IdsBackSaid := over
end Go.Proofs.Ytoijdmchkjmpgaa.idsBack
