/-
  SessionsGoOn: FOR EVERY INPUT the law returns true and leaves its arguments as they were.
-/
import Derived.Test.YtdcfenkllpfbaaaBm
import Derived.Test.YtdcfenkllpfbaaaRows
import Derived.WalkKit
import Derived.ProofKit
import Derived.OpenShut
import Derived.ShutString
import Derived.ChangeOld
import Derived.Below
import Derived.SizedLaws
import Derived.Lib.SmallJoins
namespace Go.Proofs.Ytdcfenkllpfbaaa.sessionsGoOn
set_option linter.unusedSimpArgs false
open Go.ChangeShapes Go.WideShapes Go.ChangeAt Go.RowKit
open Go.ChangeMaps (open_string shut_string)
set_option linter.unusedVariables false

theorem own : ownKnob Try.prog.godebug = none := by kernel_rfl
theorem laidOut : laidOutB Try.prog = true := by kernel_rfl

open Sns Que
def mT : Mg := ⟨⟨#[116]⟩, ⟨#[]⟩, 1, false⟩
theorem okZ : okId ⟨#[122]⟩ := ⟨by decide, by decide +kernel, by decide +kernel⟩
def L1 (s p g c : Nat) : List (Option Ze) := (List.replicate 8 none).set 0 (some ⟨s, p, g, c, ⟨#[122]⟩, false, [], 0⟩)
def L2 (s p g c : Nat) (z : Ze) : List (Option Ze) := (L1 s p g c).set 1 (some z)
theorem opn_second (s p g c : Nat) (cn : Bool) : opnR ⟨#[97]⟩ cn (L1 s p g c) = (1, false, 0, some 1) := by
  unfold opnR
  rw [if_pos okA]
  simp [L1, List.replicate, fndS, fr, spS]
theorem opn_third (s p g c : Nat) (z : Ze) (cn : Bool) (hz : z.cl = ⟨#[97]⟩) : opnR ⟨#[97]⟩ cn (L2 s p g c z) = if cn || z.cn then (1, false, 0, some 1) else (1, true, 0, none) := by
  unfold opnR
  rw [if_pos okA]
  simp [L2, L1, List.replicate, fndS, fr, spS, hz]
def zk (z : Ze) (i : Nat) : Ze := { z with l := List.replicate i mT, lost := 0 }
theorem zk_next (z : Ze) (i : Nat) (h : i < 16) : dl (zk z i) mT = zk z (i + 1) := by
  simp [dl, zk, h, List.replicate_succ']
set_option maxHeartbeats 16000000 in
set_option maxRecDepth 100000 in
theorem walk (was comes : Bool) (n : Int) (w : World) (hn : 0 ≤ n ∧ n ≤ 255) : Calls Try.prog 4 #[.bool was, .bool comes, .int .u8 n] w (Yes w) := by
  go_enter Try.func4, Try.ntmps4
  go_wp2_with fail
  refine (st_new _).mono ?_
  rintro e w1 ⟨rfl, h1, b1⟩
  have O1 := Lib.hid (st_open h1 (Int.le_refl 0) ⟨#[122]⟩ false (by decide))
  replace b1 := Lib.hid b1
  clear h1
  go_wp2_with fail
  refine O1.out.mono ?_
  unfold OpenIs
  rw [opn_first okZ]
  rintro e w2 ⟨rfl, F2, LL, h2, -, s, p, g, c, z1, z2, z3, z4, rfl⟩
  have b2 := Lib.hid (Far.ext0 (B := 0) F2 b1.out (Nat.le_refl _))
  have O2 := Lib.hid (st_open h2 (Int.le_refl 0) ⟨#[97]⟩ was (by decide))
  clear h2 O1 b1 F2 z1 z2 z3 z4
  go_wp2_with fail
  refine O2.out.mono ?_
  unfold OpenIs
  rw [show opnR ⟨#[97]⟩ was ((List.replicate 8 none).set 0 (some ⟨s, p, g, c, ⟨#[122]⟩, false, [], 0⟩)) = (1, false, 0, some 1) from opn_second s p g c was]
  rintro e w3 ⟨rfl, F3, LL, h3, -, s1, p1, g1, c1, z1, z2, z3, z4, rfl⟩
  have b3 := Lib.hid (Far.ext0 (B := 0) F3 b2.out (Nat.le_refl _))
  obtain ⟨z, hz⟩ : ∃ z : Ze, z = ⟨s1, p1, g1, c1, ⟨#[97]⟩, was, [], 0⟩ := ⟨_, rfl⟩
  rw [← hz] at h3
  have hcl : z.cl = ⟨#[97]⟩ := by rw [hz]
  have hcn : z.cn = was := by rw [hz]
  have hzk : z = zk z 0 := by rw [hz]; rfl
  have ZG : Hid (w.heap.size ≤ z.g ∧ w.heap.size ≤ z.c ∧ w.heap.size ≤ w.heap.size) := Lib.hid (by have := b2.out.size; rw [hz]; simp only; omega)
  rw [hzk] at h3
  have h3' : St w3 w.heap.size 0 (L2 s p g c (zk z 0)) := h3
  have A3 := st_at h3' 1
  rw [show plS (L2 s p g c (zk z 0)) 1 = some (zk z 0) from rfl, show ptrZ (some (zk z 0)) = some ⟨z.s, 0, none⟩ from rfl] at A3
  replace A3 := Lib.hid A3
  replace h3' := Lib.hid h3'
  replace hz := Lib.hid hz
  clear h3 O2 b2 F3 z1 z2 z3 z4 hzk
  go_wp2_with fail
  refine A3.out.mono ?_
  rintro e w4 ⟨rfl, rfl⟩
  clear A3
  have hr : n.tmod 16 = n % 16 := Int.tmod_eq_emod_of_nonneg hn.1
  have hm0 : 0 ≤ n % 16 ∧ n % 16 < 16 := by omega
  obtain ⟨k, hk⟩ : ∃ k : Nat, n % 16 = (k : Int) := ⟨(n % 16).toNat, by omega⟩
  go_wp2_with fail
  go_loopw [13] (fun v wr => ∃ i : Nat, v = .int .i64 (i : Int) ∧ i ≤ k ∧ St wr w.heap.size (i : Int) (L2 s p g c (zk z i)) ∧ Below w.heap.size w wr) (fun v _ => k - (intOf v).toNat)
  case atStart => exact ⟨0, rfl, by omega, h3'.out, b3.out⟩
  case round =>
    obtain ⟨i, rfl, hi, hS, hb⟩ := hrel
    by_cases hik : i < k
    · have hik' : (i : Int) < k := by omega
      have hi16 : i < 16 := by omega
      have D := st_deliver hS (by omega) (i := 1) (z := zk z i) rfl ⟨#[116]⟩ ⟨#[]⟩ false
      rw [show dl (zk z i) ⟨⟨#[116]⟩, ⟨#[]⟩, 1, false⟩ = zk z (i + 1) from zk_next z i hi16] at D
      replace D := Lib.hid D
      replace hb := Lib.hid hb
      clear hS
      go_wp2_with fail
      refine D.out.mono ?_
      rintro e w5 ⟨⟨v, rfl⟩, h5, F5⟩
      have b5 := Lib.hid (hb.out.trans (F5.below (B := w.heap.size) hb.out.size (by have := ZG.out; rintro q (rfl | rfl); exact this.1; exact this.2.1)))
      replace h5 := Lib.hid h5
      clear D F5 hb
      go_wp2_with fail
      go_roundw
      case rel => exact ⟨i + 1, by simp, by omega, h5.out, b5.out⟩
      case measure => simp [intOf]; omega
    · have hik' : ¬ (i : Int) < k := by omega
      obtain rfl : i = k := by omega
      have O4 := Lib.hid (st_open hS (by omega) ⟨#[97]⟩ comes (by decide))
      replace hb := Lib.hid hb
      clear hS
      go_wp2_with fail
      refine O4.out.mono ?_
      unfold OpenIs
      rw [opn_third s p g c (zk z i) comes hcl, show (zk z i).cn = was from hcn]
      rintro e w6 ⟨rfl, F6, L6, h6, hL6⟩
      have b6 := Lib.hid (hb.out.trans (F6.below (B := w.heap.size) hb.out.size (by rintro q rfl; exact Nat.le_refl _)))
      have hG : wr.heap.size ≥ w.heap.size := hb.out.size
      obtain ⟨z', hz6, hl6, hc6, hg6⟩ : ∃ z' : Ze, St w6 w.heap.size (i : Int) (L2 s p g c z') ∧ z'.l.length = (if (comes || was) = true then 0 else i) ∧ z'.cn = (comes || (!(comes || was) && was)) ∧ w.heap.size ≤ z'.g ∧ w.heap.size ≤ z'.c := by
        cases hcw : (comes || was)
        · rw [hcw] at hL6
          have e6 : L6 = _ := hL6
          subst e6
          have := ZG.out
          refine ⟨zk z i, h6, by simp [zk], ?_, this.1, this.2.1⟩
          rw [show (zk z i).cn = was from hcn]
          cases comes <;> cases was <;> simp_all
        · rw [hcw] at hL6
          obtain ⟨-, s', p', g', c', y1, y2, y3, y4, e6⟩ := hL6
          subst e6
          exact ⟨⟨s', p', g', c', ⟨#[97]⟩, comes, [], 0⟩, by simpa [L2] using h6, by simp, by simp, by simp only; omega, by simp only; omega⟩
      have A6 := st_at hz6 1
      rw [show plS (L2 s p g c z') 1 = some z' from rfl, show ptrZ (some z') = some ⟨z'.s, 0, none⟩ from rfl] at A6
      have Q6 := Lib.hid (st_queue hz6 (i := 1) (z := z') rfl)
      replace A6 := Lib.hid A6
      clear hL6 h6 hcn hcl h3' hz F6 hz6 O4 hb hi hik hik' hk hr hm0 ZG
      cases was <;> cases comes
      all_goals
        simp only [Bool.or_false, Bool.or_true, Bool.false_or, Bool.true_or, if_true, if_false, Bool.false_eq_true, Bool.not_true, Bool.not_false, Bool.and_true, Bool.and_false] at hl6 hc6
        simp only [Bool.or_false, Bool.or_true, Bool.false_or, Bool.true_or, if_true, if_false, Bool.false_eq_true]
        go_wp2_with fail
        refine A6.out.mono ?_
        rintro e w7 ⟨rfl, rfl⟩
        go_wp2_with fail
        refine Q6.out.mono ?_
        rw [hl6]
        rintro e w7 ⟨⟨qa, qc, rfl⟩, h7, F7⟩
        have b7 := Lib.hid (b6.out.trans (F7.below (B := w.heap.size) b6.out.size (by rintro q (rfl | rfl); exact hg6.1; exact hg6.2)))
        have C7 := s_clean (h7.at_ 1 z' rfl).sn
        rw [hc6] at C7
        replace C7 := Lib.hid C7
        have N7 := st_len h7
        rw [show ((tkS (spS (L2 s p g c z')) 0).length : Int) = 2 from rfl] at N7
        replace N7 := Lib.hid N7
        clear h7 F7 A6 Q6 b6
        go_wp2_with fail
        refine C7.out.mono ?_
        rintro e w8 ⟨rfl, rfl⟩
        go_wp2_with fail
        refine N7.out.mono ?_
        rintro e w9 ⟨rfl, b9⟩
        replace b9 := Lib.hid (ext_trans b7.out b9)
        clear C7 N7 b7
        go_wp2_with fail
        refine (awake28_any _).mono ?_
        rintro e w6 ⟨rfl, b10⟩
        replace b10 := Lib.hid (ext_trans b9.out b10)
        clear b9
        go_wp2_with fail
        go_ret
        exact ⟨rfl, b10.out⟩

set_option maxRecDepth 100000 in
theorem lifted (os : Os) (started : os.Started) (H : Type) (enc : TypeId × Value → H) :
    ReturnsInHanded {} Try.checked os 4 .any (Rows.sessionsGoOnSpec.pre6 enc Try.prog Try.f4 Rows.sessionsGoOnRow.domain false) (Rows.sessionsGoOnSpec.post enc Try.prog Try.f4 false true false false) := by
  refine returnsInHanded_of_change_sized (C := Try.checked) own started (by kernel_rfl) Try.func4
    (ChangeSpec.witness6 (enc := enc) (C := Try.checked) false ⟨#[], #[.bool false, .bool false, .int .u8 0], []⟩ 8 (by kernel_rfl) (by kernel_rfl) (by kernel_rfl) (by kernel_rfl)) ?_
  intro W base args ds gs before hval0 hW hcnd hsz0 _
  have hsz : (DataW.weightsEach Try.prog (Try.f4.params.toList ++ Rows.sessionsGoOnSpec.plain.varTypes Try.prog) (ds ++ gs)).all (· ≤ reachBytes) = true := hsz0
  have hval : ∀ (j : Nat) t v, Try.f4.params[j]? = some t → args[j]? = some v → Value.okWide Try.prog W .any base t v := hval0
  have hW' := hW
  obtain ⟨p, q, hA0, hV, rfl, hfz, hnd⟩ := hW
  have hA : DataW.TrodAll enc Try.prog W 0 (fun _ => true) true Try.f4.params.toList args.toList ds p := hA0
  rw [Try.params4] at hA hval hsz
  obtain ⟨v0, vs0, d0, ds0, p0, q0, hargs, rfl, rfl, h0, r0⟩ := trodAll_cons hA
  obtain ⟨v1, vs1, d1, ds1, p1, q1, rfl, rfl, rfl, h1, r1⟩ := trodAll_cons r0
  obtain ⟨v2, vs2, d2, ds2, p2, q2, rfl, rfl, rfl, h2, r2⟩ := trodAll_cons r1
  obtain ⟨rfl, rfl, rfl⟩ := trodAll_nil r2
  obtain rfl : args = #[v0, v1, v2] := by cases args; simp_all
  obtain ⟨rfl, rfl⟩ := trodVars_none hV
  have k0 := h0
  have lt0 : ∀ x ∈ p0, x.block < W.heap.size := by obtain ⟨m, hm⟩ := k0; exact DataW.trod_lt m _ _ _ hm
  have k1 := h1
  have lt1 : ∀ x ∈ p1, x.block < W.heap.size := by obtain ⟨m, hm⟩ := k1; exact DataW.trod_lt m _ _ _ hm
  have k2 := h2
  have lt2 : ∀ x ∈ p2, x.block < W.heap.size := by obtain ⟨m, hm⟩ := k2; exact DataW.trod_lt m _ _ _ hm
  obtain ⟨a0, rfl, rfl, rfl⟩ := open_bool Try.underlying4 (hval 0 4 v0 rfl rfl) h0
  obtain ⟨a1, rfl, rfl, rfl⟩ := open_bool Try.underlying4 (hval 1 4 v1 rfl rfl) h1
  obtain ⟨a2, rfl, rfl, rfl, w2⟩ := open_int Try.underlying5 (hval 2 5 v2 rfl rfl) h2
  have b2 := wf_u8 w2
  clear hA0 hval0 hsz0
  refine (walk a0 a1 a2 W b2).mono fun e W' ⟨he, bel⟩ => ?_
  subst he
  exact ⟨_, rfl, _, _, _, [], _, [], hW', trodAll_mk1 (shut_bool Try.underlying4 _), (trodAll_cons_mk (Below.trod laidOut (by kernel_rfl) (of_decide_eq_true (by kernel_rfl)) k0 bel lt0) (trodAll_cons_mk (Below.trod laidOut (by kernel_rfl) (of_decide_eq_true (by kernel_rfl)) k1 bel lt1) (trodAll_cons_mk (Below.trod laidOut (by kernel_rfl) (of_decide_eq_true (by kernel_rfl)) k2 bel lt2) trodAll_mk0))), rfl, bel.frame _, fun h => by cases h⟩

theorem over : Rows.sessionsGoOnRow.holds Try.pinned (OpenSpec.ofChange Rows.sessionsGoOnSpec) :=
  OpenClaim.holds_of_wide 4 Try.f4 rfl rfl rfl rfl rfl rfl rfl ⟨rfl, rfl, rfl, rfl, rfl⟩ rfl rfl rfl rfl rfl (by kernel_rfl) Try.func4 (by kernel_rfl)
    (of_decide_eq_true (by kernel_rfl)) (by unfold Func.isWrapper; first | (rw [if_pos (by decide +kernel)]; kernel_rfl) | (rw [if_neg (by decide +kernel)]; exact ⟨rfl, rfl⟩))
    (fun os started H enc _ => lifted os started H enc)

theorem proved : Rows.SessionsGoOnSaid := over
end Go.Proofs.Ytdcfenkllpfbaaa.sessionsGoOn
