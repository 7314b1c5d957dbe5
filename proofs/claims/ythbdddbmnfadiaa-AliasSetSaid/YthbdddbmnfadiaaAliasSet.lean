/-
  AliasSet: FOR EVERY INPUT the law returns true and leaves its arguments as they were.
-/
import Derived.Test.YthbdddbmnfadiaaAg
import Derived.Test.YthbdddbmnfadiaaRows
import Derived.WalkKit
import Derived.ProofKit
import Derived.OpenShut
import Derived.ShutString
import Derived.ChangeOld
import Derived.Below
import Derived.SizedLaws
import Derived.Lib.SmallJoins
namespace Go.Proofs.Ythbdddbmnfadiaa.aliasSet
open Go.ChangeShapes Go.WideShapes Go.ChangeAt Go.RowKit
open Go.ChangeMaps (open_string shut_string)
set_option linter.unusedVariables false

theorem own : ownKnob Try.prog.godebug = none := by kernel_rfl
theorem laidOut : laidOutB Try.prog = true := by kernel_rfl

def dd : ByteArray := { data := #[100] }
def xx : ByteArray := { data := #[120] }
set_option maxHeartbeats 4000000 in
set_option maxRecDepth 100000 in
theorem walk (a0 : Option Addr) (len0 cap0 : Nat) (l0 : List It) (a1 : Option Addr) (len1 cap1 : Nat) (l1 : List It) (n : Int) (w : World) (h0 : ItsAt w (.slice a0 len0 cap0) l0) (ok0 : ∀ f ∈ l0, f.ok) (h1 : ItsAt w (.slice a1 len1 cap1) l1) (ok1 : ∀ f ∈ l1, f.ok) (bn : 0 ≤ n ∧ n ≤ 18446744073709551615) :
    Calls Try.prog 5 #[.slice a0 len0 cap0, .slice a1 len1 cap1, .int .u64 n] w (Yes w) := by
  have H0 := Lib.hid h0
  have H1 := Lib.hid h1
  have wn : (Lit.int .u64 n).wf = true := by simp [Lit.wf, IntKind.min, IntKind.max, IntKind.signed, IntKind.bits]; omega
  obtain ⟨b0, q0, hv0, hl0, -⟩ := h0
  simp only [Value.slice.injEq] at hv0
  obtain ⟨rfl, rfl, rfl⟩ := hv0
  obtain ⟨b1, q1, hv1, hl1, hc⟩ := h1
  simp only [Value.slice.injEq] at hv1
  obtain ⟨rfl, rfl, rfl⟩ := hv1
  have hl0' : (l0.length : Int) ≤ 140737488351232 := by omega
  have hl1' : (l1.length : Int) ≤ 140737488351232 := by omega
  replace hc := Lib.hid hc
  replace ok0 := Lib.hid ok0
  replace ok1 := Lib.hid ok1
  by_cases hbig : 200 < l0.length + l1.length
  · have hb' : (200 : Int) < (l0.length : Int) + (l1.length : Int) := by omega
    replace hbig := Lib.hid hbig
    go_enter Try.func5, Try.ntmps5
    go_wp2_with fail
    refine (awake_any _).mono ?_
    rintro e w8 ⟨rfl, b8⟩
    go_wp2_with fail
    go_ret
    exact ⟨rfl, b8⟩
  have hb' : (l0.length : Int) + (l1.length : Int) ≤ 200 := by omega
  have hsm0 : l0.length ≤ 1000000 := by omega
  have hsm1 : l1.length ≤ 1000000 := by omega
  replace hbig := Lib.hid hbig
  go_enter Try.func5, Try.ntmps5
  go_wp2_with fail
  refine (new_any w).mono ?_
  rintro e w1 ⟨rfl, t1, bb1, z1⟩
  have S1 := Lib.hid (set_any t1 dd _ l0 (H0.out.keep bb1 (Nat.le_refl _)) ok0.out hsm0)
  replace bb1 := Lib.hid bb1
  replace z1 := Lib.hid z1
  clear t1
  go_wp2_with fail
  refine (S1.out).mono ?_
  rintro e w2 ⟨rfl, ⟨D2, t2⟩, g2⟩
  have B2 := Lib.hid (grown_ext bb1.out g2 (Nat.le_refl _))
  have ow : ∀ e ∈ setT [] dd l0, e.o = dd := setT_own (by simp)
  generalize setT [] dd l0 = T1 at *
  have S2 := set_any t2 dd _ l1 (H1.out.keep B2.out (Nat.le_refl _)) ok1.out hsm1
  have hno := notO_own ow
  unfold SetP setT at S2
  rw [tryE_own ow] at S2
  have hE : ∃ E, E = tryE [] dd l1 := ⟨_, rfl⟩
  obtain ⟨E, hE⟩ := hE
  rw [← hE] at S2
  by_cases hE0 : E = 0
  · rw [if_pos hE0] at S2
    rw [hno, List.nil_append] at S2
    subst hE0
    replace S2 := Lib.hid S2
    replace hE := Lib.hid hE
    replace hno := Lib.hid hno
    replace ow := Lib.hid ow
    replace t2 := Lib.hid t2
    clear g2
    go_wp2_with fail
    refine (S2.out).mono ?_
    rintro e w3 ⟨rfl, ⟨D3, t3⟩, g3⟩
    have B3 := Lib.hid (grown_ext B2.out g3 (Nat.le_refl _))
    clear g3
    have ow3 := Lib.hid (@ents_own dd l1)
    have hd3 : (ents dd l1).length ≤ l1.length := by unfold ents; rw [List.length_map]; exact List.length_filter_le _ _
    go_wp2_with fail
    go_loopw [8, 9, 10] (fun c s i wr => ∃ k : Nat, i = .int .i64 (k : Int) ∧ k ≤ l1.length ∧ c = .int .i64 ((ents dd (l1.take k)).length : Nat) ∧ s = .bool (hasA (ents dd (l1.take k)) n) ∧ Below w3.heap.size w3 wr) (fun _ _ i _ => l1.length - (intOf i).toNat)
    case atStart => exact ⟨0, rfl, by omega, by simp [ents], by simp [ents, hasA], Below.refl _ _⟩
    case round =>
      obtain ⟨k, rfl, hk, rfl, rfl, hb⟩ := hrel
      have t4 := t3.keep hb
      by_cases hlt : k < l1.length
      · obtain ⟨x, hx⟩ : ∃ x, l1[k]? = some x := ⟨_, List.getElem?_eq_getElem hlt⟩
        have hxo := ok1.out x (List.mem_of_getElem? hx)
        have hent := ents_take dd l1 k x hx
        have hle := (ents_sub dd l1 k).length_le
        obtain ⟨b, o, rfl, hbl, q0, q1, q2, q3, q4, q5, q6, q7⟩ := itsAt_at hx (ext_trans B3.out hb) hc.out
        obtain ⟨x0, x1, x2, x3, x4, x5, x6, x7⟩ := x
        simp only at q0 q1 q2 q3 q4 q5 q6 q7 hent
        obtain ⟨-, ok2, -⟩ := hxo
        simp only at ok2
        have hlt' : (k : Int) < l1.length := by omega
        replace hx := Lib.hid hx
        replace hb := Lib.hid hb
        cases x1
        · simp only [Bool.false_eq_true, if_false, List.append_nil] at hent
          replace hent := Lib.hid hent
          replace t4 := Lib.hid t4
          go_wp2_with fail
          go_roundw
          case rel => exact ⟨k + 1, by simp, by omega, by rw [hent.out], by rw [hent.out], hb.out⟩
          case measure => simp [intOf]; omega
        · simp only [if_true] at hent
          have hmem : (⟨x2, dd, x0⟩ : En) ∈ ents dd l1 := (ents_sub dd l1 (k + 1)).subset (by rw [hent]; simp)
          have F := find_any t4 dd x2 ok2
          have hfv : findV (ents dd l1) dd x2 = (x0, true) := findV_some t4.nd hmem rfl
          rw [hfv] at F
          have hse := str_eq x0
          have hha := hasA_snoc (ents dd (l1.take k)) ⟨x2, dd, x0⟩ n
          rw [← hent] at hha
          have hle2 : ((ents dd (l1.take k)).length : Int) ≤ 200 := by omega
          have hln : (ents dd (l1.take (k + 1))).length = (ents dd (l1.take k)).length + 1 := by rw [hent]; simp
          replace hln := Lib.hid hln
          replace hent := Lib.hid hent
          replace t4 := Lib.hid t4
          replace hfv := Lib.hid hfv
          replace F := Lib.hid F
          replace hmem := Lib.hid hmem
          replace hha := Lib.hid hha
          cases hHA : hasA (ents dd (l1.take k)) n
          all_goals
            rw [hHA] at hha
            replace hHA := Lib.hid hHA
            replace hha := Lib.hid hha
            go_wp2_with (go_at_call 17; refine F.out.mono ?_; rintro e w5 ⟨rfl, b5⟩; have q0' := (b5.cell (p := ⟨b, o + k * 8, none⟩) (by have := B3.out.size; have := hb.out.size; simp; omega)).trans q0; have q2' := (b5.cell (p := ⟨b, o + k * 8 + 2, none⟩) (by have := B3.out.size; have := hb.out.size; simp; omega)).trans q2; have B5 := Lib.hid (ext_trans hb.out b5); clear b5)
            go_roundw
            case rel => exact ⟨k + 1, by simp, by omega, by rw [hln.out]; simp, by rw [hha.out]; simp <;> rfl, B5.out⟩
            case measure => simp [intOf]; omega
      · obtain rfl : k = l1.length := by omega
        rw [List.take_length]
        have F := find_any t4 dd n wn
        rw [findV_has ow3.out] at F
        generalize hHA : hasA (ents dd l1) n = HA at *
        have hno2 : notO (ents dd l1) xx = ents dd l1 := notO_other ow3.out (by decide)
        have hno3 : notO (ents dd l1) dd = [] := notO_own ow3.out
        have t4' := Lib.hid t4
        replace F := Lib.hid F
        replace hb := Lib.hid hb
        replace hHA := Lib.hid hHA
        replace t4 := Lib.hid t4
        go_wp2_with fail
        refine (F.out).mono ?_
        rintro e w5 ⟨rfl, b5⟩
        have t5 := t4'.out.keep b5
        have L := Lib.hid (len_any t5)
        have DX := drop_any t5 xx
        unfold DropP at DX
        rw [hno2, Int.sub_self] at DX
        replace DX := Lib.hid DX
        have B5 := Lib.hid (ext_trans (ext_trans B3.out hb.out) b5)
        replace hno2 := Lib.hid hno2
        replace b5 := Lib.hid b5
        replace t5 := Lib.hid t5
        go_wp2_with fail
        refine (L.out).mono ?_
        rintro e w6 ⟨rfl, rfl⟩
        go_wp2_with fail
        refine (DX.out).mono ?_
        rintro e w7 ⟨rfl, ⟨D7, t7⟩, g7⟩
        have B7 := Lib.hid (grown_ext B5.out g7 (Nat.le_refl _))
        have DY := drop_any t7 dd
        unfold DropP at DY
        rw [hno3] at DY
        simp only [List.length_nil] at DY
        rw [Int.natCast_zero, Int.sub_zero] at DY
        replace DY := Lib.hid DY
        replace hno3 := Lib.hid hno3
        clear g7
        replace t7 := Lib.hid t7
        go_wp2_with fail
        refine (DY.out).mono ?_
        rintro e w8 ⟨rfl, ⟨D8, t8⟩, g8⟩
        have B8 := Lib.hid (grown_ext B7.out g8 (Nat.le_refl _))
        have L8 := Lib.hid (len_any t8)
        clear g8
        replace t8 := Lib.hid t8
        go_wp2_with fail
        refine (L8.out).mono ?_
        rintro e w9 ⟨rfl, rfl⟩
        go_wp2_with fail
        refine (awake_any _).mono ?_
        rintro e w10 ⟨rfl, b10⟩
        go_wp2_with fail
        go_ret
        exact ⟨rfl, ext_trans B8.out b10⟩
  · rw [if_neg hE0] at S2
    have hd : (E != 0) = true := by simpa using hE0
    replace S2 := Lib.hid S2
    replace hE := Lib.hid hE
    replace hE0 := Lib.hid hE0
    replace hno := Lib.hid hno
    replace ow := Lib.hid ow
    replace t2 := Lib.hid t2
    clear g2
    go_wp2_with fail
    refine (S2.out).mono ?_
    rintro e w3 ⟨rfl, -, g3⟩
    have B3 := Lib.hid (grown_ext B2.out g3 (Nat.le_refl _))
    clear g3
    go_wp2_with fail
    refine (new_any _).mono ?_
    rintro e w4 ⟨rfl, t4, b4, z4⟩
    have S4 := set_any t4 dd _ l1 ((H1.out.keep B3.out (Nat.le_refl _)).keep b4 (Nat.le_refl _)) ok1.out hsm1
    unfold SetP at S4
    rw [← hE.out] at S4
    replace S4 := Lib.hid S4
    have B4 := Lib.hid (ext_trans B3.out b4)
    replace b4 := Lib.hid b4
    replace z4 := Lib.hid z4
    clear t4
    go_wp2_with fail
    refine (S4.out).mono ?_
    rintro e w5 ⟨rfl, -, g5⟩
    have B5 := Lib.hid (B4.out.grown g5 B4.out.size (fun j hj => by cases hj; exact B3.out.size))
    clear g5
    go_wp2_with fail
    refine (awake_any _).mono ?_
    rintro e w8 ⟨rfl, b8⟩
    go_wp2_with fail
    go_ret
    exact ⟨rfl, ext_trans B5.out b8⟩

set_option maxRecDepth 100000 in
theorem lifted (os : Os) (started : os.Started) (H : Type) (enc : TypeId × Value → H) :
    ReturnsInHanded {} Try.checked os 5 .any (Rows.aliasSetSpec.pre6 enc Try.prog Try.f5 Rows.aliasSetRow.domain false) (Rows.aliasSetSpec.post enc Try.prog Try.f5 false true false false) := by
  refine returnsInHanded_of_change_sized (C := Try.checked) own started (by kernel_rfl) Try.func5
    (ChangeSpec.witness6 (enc := enc) (C := Try.checked) false ⟨#[], #[.slice none 0 0, .slice none 0 0, .int .u64 0], []⟩ 8 (by kernel_rfl) (by kernel_rfl) (by kernel_rfl) (by kernel_rfl)) ?_
  intro W base args ds gs before hval0 hW hcnd hsz0 _
  have hsz : (DataW.weightsEach Try.prog (Try.f5.params.toList ++ Rows.aliasSetSpec.plain.varTypes Try.prog) (ds ++ gs)).all (· ≤ reachBytes) = true := hsz0
  have hval : ∀ (j : Nat) t v, Try.f5.params[j]? = some t → args[j]? = some v → Value.okWide Try.prog W .any base t v := hval0
  have hW' := hW
  obtain ⟨p, q, hA0, hV, rfl, hfz, hnd⟩ := hW
  have hA : DataW.TrodAll enc Try.prog W 0 (fun _ => true) true Try.f5.params.toList args.toList ds p := hA0
  rw [Try.params5] at hA hval hsz
  obtain ⟨v0, vs0, d0, ds0, p0, q0, hargs, rfl, rfl, h0, r0⟩ := trodAll_cons hA
  obtain ⟨v1, vs1, d1, ds1, p1, q1, rfl, rfl, rfl, h1, r1⟩ := trodAll_cons r0
  obtain ⟨v2, vs2, d2, ds2, p2, q2, rfl, rfl, rfl, h2, r2⟩ := trodAll_cons r1
  obtain ⟨rfl, rfl, rfl⟩ := trodAll_nil r2
  obtain rfl : args = #[v0, v1, v2] := by cases args; simp_all
  obtain ⟨rfl, rfl⟩ := trodVars_none hV
  have k0 := h0
  have lt0 : ∀ x ∈ p0, x.block < W.heap.size := by obtain ⟨m, hm⟩ := k0; exact DataW.trod_lt m _ _ _ hm
  have k1 := h1
  have lt1 : ∀ x ∈ p1, x.block < W.heap.size := by obtain ⟨m, hm⟩ := k1; exact DataW.trod_lt m _ _ _ hm
  have k2 := h2
  have lt2 : ∀ x ∈ p2, x.block < W.heap.size := by obtain ⟨m, hm⟩ := k2; exact DataW.trod_lt m _ _ _ hm
  obtain ⟨a0, len0, cap0, rfl⟩ := okWide_slice Try.underlying30 (hval 0 30 v0 rfl rfl)
  obtain ⟨z0, w0, s0⟩ : ∃ l : List It, ItsAt W (.slice a0 len0 cap0) l ∧ ∀ f ∈ l, f.ok := by
    obtain ⟨fuel, hf⟩ := h0
    exact open_its hf (fun n hn => by
      have hm := List.all_eq_true.1 hsz n (DataW.weights_mem_each (j := 0) (t := 30) rfl rfl _ hn)
      simpa [reachBytes] using of_decide_eq_true hm)
  obtain ⟨a1, len1, cap1, rfl⟩ := okWide_slice Try.underlying30 (hval 1 30 v1 rfl rfl)
  obtain ⟨z1, w1, s1⟩ : ∃ l : List It, ItsAt W (.slice a1 len1 cap1) l ∧ ∀ f ∈ l, f.ok := by
    obtain ⟨fuel, hf⟩ := h1
    exact open_its hf (fun n hn => by
      have hm := List.all_eq_true.1 hsz n (DataW.weights_mem_each (j := 1) (t := 30) rfl rfl _ hn)
      simpa [reachBytes] using of_decide_eq_true hm)
  obtain ⟨a2, rfl, rfl, rfl, w2⟩ := open_int Try.underlying23 (hval 2 23 v2 rfl rfl) h2
  have b2 := wf_u64 w2
  clear hA0 hval0 hsz0
  refine (walk a0 len0 cap0 z0 a1 len1 cap1 z1 a2 W w0 s0 w1 s1 b2).mono fun e W' ⟨he, bel⟩ => ?_
  subst he
  exact ⟨_, rfl, _, _, _, [], _, [], hW', trodAll_mk1 (shut_bool Try.underlying4 _), (trodAll_cons_mk (Below.trod laidOut (by kernel_rfl) (of_decide_eq_true (by kernel_rfl)) k0 bel lt0) (trodAll_cons_mk (Below.trod laidOut (by kernel_rfl) (of_decide_eq_true (by kernel_rfl)) k1 bel lt1) (trodAll_cons_mk (Below.trod laidOut (by kernel_rfl) (of_decide_eq_true (by kernel_rfl)) k2 bel lt2) trodAll_mk0))), rfl, bel.frame _, fun h => by cases h⟩

theorem over : Rows.aliasSetRow.holds Try.pinned (OpenSpec.ofChange Rows.aliasSetSpec) :=
  OpenClaim.holds_of_wide 5 Try.f5 rfl rfl rfl rfl rfl rfl rfl ⟨rfl, rfl, rfl, rfl, rfl⟩ rfl rfl rfl rfl rfl (by kernel_rfl) Try.func5 (by kernel_rfl)
    (of_decide_eq_true (by kernel_rfl)) (by unfold Func.isWrapper; first | (rw [if_pos (by decide +kernel)]; kernel_rfl) | (rw [if_neg (by decide +kernel)]; exact ⟨rfl, rfl⟩))
    (fun os started H enc _ => lifted os started H enc)

theorem proved : Rows.AliasSetSaid := over
end Go.Proofs.Ythbdddbmnfadiaa.aliasSet
