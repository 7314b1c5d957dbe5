/-
  ItemsTwo: FOR EVERY INPUT the law returns true and leaves its arguments as they were; the package's tables are laid (a card).
-/
import Derived.Test.YtihblangceblhaaDoorTw
import Derived.Test.YtihblangceblhaaDoorCards
import Derived.Test.YtihblangceblhaaDoorTie
import Derived.Test.YtihblangceblhaaDoorBulk
import Derived.JoinedCond
import Derived.WalkKit
import Derived.ProofKit
import Derived.OpenShut
import Derived.ChangeOld
import Derived.Below
import Derived.SizedLaws
import Derived.Lib.SmallJoins
import Derived.Deep.DeepHandedRow
import Derived.Lib.LaidTab
namespace Go.Proofs.YtihblangceblhaaDoor.itemsTwo
set_option linter.unusedSimpArgs false
open Go.ChangeShapes Go.WideShapes Go.ChangeAt Go.RowKit
open Go.ChangeMaps (open_string shut_string)
set_option linter.unusedVariables false

theorem own : ownKnob Tryd.prog.godebug = none := by kernel_rfl
theorem laidOut : laidOutB Tryd.prog = true := by kernel_rfl

set_option maxHeartbeats 16000000 in
set_option maxRecDepth 100000 in
theorem walk (a0 : Option Addr) (len0 cap0 : Nat) (l : List Mt) (a1 : Option Addr) (len1 cap1 : Nat) (ma : List Mt) (a2 : Option Addr) (len2 cap2 : Nat) (mb : List Mt) (w : World) (ht : Tabs w)
    (h0 : MtsAt w (.slice a0 len0 cap0) l) (ok0 : ∀ f ∈ l, f.ok) (u0 : len0 ≤ 1048576) (h1 : MtsAt w (.slice a1 len1 cap1) ma) (ok1 : ∀ f ∈ ma, f.ok) (u1 : len1 ≤ 1048576) (h2 : MtsAt w (.slice a2 len2 cap2) mb) (ok2 : ∀ f ∈ mb, f.ok) (u2 : len2 ≤ 1048576) :
    Calls Tryd.prog 6 #[.slice a0 len0 cap0, .slice a1 len1 cap1, .slice a2 len2 cap2] w (YesW w) := by
  have z1 : ma.length ≤ 1048576 := by obtain ⟨_, _, e, -⟩ := h1; simp only [Value.slice.injEq] at e; omega
  have z2 : mb.length ≤ 1048576 := by obtain ⟨_, _, e, -⟩ := h2; simp only [Value.slice.injEq] at e; omega
  have PB := Lib.hid (pborn_any _ l w ht h0 ok0)
  have LB := bornR_len l
  have AP := updF_append [] ⟨#[]⟩ ma mb (bornR l).1
  have UL := updF_len [] ⟨#[]⟩ ma (bornR l).1
  have TW := Lib.hid (fun W (hW : Below w.heap.size w W) => ht.keep hW)
  have M1 := Lib.hid (fun W (hW : Below w.heap.size w W) => h1.keep hW (Nat.le_refl _))
  have M2 := Lib.hid (fun W (hW : Below w.heap.size w W) => h2.keep hW (Nat.le_refl _))
  have ok12 : Hid (∀ f ∈ ma ++ mb, f.ok) := Lib.hid fun f hf => (List.mem_append.1 hf).elim (ok1 f) (ok2 f)
  have OK1 := Lib.hid ok1
  have OK2 := Lib.hid ok2
  generalize bornR l = R at *
  obtain ⟨L, c⟩ := R
  simp only at LB AP UL
  have UP := Lib.hid (fun v mv ml W (g m : Nat) (D : DataW Unit) X => @pupd_any [] g m D ⟨#[]⟩ v X mv ml W)
  clear ht h0 ok0 u0 h1 ok1 u1 h2 ok2 u2
  replace LB := Lib.hid LB
  replace AP := Lib.hid AP
  replace UL := Lib.hid UL
  replace z1 := Lib.hid z1
  replace z2 := Lib.hid z2
  go_enter Tryd.func6, Tryd.ntmps6
  go_wp2_with fail
  refine (PB.out).mono ?_
  rintro e w1 ⟨v1, rfl, i1, b1⟩
  have B1 := Lib.hid b1
  have I1 := Lib.hid (fun W (hW : Below w1.heap.size w1 W) => i1.keep hW (Nat.le_refl _))
  obtain ⟨x1, y1, rfl, -, -⟩ := i1
  clear b1 PB
  by_cases hc : c = 1
  rotate_left
  · have hc' : (c != 1) = true := by simpa using hc
    replace hc := Lib.hid hc
    clear UP I1 M1 M2 AP
    go_wp2_with fail
    refine (awake31 _ (TW.out _ B1.out)).mono ?_
    rintro e w2 ⟨rfl, b2⟩
    have B2 := Lib.hid (ext_trans B1.out b2)
    clear b2
    go_wp2_with fail
    go_ret
    exact ⟨rfl, B2.out⟩
  subst hc
  go_wp2_with fail
  refine (new31 _).mono ?_
  rintro e w2 ⟨g2, m2, rfl, hT2, b2⟩
  have B2 := Lib.hid (ext_trans B1.out b2)
  have U1 := Lib.hid (UP.out _ _ _ w2 g2 m2 _ L (TW.out _ B2.out) (I1.out _ b2) (by have := LB.out; omega) (M1.out _ B2.out) OK1.out hT2)
  have I2 := Lib.hid (fun W (hW : Below w2.heap.size w2 W) => I1.out W (ext_trans b2 hW))
  generalize hR1 : updF [] ⟨#[]⟩ ma L = R1 at *
  obtain ⟨M, d⟩ := R1
  simp only at U1
  replace hR1 := Lib.hid hR1
  clear b2 hT2 B1 I1
  go_wp2_with fail
  refine (U1.out).mono ?_
  rintro e w3 ⟨v3, rfl, i3, b3⟩
  have B3 := Lib.hid (ext_trans B2.out b3)
  have I3 := Lib.hid (fun W (hW : Below w3.heap.size w3 W) => i3.keep hW (Nat.le_refl _))
  have IL := Lib.hid (fun W (hW : Below w3.heap.size w3 W) => I2.out W (ext_trans b3 hW))
  obtain ⟨x3, y3, rfl, -, -⟩ := i3
  clear b3 U1 I2 B2
  by_cases hd : d = 1
  rotate_left
  · have hd' : (d != 1) = true := by simpa using hd
    replace hd := Lib.hid hd
    clear UP I3 IL M1 M2 AP
    go_wp2_with fail
    refine (awake31 _ (TW.out _ B3.out)).mono ?_
    rintro e w4 ⟨rfl, b4⟩
    have B4 := Lib.hid (ext_trans B3.out b4)
    clear b4
    go_wp2_with fail
    go_ret
    exact ⟨rfl, B4.out⟩
  subst hd
  have AP' : updF [] ⟨#[]⟩ (ma ++ mb) L = updF [] ⟨#[]⟩ mb M := by rw [AP.out]; rfl
  replace AP' := Lib.hid AP'
  have hML : M.length ≤ 32 := by have := UL.out; have := LB.out; simp only at *; omega
  replace hML := Lib.hid hML
  go_wp2_with fail
  refine (new31 _).mono ?_
  rintro e w4 ⟨g4, m4, rfl, hT4, b4⟩
  have B4 := Lib.hid (ext_trans B3.out b4)
  have U2 := Lib.hid (UP.out _ _ _ w4 g4 m4 _ M (TW.out _ B4.out) (I3.out _ b4) (by have := hML.out; omega) (M2.out _ B4.out) OK2.out hT4)
  have IL4 := Lib.hid (fun W (hW : Below w4.heap.size w4 W) => IL.out W (ext_trans b4 hW))
  clear b4 hT4 IL I3
  generalize hR2 : updF [] ⟨#[]⟩ mb M = R2 at *
  obtain ⟨N, q⟩ := R2
  simp only at U2
  replace hR2 := Lib.hid hR2
  go_wp2_with fail
  refine (U2.out).mono ?_
  rintro e w5 ⟨v5, rfl, i5, b5⟩
  have B5 := Lib.hid (ext_trans B4.out b5)
  have I5 := Lib.hid (fun W (hW : Below w5.heap.size w5 W) => i5.keep hW (Nat.le_refl _))
  have IL5 := Lib.hid (fun W (hW : Below w5.heap.size w5 W) => IL4.out W (ext_trans b5 hW))
  obtain ⟨x5, y5, rfl, -, -⟩ := i5
  clear b5 U2 IL4 B4 B3
  obtain ⟨i0, z, hi0, hz0, hz1, hz2, hzs⟩ := info32
  replace hi0 := Lib.hid hi0
  replace hz0 := Lib.hid hz0
  replace hz1 := Lib.hid hz1
  replace hz2 := Lib.hid hz2
  replace hzs := Lib.hid hzs
  have E0 := Lib.hid (ext_alloc w5 (.cells #[] 32))
  have B6 := Lib.hid (ext_trans B5.out E0.out)
  have O6 := Lib.hid (World.ownsRow_made (base := w5.heap.size) (e := 32) (size := 15) w5 #[] 0 (Nat.le_refl _) (Nat.zero_le _) (by simp))
  have M1' := M1.out _ B6.out
  obtain ⟨p1, p2, e1, -, -⟩ := id M1'
  simp only [Value.slice.injEq] at e1
  obtain ⟨rfl, rfl, rfl⟩ := e1
  have M2a := M2.out _ B6.out
  obtain ⟨p3, p4, e2, -, -⟩ := M2a
  simp only [Value.slice.injEq] at e2
  obtain ⟨rfl, rfl, rfl⟩ := e2
  replace M1' := Lib.hid M1'
  have l1 : Hid (([] : List Mt).length + ma.length ≤ 100000000) := Lib.hid (by have := z1.out; simp; omega)
  have l2 : Hid (ma.length + mb.length ≤ 100000000) := Lib.hid (by have := z1.out; have := z2.out; omega)
  go_wp2_with (first
    | (at_builtin; refine wpList_append_mts _ rfl (.tmp 42) (.tmp 43) 22 rfl w5.heap.size 32 i0 z Tryd.underlying22 hi0.out hz0.out hzs.out hz1.out hz2.out (.slice (some ⟨w5.heap.size, 0, none⟩) 0 0) [] ma rfl O6.out M1'.out OK1.out l1.out (by simp) ?_; intro v7 w7 o7 g7; have E7 := Lib.hid (E0.out.grown g7 (by simp) (fun k hk => (O6.out.lt k hk).1)); have O7 := Lib.hid (show w7.ownsRow w5.heap.size 32 15 v7 ma.length (mtsAtC ma) from o7); have B7 := Lib.hid (ext_trans B5.out E7.out); have M7 := Lib.hid (M2.out _ B7.out); clear o7 g7)
    | (at_builtin; refine wpList_append_mts _ rfl (.tmp 44) (.tmp 45) 22 rfl w5.heap.size 32 i0 z Tryd.underlying22 hi0.out hz0.out hzs.out hz1.out hz2.out v7 ma mb rfl O7.out M7.out OK2.out l2.out E7.out.size ?_; intro v8 w8 o8 g8; have E8 := Lib.hid (E7.out.grown g8 E7.out.size (fun k hk => (O7.out.lt k hk).1)); have O8 := Lib.hid o8; have B8 := Lib.hid (ext_trans B5.out E8.out); clear o8 g8)
    )
  refine (new31 _).mono ?_
  rintro e w9 ⟨g9, m9, rfl, hT9, b9⟩
  have B9 := Lib.hid (ext_trans B8.out b9)
  have E9 := Lib.hid (ext_trans E8.out b9)
  have M9 := Lib.hid ((MtsAt.of_own O8.out (by have := l2.out; rw [List.length_append]; omega)).keep b9 (Nat.le_refl _))
  have U3 := UP.out _ _ _ w9 g9 m9 _ L (TW.out _ B9.out) (IL5.out _ E9.out) (by have := LB.out; omega) M9.out ok12.out hT9
  rw [AP'.out] at U3
  simp only at U3
  replace U3 := Lib.hid U3
  have I9 := Lib.hid (fun W (hW : Below w9.heap.size w9 W) => I5.out W (ext_trans E9.out hW))
  clear ok12 AP AP'
  generalize ma ++ mb = mj at *
  obtain ⟨xa, ya, rfl⟩ := own_slice O8.out
  clear b9 hT9 IL5 I5 O6 O7 O8 M1' M7 E7 E8 B7 B8 E9 B6 M9
  go_wp2_with fail
  refine (U3.out).mono ?_
  rintro e w10 ⟨v10, rfl, i10, b10⟩
  have B10 := Lib.hid (ext_trans B9.out b10)
  have I10 := Lib.hid (I9.out _ b10)
  have S1 := Lib.hid (same_eq _ v10 N w10 I10.out i10)
  have S2 := Lib.hid (fun W (hW : Below w10.heap.size w10 W) => same_eq v10 _ N W (i10.keep hW (Nat.le_refl _)) (I10.out.keep hW (Nat.le_refl _)))
  obtain ⟨x10, y10, rfl, -, -⟩ := i10
  clear b10 U3 I9
  go_wp2_with fail
  refine (S1.out).mono ?_
  rintro e w11 ⟨rfl, b11⟩
  have B11 := Lib.hid (ext_trans B10.out b11)
  have S2' := Lib.hid (S2.out _ b11)
  clear b11 S1 S2
  go_wp2_with fail
  refine (S2'.out).mono ?_
  rintro e w12 ⟨rfl, b12⟩
  have B12 := Lib.hid (ext_trans B11.out b12)
  clear b12 S2'
  go_wp2_with fail
  refine (awake31 _ (TW.out _ B12.out)).mono ?_
  rintro e w13 ⟨rfl, b13⟩
  have B13 := Lib.hid (ext_trans B12.out b13)
  clear b13
  go_wp2_with fail
  go_ret
  exact ⟨rfl, B13.out⟩

set_option maxRecDepth 100000 in
theorem contract (F : Stop.Interp) (H : Type) (enc : TypeId × Value → H) (W : World) (base : Nat) (args : Array Value) (ds gs : List (DataW H)) (before : List MemPlace)
    (hval : ∀ (j : Nat) t v, Tryd.f6.params[j]? = some t → args[j]? = some v → Value.okWide Tryd.prog W .any base t v)
    (hW : DataW.Whole enc Tryd.prog Tryd.f6.params.toList Rows.itemsTwoSpec.vars false W args.toList ds gs before)
    (hk : Rows.uptoSmall H (ds ++ gs) = true)
    (hsz : (DataW.weightsEach Tryd.prog (Tryd.f6.params.toList ++ (Rows.OpenSpec.upto Rows.itemsTwoSpec).bare.plain.varTypes Tryd.prog) (ds ++ gs)).all (· ≤ reachBytes) = true) (hL : laidMetH Tryd.prog Rows.itemsTwoUptoRow.laid W) :
    Calls Tryd.prog 6 args W fun e W' => ∃ v, e = .returned v ∧ ((Rows.OpenSpec.upto Rows.itemsTwoSpec).at F).post enc Tryd.prog Tryd.f6 false true false false W args v W' := by
  have hW' := hW
  obtain ⟨p, q, hA0, hV, rfl, hfz, hnd⟩ := hW
  have hA : DataW.TrodAll enc Tryd.prog W 0 (fun _ => true) true Tryd.f6.params.toList args.toList ds p := hA0
  rw [Tryd.params6] at hA hval hsz
  obtain ⟨v0, vs0, d0, ds0, p0, q0, hargs, rfl, rfl, h0, r0⟩ := trodAll_cons hA
  obtain ⟨v1, vs1, d1, ds1, p1, q1, rfl, rfl, rfl, h1, r1⟩ := trodAll_cons r0
  obtain ⟨v2, vs2, d2, ds2, p2, q2, rfl, rfl, rfl, h2, r2⟩ := trodAll_cons r1
  obtain ⟨rfl, rfl, rfl⟩ := trodAll_nil r2
  obtain rfl : args = #[v0, v1, v2] := by cases args; simp_all
  obtain ⟨rfl, rfl⟩ := trodVars_none hV
  have hb0 : Rows.uptoBulk d0 ≤ 1048576 := bulks.le hk (by simp)
  have hb1 : Rows.uptoBulk d1 ≤ 1048576 := bulks.le hk (by simp)
  have hb2 : Rows.uptoBulk d2 ≤ 1048576 := bulks.le hk (by simp)
  have k0 := h0
  have lt0 : ∀ x ∈ p0, x.block < W.heap.size := by obtain ⟨m, hm⟩ := k0; exact DataW.trod_lt m _ _ _ hm
  have k1 := h1
  have lt1 : ∀ x ∈ p1, x.block < W.heap.size := by obtain ⟨m, hm⟩ := k1; exact DataW.trod_lt m _ _ _ hm
  have k2 := h2
  have lt2 : ∀ x ∈ p2, x.block < W.heap.size := by obtain ⟨m, hm⟩ := k2; exact DataW.trod_lt m _ _ _ hm
  obtain ⟨a0, len0, cap0, rfl⟩ := okWide_slice Tryd.underlying22 (hval 0 22 v0 rfl rfl)
  obtain ⟨z0, w0, s0⟩ : ∃ l : List Mt, MtsAt W (.slice a0 len0 cap0) l ∧ ∀ f ∈ l, f.ok := by
    obtain ⟨fuel, hf⟩ := h0
    exact open_mts hf (fun n hn => by
      have hm := List.all_eq_true.1 hsz n (DataW.weights_mem_each (j := 0) (t := 22) rfl rfl _ hn)
      simpa [reachBytes] using of_decide_eq_true hm)
  have u0 : len0 ≤ 1048576 := by
    obtain ⟨fuel, hf⟩ := h0
    exact mts_bulk hf hb0
  obtain ⟨a1, len1, cap1, rfl⟩ := okWide_slice Tryd.underlying22 (hval 1 22 v1 rfl rfl)
  obtain ⟨z1, w1, s1⟩ : ∃ l : List Mt, MtsAt W (.slice a1 len1 cap1) l ∧ ∀ f ∈ l, f.ok := by
    obtain ⟨fuel, hf⟩ := h1
    exact open_mts hf (fun n hn => by
      have hm := List.all_eq_true.1 hsz n (DataW.weights_mem_each (j := 1) (t := 22) rfl rfl _ hn)
      simpa [reachBytes] using of_decide_eq_true hm)
  have u1 : len1 ≤ 1048576 := by
    obtain ⟨fuel, hf⟩ := h1
    exact mts_bulk hf hb1
  obtain ⟨a2, len2, cap2, rfl⟩ := okWide_slice Tryd.underlying22 (hval 2 22 v2 rfl rfl)
  obtain ⟨z2, w2, s2⟩ : ∃ l : List Mt, MtsAt W (.slice a2 len2 cap2) l ∧ ∀ f ∈ l, f.ok := by
    obtain ⟨fuel, hf⟩ := h2
    exact open_mts hf (fun n hn => by
      have hm := List.all_eq_true.1 hsz n (DataW.weights_mem_each (j := 2) (t := 22) rfl rfl _ hn)
      simpa [reachBytes] using of_decide_eq_true hm)
  have u2 : len2 ≤ 1048576 := by
    obtain ⟨fuel, hf⟩ := h2
    exact mts_bulk hf hb2
  clear hA0
  refine (walk a0 len0 cap0 z0 a1 len1 cap1 z1 a2 len2 cap2 z2 W (tabs_of hL) w0 s0 u0 w1 s1 u1 w2 s2 u2).mono fun e W' ⟨he, bel⟩ => ?_
  subst he
  exact ⟨_, rfl, _, _, _, [], _, [], hW', trodAll_mk1 (shut_bool Tryd.underlying4 _), (trodAll_cons_mk (Below.trod laidOut (by kernel_rfl) (of_decide_eq_true (by kernel_rfl)) k0 bel lt0) (trodAll_cons_mk (Below.trod laidOut (by kernel_rfl) (of_decide_eq_true (by kernel_rfl)) k1 bel lt1) (trodAll_cons_mk (Below.trod laidOut (by kernel_rfl) (of_decide_eq_true (by kernel_rfl)) k2 bel lt2) trodAll_mk0))), rfl, bel.frame _, fun h => by cases h⟩

/-- A world for the witness. -/
noncomputable def laidWorld (os : Os) : World := laidW os
theorem laid_met (os : Os) : laidMetH Tryd.prog Rows.itemsTwoUptoRow.laid ((laidWorld os).forCall (fun _ _ => 0) ⟨#[], #[.slice none 0 0, .slice none 0 0, .slice none 0 0], []⟩).memory := laidW_met os _
theorem reads (os : Os) {H : Type} (enc : TypeId × Value → H) : ∃ places, DataW.whole enc Tryd.prog ((laidWorld os).forCall (fun _ _ => 0) ⟨#[], #[.slice none 0 0, .slice none 0 0, .slice none 0 0], []⟩).memory Tryd.f6.params.toList Rows.itemsTwoSpec.vars false #[Value.slice none 0 0, .slice none 0 0, .slice none 0 0].toList 8 = some ([.nil, .nil, .nil], [], places) :=
  ⟨[], by kernel_rfl⟩

set_option maxRecDepth 100000 in
theorem lifted (os : Os) (started : os.Started) (H : Type) (enc : TypeId × Value → H) (F : Stop.Interp) :
    ReturnsInHanded {} Tryd.checked os 6 .any ((Rows.OpenSpec.upto Rows.itemsTwoSpec).preRow enc Tryd.prog Tryd.f6 Rows.itemsTwoUptoRow.domain false Rows.itemsTwoUptoRow.laid) (((Rows.OpenSpec.upto Rows.itemsTwoSpec).at F).post enc Tryd.prog Tryd.f6 false true false false) := by
  obtain ⟨places, hx⟩ := reads os enc
  refine returnsInHanded_of_row (C := Tryd.checked) (s := (Rows.OpenSpec.upto Rows.itemsTwoSpec)) own started (by kernel_rfl) Tryd.func6
    (witness_row_at (enc := enc) (C := Tryd.checked) false (laidWorld os) #[.slice none 0 0, .slice none 0 0, .slice none 0 0] rfl (by kernel_rfl) (by kernel_rfl) (by kernel_rfl)
      (OpenSpec.preRow_of_cond 8 hx (by kernel_rfl) (fun k hk => by cases hk; kernel_rfl) (by kernel_rfl) (laid_met os))) ?_
  intro W base args ds gs before hval hW _ hcnd hsz hL _ _
  exact contract F H enc W base args ds gs before hval hW (hcnd _ rfl) hsz hL

theorem said : Rows.ItemsTwoUptoSaid :=
  OpenClaim.holds_of_cond 6 Tryd.f6 rfl rfl rfl rfl rfl rfl rfl ⟨rfl, rfl, rfl, rfl, rfl⟩ rfl rfl rfl rfl rfl (by kernel_rfl) Tryd.func6 (by kernel_rfl)
    (of_decide_eq_true (by kernel_rfl)) (by unfold Func.isWrapper; first | (rw [if_pos (by decide +kernel)]; kernel_rfl) | (rw [if_neg (by decide +kernel)]; exact ⟨rfl, rfl⟩))
    (fun os started H enc _ F => by rw [OpenClaim.pre_eq_preRow]; exact lifted os started H enc F)

theorem plain (f : FuncId) (fn : Func) (hf : Tryd.pinned.checked.prog.funcNamed "crier/crierlaw31.ItemsTwo" = some f) (hfn : Tryd.pinned.checked.prog.funcs[f]? = some fn) :
    true = Tryd.pinned.checked.prog.looks [] ∧ ∀ (j : Nat) t, fn.params[j]? = some t → Tryd.pinned.checked.prog.wantsStandIn t = false := by
  obtain rfl : f = 6 := Option.some.inj ((show Tryd.prog.funcNamed "crier/crierlaw31.ItemsTwo" = some 6 by kernel_rfl).symm.trans hf) |>.symm
  obtain rfl : fn = Tryd.f6 := (Option.some.inj (Tryd.func6.symm.trans hfn)).symm
  refine ⟨by kernel_rfl, fun j t ht => ?_⟩
  rw [Tryd.params6] at ht
  obtain rfl : t = 22 := by have := Array.mem_of_getElem? ht; simpa using this
  exact (show Tryd.prog.wantsStandIn 22 = false by kernel_rfl)

/-- THE CARD. -/
theorem proved : Rows.ItemsTwoUptoCardSaid :=
  Claim7.holds_tied_plain_at .later [] _ _ _ _ said (fun _ h => by cases h) (by kernel_rfl) (fun _ h => by cases h) itemsTwoUpto_row_tie rfl ⟨rfl, rfl⟩ (by kernel_rfl) rfl plain (by kernel_rfl)
end Go.Proofs.YtihblangceblhaaDoor.itemsTwo
