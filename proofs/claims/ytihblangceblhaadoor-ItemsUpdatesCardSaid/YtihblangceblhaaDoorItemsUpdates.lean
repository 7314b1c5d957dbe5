/-
  ItemsUpdates: FOR EVERY INPUT the law returns true and leaves its arguments as they were; the package's tables are laid (a card).
-/
import Derived.Test.YtihblangceblhaaDoorTb
import Derived.Test.YtihblangceblhaaDoorNe
import Derived.Test.YtihblangceblhaaDoorCards
import Derived.Test.YtihblangceblhaaDoorTie
import Derived.WalkKit
import Derived.ProofKit
import Derived.OpenShut
import Derived.ChangeOld
import Derived.Below
import Derived.SizedLaws
import Derived.Lib.SmallJoins
import Derived.Deep.DeepHandedRow
import Derived.Lib.LaidTab
namespace Go.Proofs.YtihblangceblhaaDoor.itemsUpdates
open Go.ChangeShapes Go.WideShapes Go.ChangeAt Go.RowKit
open Go.ChangeMaps (open_string shut_string)
set_option linter.unusedVariables false

theorem own : ownKnob Tryd.prog.godebug = none := by kernel_rfl
theorem laidOut : laidOutB Tryd.prog = true := by kernel_rfl

set_option maxHeartbeats 16000000 in
set_option maxRecDepth 100000 in
theorem walk (a0 : Option Addr) (len0 cap0 : Nat) (L : List It) (a1 : Option Addr) (len1 cap1 : Nat) (ms : List Mt) (a2 : Option Addr) (len2 cap2 : Nat) (ns : List It) (ow : Bool) (w : World) (ht : Tabs w)
    (h0 : ItsAt w (.slice a0 len0 cap0) L) (ok0 : ∀ f ∈ L, f.ok) (h1 : MtsAt w (.slice a1 len1 cap1) ms) (ok1 : ∀ f ∈ ms, f.ok) (h2 : ItsAt w (.slice a2 len2 cap2) ns) (ok2 : ∀ f ∈ ns, f.ok) :
    Calls Tryd.prog 4 #[.slice a0 len0 cap0, .slice a1 len1 cap1, .slice a2 len2 cap2, .bool ow] w (YesW w) := by
  obtain ⟨rfl, z0⟩ : len0 = L.length ∧ len0 ≤ 140737488351232 := by obtain ⟨_, _, e, z, -⟩ := h0; simp only [Value.slice.injEq] at e; omega
  obtain ⟨rfl, z1⟩ : len1 = ms.length ∧ len1 ≤ 140737488351232 := by obtain ⟨_, _, e, z, -⟩ := h1; simp only [Value.slice.injEq] at e; omega
  obtain ⟨rfl, z2⟩ : len2 = ns.length ∧ len2 ≤ 140737488351232 := by obtain ⟨_, _, e, z, -⟩ := h2; simp only [Value.slice.injEq] at e; omega
  have TW := Lib.hid (fun W (hW : Below w.heap.size w W) => ht.keep hW)
  have I0 := Lib.hid (fun W (hW : Below w.heap.size w W) => h0.keep hW (Nat.le_refl _))
  have I1 := Lib.hid (fun W (hW : Below w.heap.size w W) => h1.keep hW (Nat.le_refl _))
  have I2 := Lib.hid (fun W (hW : Below w.heap.size w W) => h2.keep hW (Nat.le_refl _))
  have OK1 := Lib.hid ok1
  have OK2 := Lib.hid ok2
  have AW := Lib.hid (awake31 w ht)
  clear ht h0 ok0 h1 ok1 h2 ok2
  by_cases c0 : 100 < L.length
  · have c0' : (100 : Int) < (L.length : Int) := by omega
    clear TW I0 I1 I2
    go_enter Tryd.func4, Tryd.ntmps4
    go_wp2_with fail
    refine (AW.out).mono ?_
    rintro e w2 ⟨rfl, b2⟩
    replace b2 := Lib.hid b2
    go_wp2_with fail
    go_ret
    exact ⟨rfl, b2.out⟩
  have c0' : ¬ (100 : Int) < (L.length : Int) := by omega
  by_cases c1 : 100 < ms.length
  · have c1' : (100 : Int) < (ms.length : Int) := by omega
    clear TW I0 I1 I2
    go_enter Tryd.func4, Tryd.ntmps4
    go_wp2_with fail
    refine (AW.out).mono ?_
    rintro e w2 ⟨rfl, b2⟩
    replace b2 := Lib.hid b2
    go_wp2_with fail
    go_ret
    exact ⟨rfl, b2.out⟩
  have c1' : ¬ (100 : Int) < (ms.length : Int) := by omega
  by_cases c2 : 100 < ns.length
  · have c2' : (100 : Int) < (ns.length : Int) := by omega
    clear TW I0 I1 I2
    go_enter Tryd.func4, Tryd.ntmps4
    go_wp2_with fail
    refine (AW.out).mono ?_
    rintro e w2 ⟨rfl, b2⟩
    replace b2 := Lib.hid b2
    go_wp2_with fail
    go_ret
    exact ⟨rfl, b2.out⟩
  have c2' : ¬ (100 : Int) < (ns.length : Int) := by omega
  have n0 : Hid (L.length ≤ 1000) := Lib.hid (by omega)
  have n2 : Hid (ns.length ≤ 1000) := Lib.hid (by omega)
  clear AW
  go_enter Tryd.func4, Tryd.ntmps4
  go_wp2_with fail
  refine (new_any _).mono ?_
  rintro e w1 ⟨rfl, hT1, b1, s1⟩
  have B1 := Lib.hid b1
  have A1 := Lib.hid (ext_alloc w1 (.cells #[.slice none 0 0] 49))
  have X1 : Hid (Tx (w1.alloc (.cells #[.slice none 0 0] 49)) 0 w1.heap.size [] (.slice none 0 0)) := Lib.hid tx_new
  have B2 := Lib.hid (ext_trans B1.out A1.out)
  have S := Lib.hid (set_any (hT1.keep A1.out) ⟨#[100]⟩ _ ns (I2.out _ B2.out) OK2.out (by have := n2.out; omega))
  clear b1 hT1
  replace s1 := Lib.hid s1
  go_wp2_with fail
  refine (S.out).mono ?_
  rintro e w2 ⟨rfl, ⟨D2, hT2⟩, g2⟩
  have B3 := Lib.hid (B2.out.grown g2 B2.out.size (fun k hk => by cases hk; exact Nat.le_refl _))
  have X2 : Hid (Tx w2 0 w1.heap.size [] (.slice none 0 0)) := Lib.hid ⟨(g2.block _ (by simp) (by have := s1.out; intro e; simp only [Option.some.injEq] at e; omega)).trans X1.out.row, by simpa [rwC] using World.ownsRow_nil _ _ _ _, by simp⟩
  have RS := Lib.hid (rtset_any X2.out ⟨#[100]⟩ (I2.out _ B3.out) n2.out)
  clear g2 X1 S A1 B1 B2
  replace hT2 := Lib.hid hT2
  go_wp2_with fail
  refine (RS.out).mono ?_
  rintro e w3 ⟨rfl, ⟨Bx, vx, hX3⟩, g3⟩
  have B4 := Lib.hid (B3.out.grown g3 B3.out.size (fun k hk => by cases hk; have := s1.out; omega))
  have hT3 := tb_far hT2.out g3 (by have := s1.out; omega) (by have := s1.out; omega)
  rw [setT_nil] at hT3
  have HF : Hid (∀ o a, rfV (rtsT ⟨#[100]⟩ ns) o a = findV (rtsT ⟨#[100]⟩ ns) o a) := Lib.hid (rf_eq rtsT_own)
  generalize rtsT ⟨#[100]⟩ ns = T at *
  have UP := Lib.hid (fun o => pupd_any o _ L _ ms w3 (TW.out _ B4.out) (I0.out _ B4.out) n0.out (I1.out _ B4.out) OK1.out hT3)
  have X3 := Lib.hid (fun W (hW : Below w3.heap.size w3 W) => hX3.keep hW)
  have UR := Lib.hid (fun o W (hW : Below w3.heap.size w3 W) => rupd_any o _ L _ ms W (I0.out _ (ext_trans B4.out hW)) n0.out (I1.out _ (ext_trans B4.out hW)) OK1.out (X3.out W hW) (HF.out o))
  clear g3 hT2 hT3 hX3 RS X2 X3 HF B3
  cases ow
  all_goals
    go_wp2_with fail
    refine (UP.out _).mono ?_
    rintro e w4 ⟨v4, rfl, i4, b4⟩
    have B5 := Lib.hid (ext_trans B4.out b4)
    have U2 := Lib.hid (fun o => UR.out o _ b4)
    have I4 := Lib.hid (fun W (hW : Below w4.heap.size w4 W) => i4.keep hW (Nat.le_refl _))
    obtain ⟨x4, y4, rfl, -, -⟩ := i4
    clear b4 UP UR
    go_wp2_with fail
    refine (U2.out _).mono ?_
    rintro e w5 ⟨v5, rfl, i5, b5⟩
    have B6 := Lib.hid (ext_trans B5.out b5)
    have SM := Lib.hid (rsame_eq _ _ _ w5 (I4.out _ b5) i5)
    obtain ⟨x5, y5, rfl, -, -⟩ := i5
    clear b5 U2 I4
    go_wp2_with fail
    refine (SM.out).mono ?_
    rintro e w6 ⟨rfl, b6⟩
    have B7 := Lib.hid (ext_trans B6.out b6)
    clear b6 SM
    go_wp2_with fail
    refine (awake31 _ (TW.out _ B7.out)).mono ?_
    rintro e w7 ⟨rfl, b7⟩
    have B8 := Lib.hid (ext_trans B7.out b7)
    clear b7
    go_wp2_with fail
    go_ret
    exact ⟨rfl, B8.out⟩

set_option maxRecDepth 100000 in
theorem contract (F : Stop.Interp) (H : Type) (enc : TypeId × Value → H) (W : World) (base : Nat) (args : Array Value) (ds gs : List (DataW H)) (before : List MemPlace)
    (hval : ∀ (j : Nat) t v, Tryd.f4.params[j]? = some t → args[j]? = some v → Value.okWide Tryd.prog W .any base t v)
    (hW : DataW.Whole enc Tryd.prog Tryd.f4.params.toList Rows.itemsUpdatesSpec.vars false W args.toList ds gs before)
    
    (hsz : (DataW.weightsEach Tryd.prog (Tryd.f4.params.toList ++ (OpenSpec.ofChange Rows.itemsUpdatesSpec).bare.plain.varTypes Tryd.prog) (ds ++ gs)).all (· ≤ reachBytes) = true) (hL : laidMetH Tryd.prog Rows.itemsUpdatesRow.laid W) :
    Calls Tryd.prog 4 args W fun e W' => ∃ v, e = .returned v ∧ ((OpenSpec.ofChange Rows.itemsUpdatesSpec).at F).post enc Tryd.prog Tryd.f4 false true false false W args v W' := by
  have hW' := hW
  obtain ⟨p, q, hA0, hV, rfl, hfz, hnd⟩ := hW
  have hA : DataW.TrodAll enc Tryd.prog W 0 (fun _ => true) true Tryd.f4.params.toList args.toList ds p := hA0
  rw [Tryd.params4] at hA hval hsz
  obtain ⟨v0, vs0, d0, ds0, p0, q0, hargs, rfl, rfl, h0, r0⟩ := trodAll_cons hA
  obtain ⟨v1, vs1, d1, ds1, p1, q1, rfl, rfl, rfl, h1, r1⟩ := trodAll_cons r0
  obtain ⟨v2, vs2, d2, ds2, p2, q2, rfl, rfl, rfl, h2, r2⟩ := trodAll_cons r1
  obtain ⟨v3, vs3, d3, ds3, p3, q3, rfl, rfl, rfl, h3, r3⟩ := trodAll_cons r2
  obtain ⟨rfl, rfl, rfl⟩ := trodAll_nil r3
  obtain rfl : args = #[v0, v1, v2, v3] := by cases args; simp_all
  obtain ⟨rfl, rfl⟩ := trodVars_none hV
  have k0 := h0
  have lt0 : ∀ x ∈ p0, x.block < W.heap.size := by obtain ⟨m, hm⟩ := k0; exact DataW.trod_lt m _ _ _ hm
  have k1 := h1
  have lt1 : ∀ x ∈ p1, x.block < W.heap.size := by obtain ⟨m, hm⟩ := k1; exact DataW.trod_lt m _ _ _ hm
  have k2 := h2
  have lt2 : ∀ x ∈ p2, x.block < W.heap.size := by obtain ⟨m, hm⟩ := k2; exact DataW.trod_lt m _ _ _ hm
  have k3 := h3
  have lt3 : ∀ x ∈ p3, x.block < W.heap.size := by obtain ⟨m, hm⟩ := k3; exact DataW.trod_lt m _ _ _ hm
  obtain ⟨a0, len0, cap0, rfl⟩ := okWide_slice Tryd.underlying33 (hval 0 33 v0 rfl rfl)
  obtain ⟨z0, w0, s0⟩ : ∃ l : List It, ItsAt W (.slice a0 len0 cap0) l ∧ ∀ f ∈ l, f.ok := by
    obtain ⟨fuel, hf⟩ := h0
    exact open_its hf (fun n hn => by
      have hm := List.all_eq_true.1 hsz n (DataW.weights_mem_each (j := 0) (t := 33) rfl rfl _ hn)
      simpa [reachBytes] using of_decide_eq_true hm)
  obtain ⟨a1, len1, cap1, rfl⟩ := okWide_slice Tryd.underlying22 (hval 1 22 v1 rfl rfl)
  obtain ⟨z1, w1, s1⟩ : ∃ l : List Mt, MtsAt W (.slice a1 len1 cap1) l ∧ ∀ f ∈ l, f.ok := by
    obtain ⟨fuel, hf⟩ := h1
    exact open_mts hf (fun n hn => by
      have hm := List.all_eq_true.1 hsz n (DataW.weights_mem_each (j := 1) (t := 22) rfl rfl _ hn)
      simpa [reachBytes] using of_decide_eq_true hm)
  obtain ⟨a2, len2, cap2, rfl⟩ := okWide_slice Tryd.underlying33 (hval 2 33 v2 rfl rfl)
  obtain ⟨z2, w2, s2⟩ : ∃ l : List It, ItsAt W (.slice a2 len2 cap2) l ∧ ∀ f ∈ l, f.ok := by
    obtain ⟨fuel, hf⟩ := h2
    exact open_its hf (fun n hn => by
      have hm := List.all_eq_true.1 hsz n (DataW.weights_mem_each (j := 2) (t := 33) rfl rfl _ hn)
      simpa [reachBytes] using of_decide_eq_true hm)
  obtain ⟨a3, rfl, rfl, rfl⟩ := open_bool Tryd.underlying4 (hval 3 4 v3 rfl rfl) h3
  clear hA0
  refine (walk a0 len0 cap0 z0 a1 len1 cap1 z1 a2 len2 cap2 z2 a3 W (tabs_of hL) w0 s0 w1 s1 w2 s2).mono fun e W' ⟨he, bel⟩ => ?_
  subst he
  exact ⟨_, rfl, _, _, _, [], _, [], hW', trodAll_mk1 (shut_bool Tryd.underlying4 _), (trodAll_cons_mk (Below.trod laidOut (by kernel_rfl) (of_decide_eq_true (by kernel_rfl)) k0 bel lt0) (trodAll_cons_mk (Below.trod laidOut (by kernel_rfl) (of_decide_eq_true (by kernel_rfl)) k1 bel lt1) (trodAll_cons_mk (Below.trod laidOut (by kernel_rfl) (of_decide_eq_true (by kernel_rfl)) k2 bel lt2) (trodAll_cons_mk (Below.trod laidOut (by kernel_rfl) (of_decide_eq_true (by kernel_rfl)) k3 bel lt3) trodAll_mk0)))), rfl, bel.frame _, fun h => by cases h⟩

/-- A world for the witness. -/
noncomputable def laidWorld (os : Os) : World := laidW os
theorem laid_met (os : Os) : laidMetH Tryd.prog Rows.itemsUpdatesRow.laid ((laidWorld os).forCall (fun _ _ => 0) ⟨#[], #[.slice none 0 0, .slice none 0 0, .slice none 0 0, .bool false], []⟩).memory := laidW_met os _
theorem reads (os : Os) {H : Type} (enc : TypeId × Value → H) : ∃ places, DataW.whole enc Tryd.prog ((laidWorld os).forCall (fun _ _ => 0) ⟨#[], #[.slice none 0 0, .slice none 0 0, .slice none 0 0, .bool false], []⟩).memory Tryd.f4.params.toList Rows.itemsUpdatesSpec.vars false #[Value.slice none 0 0, .slice none 0 0, .slice none 0 0, .bool false].toList 8 = some ([.nil, .nil, .nil, .lit (.bool false)], [], places) :=
  ⟨[], by kernel_rfl⟩

set_option maxRecDepth 100000 in
theorem lifted (os : Os) (started : os.Started) (H : Type) (enc : TypeId × Value → H) (F : Stop.Interp) :
    ReturnsInHanded {} Tryd.checked os 4 .any ((OpenSpec.ofChange Rows.itemsUpdatesSpec).preRow enc Tryd.prog Tryd.f4 Rows.itemsUpdatesRow.domain false Rows.itemsUpdatesRow.laid) (((OpenSpec.ofChange Rows.itemsUpdatesSpec).at F).post enc Tryd.prog Tryd.f4 false true false false) := by
  obtain ⟨places, hx⟩ := reads os enc
  refine returnsInHanded_of_row (C := Tryd.checked) (s := (OpenSpec.ofChange Rows.itemsUpdatesSpec)) own started (by kernel_rfl) Tryd.func4
    (witness_row_at (enc := enc) (C := Tryd.checked) false (laidWorld os) #[.slice none 0 0, .slice none 0 0, .slice none 0 0, .bool false] rfl (by kernel_rfl) (by kernel_rfl) (by kernel_rfl)
      (OpenSpec.preRow_of_cond 8 hx (by kernel_rfl) (fun k hk => by cases hk) (by kernel_rfl) (laid_met os))) ?_
  intro W base args ds gs before hval hW _ hcnd hsz hL _ _
  exact contract F H enc W base args ds gs before hval hW  hsz hL

theorem said : Rows.ItemsUpdatesSaid :=
  OpenClaim.holds_of_cond 4 Tryd.f4 rfl rfl rfl rfl rfl rfl rfl ⟨rfl, rfl, rfl, rfl, rfl⟩ rfl rfl rfl rfl rfl (by kernel_rfl) Tryd.func4 (by kernel_rfl)
    (of_decide_eq_true (by kernel_rfl)) (by unfold Func.isWrapper; first | (rw [if_pos (by decide +kernel)]; kernel_rfl) | (rw [if_neg (by decide +kernel)]; exact ⟨rfl, rfl⟩))
    (fun os started H enc _ F => by rw [OpenClaim.pre_eq_preRow]; exact lifted os started H enc F)

theorem plain (f : FuncId) (fn : Func) (hf : Tryd.pinned.checked.prog.funcNamed "crier/crierlaw31.ItemsUpdates" = some f) (hfn : Tryd.pinned.checked.prog.funcs[f]? = some fn) :
    true = Tryd.pinned.checked.prog.looks [] ∧ ∀ (j : Nat) t, fn.params[j]? = some t → Tryd.pinned.checked.prog.wantsStandIn t = false := by
  obtain rfl : f = 4 := Option.some.inj ((show Tryd.prog.funcNamed "crier/crierlaw31.ItemsUpdates" = some 4 by kernel_rfl).symm.trans hf) |>.symm
  obtain rfl : fn = Tryd.f4 := (Option.some.inj (Tryd.func4.symm.trans hfn)).symm
  refine ⟨by kernel_rfl, fun j t ht => ?_⟩
  rw [Tryd.params4] at ht
  have : t = 4 ∨ t = 22 ∨ t = 33 := by have := Array.mem_of_getElem? ht; simp at this; first | exact this | omega | grind
  rcases this with rfl | rfl | rfl
  · exact (show Tryd.prog.wantsStandIn 4 = false by kernel_rfl)
  · exact (show Tryd.prog.wantsStandIn 22 = false by kernel_rfl)
  · exact (show Tryd.prog.wantsStandIn 33 = false by kernel_rfl)

/-- THE CARD. -/
theorem proved : Rows.ItemsUpdatesCardSaid :=
  Claim7.holds_tied_plain_at .later [] _ _ _ _ said (fun _ h => by cases h) (by kernel_rfl) (fun _ h => by cases h) itemsUpdates_row_tie rfl ⟨rfl, rfl⟩ (by kernel_rfl) rfl plain (by kernel_rfl)
end Go.Proofs.YtihblangceblhaaDoor.itemsUpdates
