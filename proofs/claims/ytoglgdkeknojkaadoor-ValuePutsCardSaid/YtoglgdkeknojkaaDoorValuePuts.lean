/-
  ValuePuts: FOR EVERY INPUT the law returns true and leaves its arguments as they were; the package's tables are laid (a card).
-/
import Derived.Test.YtoglgdkeknojkaaDoorAf
import Derived.Test.YtoglgdkeknojkaaDoorCards
import Derived.Test.YtoglgdkeknojkaaDoorTie
import Derived.WalkKit
import Derived.ProofKit
import Derived.OpenShut
import Derived.ChangeOld
import Derived.Below
import Derived.SizedLaws
import Derived.Lib.SmallJoins
import Derived.Deep.DeepHandedRow
import Derived.Lib.LaidTab
namespace Go.Proofs.YtoglgdkeknojkaaDoor.valuePuts
open Go.ChangeShapes Go.WideShapes Go.ChangeAt Go.RowKit
open Go.ChangeMaps (open_string shut_string)
set_option linter.unusedVariables false

theorem own : ownKnob Tryd.prog.godebug = none := by kernel_rfl
theorem laidOut : laidOutB Tryd.prog = true := by kernel_rfl

theorem keepV {w2 W W' : World} {g : Nat} {a b c : Value} (h : W.cell? ⟨g, 0, none⟩ = some a ∧ W.cell? ⟨g, 1, none⟩ = some b ∧ W.cell? ⟨g, 2, none⟩ = some c ∧ Below w2.heap.size w2 W) (hb : Below W.heap.size W W') :
    W'.cell? ⟨g, 0, none⟩ = some a ∧ W'.cell? ⟨g, 1, none⟩ = some b ∧ W'.cell? ⟨g, 2, none⟩ = some c ∧ Below w2.heap.size w2 W' := by
  obtain ⟨h0, h1, h2, hx⟩ := h
  have := World.block_lt_of_cell? W _ h0
  exact ⟨(vbcell hb _ _ this).trans h0, (vbcell hb _ _ this).trans h1, (vbcell hb _ _ this).trans h2, ext_trans hx hb⟩
set_option maxHeartbeats 2000000 in
set_option maxRecDepth 100000 in
theorem walk (k n : Int) (s : ByteArray) (b : Int) (raw : Bool) (w : World) (ht : Tabs w) (bk : -9223372036854775808 ≤ k ∧ k ≤ 9223372036854775807) (bn : 0 ≤ n ∧ n ≤ 18446744073709551615) (hs : s.size ≤ 140737488351232) (bb : -9223372036854775808 ≤ b ∧ b ≤ 9223372036854775807) :
    Calls Tryd.prog 3 #[.agg #[.int .i64 k, .int .u64 n, .string s], .int .i64 b, .bool raw] w (Yes w) := by
  obtain ⟨n, rfl⟩ := Int.eq_ofNat_of_zero_le bn.1
  have hm : n ≤ 18446744073709551615 := by omega
  have P := Lib.hid (fun g hg w ht => vput_any g hg (Va.mk k n s) b raw w ht hm)
  have R := Lib.hid (fun g hg w ht => right_any g hg (Va.mk k n s) w ht hm)
  have Z := Lib.hid (fun g hg w => zero_any g hg (Va.mk k n s) w)
  simp only [Va.val] at P R Z
  generalize putVE (Va.mk k n s) b raw = E at *
  generalize putVL (Va.mk k n s) b raw = L at *
  generalize rightE (Va.mk k n s) = E2 at *
  generalize zeroB (Va.mk k n s) = zb at *
  have ht1 := Lib.hid (ht.keep (e_alloc w (.cells #[.int .i64 k, .int .u64 (n : Nat), .string s] 24)))
  have hb0 := Lib.hid (e_alloc w (.cells #[.int .i64 k, .int .u64 (n : Nat), .string s] 24))
  clear ht bk bn hs bb hm
  go_enter Tryd.func3, Tryd.ntmps3
  go_wp2_with fail
  refine (P.out 7 (.inl rfl) _ ht1.out).mono ?_
  rintro e w1 ⟨a1, n1, c1, rfl, h1, hb⟩
  have ht2 := Lib.hid (ht1.out.keep hb)
  obtain ⟨c0, c1', c2⟩ := box3 hb
  have hb1 := Lib.hid (ext_trans hb0.out hb)
  replace hb := Lib.hid hb
  replace h1 := Lib.hid h1
  go_wp2_with fail
  refine (P.out 8 (.inr rfl) _ ht2.out).mono ?_
  rintro e w2 ⟨a2, n2, c2', rfl, h2, hb2⟩
  have lt1 := World.block_lt_of_cell? _ _ c0
  have d0 := (vbcell hb2 _ _ lt1).trans c0
  have d1 := (vbcell hb2 _ _ lt1).trans c1'
  have d2 := (vbcell hb2 _ _ lt1).trans c2
  have h1' := Lib.hid (h1.out.keep hb2 (Nat.le_refl _))
  replace h2 := Lib.hid h2
  have ht3 := Lib.hid (ht2.out.keep hb2)
  have hb3 := Lib.hid (ext_trans hb1.out hb2)
  clear hb h1 c0 c1' c2 hb0 hb1 ht1 ht2 P lt1 hb2
  have Sm := Lib.hid (fun W (hx : Below w2.heap.size w2 W) => same_eq _ _ L W (h1'.out.keep hx (Nat.le_refl _)) (h2.out.keep hx (Nat.le_refl _)))
  have Aw := Lib.hid (fun W (hx : Below w2.heap.size w2 W) => vawake_any W (ht3.out.keep hx))
  have R1 := Lib.hid (fun g hg W (hx : Below w2.heap.size w2 W) => R.out g hg W (ht3.out.keep hx))
  clear h1' h2 R
  go_wp2_with fail
  go_region_held3 (fun W => W.cell? ⟨w.heap.size, 0, none⟩ = some (.int .i64 k) ∧ W.cell? ⟨w.heap.size, 1, none⟩ = some (.int .u64 (n : Nat)) ∧ W.cell? ⟨w.heap.size, 2, none⟩ = some (.string s) ∧ Below w2.heap.size w2 W) (first | exact ⟨d0, d1, d2, ext_drew _⟩ | exact keepV ‹_ ∧ _ ∧ _ ∧ _› hb)
    (first | (go_at_call 9; refine (Sm.out _ (‹_ ∧ _ ∧ _ ∧ Below w2.heap.size w2 _›).2.2.2).mono ?_; rintro e w' ⟨rfl, hb⟩) | (go_at_call 10; refine (R1.out 10 (.inl rfl) _ (‹_ ∧ _ ∧ _ ∧ Below w2.heap.size w2 _›).2.2.2).mono ?_; rintro e w' ⟨rfl, hb⟩) | (go_at_call 11; refine (R1.out 11 (.inr rfl) _ (‹_ ∧ _ ∧ _ ∧ Below w2.heap.size w2 _›).2.2.2).mono ?_; rintro e w' ⟨rfl, hb⟩) | (go_at_call 12; refine (Z.out 12 (.inl rfl) _).mono ?_; rintro e w' ⟨rfl, hb⟩) | (go_at_call 13; refine (Z.out 13 (.inr rfl) _).mono ?_; rintro e w' ⟨rfl, hb⟩) | (go_at_call 14; refine (Aw.out _ (‹_ ∧ _ ∧ _ ∧ Below w2.heap.size w2 _›).2.2.2).mono ?_; rintro e w' ⟨rfl, hb⟩))
  go_wp2_with fail
  go_ret
  exact ⟨rfl, ext_trans hb3.out (‹_ ∧ _ ∧ _ ∧ Below w2.heap.size w2 _›).2.2.2⟩

theorem contract (F : Stop.Interp) (H : Type) (enc : TypeId × Value → H) (W : World) (base : Nat) (args : Array Value) (ds gs : List (DataW H)) (before : List MemPlace)
    (hval : ∀ (j : Nat) t v, Tryd.f3.params[j]? = some t → args[j]? = some v → Value.okWide Tryd.prog W .any base t v)
    (hW : DataW.Whole enc Tryd.prog Tryd.f3.params.toList Rows.valuePutsSpec.vars false W args.toList ds gs before)
    
    (hsz : (DataW.weightsEach Tryd.prog (Tryd.f3.params.toList ++ (OpenSpec.ofChange Rows.valuePutsSpec).bare.plain.varTypes Tryd.prog) (ds ++ gs)).all (· ≤ reachBytes) = true) (hL : laidMetH Tryd.prog Rows.valuePutsRow.laid W) :
    Calls Tryd.prog 3 args W fun e W' => ∃ v, e = .returned v ∧ ((OpenSpec.ofChange Rows.valuePutsSpec).at F).post enc Tryd.prog Tryd.f3 false true false false W args v W' := by
  have hW' := hW
  obtain ⟨p, q, hA0, hV, rfl, hfz, hnd⟩ := hW
  have hA : DataW.TrodAll enc Tryd.prog W 0 (fun _ => true) true Tryd.f3.params.toList args.toList ds p := hA0
  rw [Tryd.params3] at hA hval hsz
  obtain ⟨v0, vs0, d0, ds0, p0, q0, hargs, rfl, rfl, h0, r0⟩ := trodAll_cons hA
  obtain ⟨v1, vs1, d1, ds1, p1, q1, rfl, rfl, rfl, h1, r1⟩ := trodAll_cons r0
  obtain ⟨v2, vs2, d2, ds2, p2, q2, rfl, rfl, rfl, h2, r2⟩ := trodAll_cons r1
  obtain ⟨rfl, rfl, rfl⟩ := trodAll_nil r2
  obtain rfl : args = #[v0, v1, v2] := by cases args; simp_all
  obtain ⟨rfl, rfl⟩ := trodVars_none hV
  have k0 := h0
  have lt0 : ∀ x ∈ p0, x.block < W.heap.size := by obtain ⟨m, hm⟩ := k0; exact DataW.trod_lt m _ _ _ hm
  have k1 := h1
  have lt1 : ∀ x ∈ p1, x.block < W.heap.size := by obtain ⟨m, hm⟩ := k1; exact DataW.trod_lt m _ _ _ hm
  have k2 := h2
  have lt2 : ∀ x ∈ p2, x.block < W.heap.size := by obtain ⟨m, hm⟩ := k2; exact DataW.trod_lt m _ _ _ hm
  obtain ⟨x0_0, x0_1, x0_2, y0_0, y0_1, y0_2, n0, rfl, rfl, rfl, t0_0, t0_1, t0_2⟩ := Joins.open_agg3 Tryd.underlying24 (by kernel_rfl) (by kernel_rfl) (hval 0 24 _ rfl rfl) h0
  obtain ⟨a0_0, q0_0, z0_0, w0_0⟩ := DataW.trod_int Tryd.underlying3 t0_0
  obtain rfl : x0_0 = .int .i64 a0_0 := by simpa using q0_0
  have b0_0 := wf_i64 w0_0
  obtain ⟨a0_1, q0_1, z0_1, w0_1⟩ := DataW.trod_int Tryd.underlying22 t0_1
  obtain rfl : x0_1 = .int .u64 a0_1 := by simpa using q0_1
  have b0_1 := wf_u64 w0_1
  obtain ⟨a0_2, q0_2, z0_2, w0_2⟩ := DataW.trod_string Tryd.underlying9 t0_2
  obtain rfl : x0_2 = .string a0_2 := by simpa using q0_2
  have s0_2 : a0_2.size ≤ 140737488351232 := by
    have hm := List.all_eq_true.1 hsz a0_2.data.toList.length (DataW.weights_mem_each (j := 0) (t := 24) rfl rfl _ (by rw [z0_2]; simp [DataW.weights, Tryd.underlying24, DataW.weightsEach]))
    simp only [Array.length_toList, reachBytes] at hm
    exact of_decide_eq_true hm
  obtain ⟨a1, rfl, rfl, rfl, w1⟩ := open_int Tryd.underlying3 (hval 1 3 v1 rfl rfl) h1
  have b1 := wf_i64 w1
  obtain ⟨a2, rfl, rfl, rfl⟩ := open_bool Tryd.underlying4 (hval 2 4 v2 rfl rfl) h2
  clear hA0
  refine (walk a0_0 a0_1 a0_2 a1 a2 W (tabs_of hL) b0_0 b0_1 s0_2 b1).mono fun e W' ⟨he, bel⟩ => ?_
  subst he
  exact ⟨_, rfl, _, _, _, [], _, [], hW', trodAll_mk1 (shut_bool Tryd.underlying4 _), (trodAll_cons_mk (Below.trod laidOut (by kernel_rfl) (of_decide_eq_true (by kernel_rfl)) k0 bel lt0) (trodAll_cons_mk (Below.trod laidOut (by kernel_rfl) (of_decide_eq_true (by kernel_rfl)) k1 bel lt1) (trodAll_cons_mk (Below.trod laidOut (by kernel_rfl) (of_decide_eq_true (by kernel_rfl)) k2 bel lt2) trodAll_mk0))), rfl, bel.frame _, fun h => by cases h⟩

/-- A world for the witness: the settled one, the tables holding what their initialisers lay. -/
noncomputable def laidWorld (os : Os) : World :=
  { World.holding Tryd.prog os ⟨#[], #[], []⟩ with heap := (((World.holding Tryd.prog os ⟨#[], #[], []⟩).heap.modify 0 (fun
      | .cells _ t frozen => .cells #[.int .i64 0, .int .i64 0, .int .i64 0, .int .i64 5, .int .i64 1, .int .i64 0, .int .i64 2, .int .i64 2] t frozen
      | o => o)).modify 1 (fun
      | .cells _ t frozen => .cells #[.int .u64 18446744073709551615, .int .u64 4294967295, .int .u64 18446744073709551615, .int .u64 4294967295, .int .u64 18446744073709551615, .int .u64 1, .int .u64 18446744073709551615, .int .u64 18446744073709551615] t frozen
      | o => o)) }
theorem laid_met (os : Os) : laidMet Tryd.prog Rows.valuePutsRow.laid ((laidWorld os).forCall (fun _ _ => 0) ⟨#[], #[.agg #[.int .i64 0, .int .u64 0, .string ByteArray.empty], .int .i64 0, .bool false], []⟩).memory :=
  laidMet_of_run' 8 (by kernel_rfl) (by kernel_rfl)
theorem reads (os : Os) {H : Type} (enc : TypeId × Value → H) : ∃ places, DataW.whole enc Tryd.prog ((laidWorld os).forCall (fun _ _ => 0) ⟨#[], #[.agg #[.int .i64 0, .int .u64 0, .string ByteArray.empty], .int .i64 0, .bool false], []⟩).memory Tryd.f3.params.toList Rows.valuePutsSpec.vars false #[Value.agg #[.int .i64 0, .int .u64 0, .string ByteArray.empty], .int .i64 0, .bool false].toList 8 = some ([.agg [.lit (.int .i64 0), .lit (.int .u64 0), .lit (.string [])], .lit (.int .i64 0), .lit (.bool false)], [], places) :=
  ⟨[], by kernel_rfl⟩

set_option maxRecDepth 100000 in
theorem lifted (os : Os) (started : os.Started) (H : Type) (enc : TypeId × Value → H) (F : Stop.Interp) :
    ReturnsInHanded {} Tryd.checked os 3 .any ((OpenSpec.ofChange Rows.valuePutsSpec).preRow enc Tryd.prog Tryd.f3 Rows.valuePutsRow.domain false Rows.valuePutsRow.laid) (((OpenSpec.ofChange Rows.valuePutsSpec).at F).post enc Tryd.prog Tryd.f3 false true false false) := by
  obtain ⟨places, hx⟩ := reads os enc
  refine returnsInHanded_of_row (C := Tryd.checked) (s := (OpenSpec.ofChange Rows.valuePutsSpec)) own started (by kernel_rfl) Tryd.func3
    (witness_row_at (enc := enc) (C := Tryd.checked) false (laidWorld os) #[.agg #[.int .i64 0, .int .u64 0, .string ByteArray.empty], .int .i64 0, .bool false] rfl (by kernel_rfl) (by kernel_rfl) (by kernel_rfl)
      (OpenSpec.preRow_of_cond 8 hx (by kernel_rfl) (fun k hk => by cases hk) (by kernel_rfl) (laid_met os))) ?_
  intro W base args ds gs before hval hW _ hcnd hsz hL _ _
  exact contract F H enc W base args ds gs before hval hW  hsz hL

theorem said : Rows.ValuePutsSaid :=
  OpenClaim.holds_of_cond 3 Tryd.f3 rfl rfl rfl rfl rfl rfl rfl ⟨rfl, rfl, rfl, rfl, rfl⟩ rfl rfl rfl rfl rfl (by kernel_rfl) Tryd.func3 (by kernel_rfl)
    (of_decide_eq_true (by kernel_rfl)) (by unfold Func.isWrapper; first | (rw [if_pos (by decide +kernel)]; kernel_rfl) | (rw [if_neg (by decide +kernel)]; exact ⟨rfl, rfl⟩))
    (fun os started H enc _ F => by rw [OpenClaim.pre_eq_preRow]; exact lifted os started H enc F)

theorem plain (f : FuncId) (fn : Func) (hf : Tryd.pinned.checked.prog.funcNamed "crier/crierlaw05.ValuePuts" = some f) (hfn : Tryd.pinned.checked.prog.funcs[f]? = some fn) :
    false = Tryd.pinned.checked.prog.looks [] ∧ ∀ (j : Nat) t, fn.params[j]? = some t → Tryd.pinned.checked.prog.wantsStandIn t = false := by
  obtain rfl : f = 3 := Option.some.inj ((show Tryd.prog.funcNamed "crier/crierlaw05.ValuePuts" = some 3 by kernel_rfl).symm.trans hf) |>.symm
  obtain rfl : fn = Tryd.f3 := (Option.some.inj (Tryd.func3.symm.trans hfn)).symm
  refine ⟨by kernel_rfl, fun j t ht => ?_⟩
  rw [Tryd.params3] at ht
  have : t = 3 ∨ t = 4 ∨ t = 24 := by have := Array.mem_of_getElem? ht; simp at this; first | exact this | omega | grind
  rcases this with rfl | rfl | rfl
  · exact (show Tryd.prog.wantsStandIn 3 = false by kernel_rfl)
  · exact (show Tryd.prog.wantsStandIn 4 = false by kernel_rfl)
  · exact (show Tryd.prog.wantsStandIn 24 = false by kernel_rfl)

/-- THE CARD. -/
theorem proved : Rows.ValuePutsCardSaid :=
  Claim7.holds_tied_plain_at .later [] _ _ _ _ said (fun _ h => by cases h) (by kernel_rfl) (fun _ h => by cases h) valuePuts_row_tie rfl ⟨rfl, rfl⟩ (by kernel_rfl) rfl plain (by kernel_rfl)
end Go.Proofs.YtoglgdkeknojkaaDoor.valuePuts
