/-
  PacketReads: FOR EVERY INPUT the law returns true and leaves its arguments as they were; the package's tables are laid (a card).
-/
import Derived.Test.YtmpklaokgogigaaDoorLi
import Derived.Test.YtmpklaokgogigaaDoorLd
import Derived.Test.YtmpklaokgogigaaDoorTb
import Derived.Test.YtmpklaokgogigaaDoorOpr
import Derived.Test.YtmpklaokgogigaaDoorCards
import Derived.Test.YtmpklaokgogigaaDoorTie
import Derived.WalkKit
import Derived.ProofKit
import Derived.OpenShut
import Derived.ChangeOld
import Derived.Below
import Derived.SizedLaws
import Derived.Lib.SmallJoins
import Derived.Deep.DeepHandedRow
import Derived.Lib.LaidTab
namespace Go.Proofs.YtmpklaokgogigaaDoor.packetReads
set_option linter.unusedSimpArgs false
open Go.ChangeShapes Go.WideShapes Go.ChangeAt Go.RowKit
open Go.ChangeMaps (open_string shut_string)
set_option linter.unusedVariables false

theorem own : ownKnob Tryd.prog.godebug = none := by kernel_rfl
theorem laidOut : laidOutB Tryd.prog = true := by kernel_rfl

set_option maxHeartbeats 8000000 in
set_option maxRecDepth 100000 in
theorem walk (k f n : Int) (s : ByteArray) (w : World) (ht : Tabs w) (h1 : -9223372036854775808 ≤ k ∧ k ≤ 9223372036854775807) (h2 : -9223372036854775808 ≤ f ∧ f ≤ 9223372036854775807) (h3 : -9223372036854775808 ≤ n ∧ n ≤ 9223372036854775807) (hs : s.size ≤ 140737488351232) :
    Calls Tryd.prog 3 #[.agg #[.int .i64 k, .int .i64 f, .int .i64 n, .string s]] w (Pac.YesW w) := by
  obtain ⟨P, m, H7, H8⟩ := Pac.of_both k f n s hs
  have C7 := Lib.hid (H7 (w.alloc (.cells #[.int .i64 k, .int .i64 f, .int .i64 n, .string s] 25)) (ht.keep (ext_alloc _ _)))
  replace H8 := Lib.hid H8
  have X0 := Lib.hid (Blk.new w 25 #[.int .i64 k, .int .i64 f, .int .i64 n, .string s])
  clear h1 h2 h3 H7
  go_enter Tryd.func3, Tryd.ntmps3
  go_wp2_with fail
  refine (C7.out).mono ?_
  rintro e w1 ⟨fs, cs, rfl, hf, hc, b1⟩
  have Y1 := ext_trans (ext_alloc w _) b1
  have hT1 := Lib.hid (Tabs.keep ht Y1)
  have X1 := Lib.hid (X0.out.ext b1)
  have Y1' := Lib.hid Y1
  have X2 := Lib.hid (X1.out.alloc (.cells (P.v fs cs) 33))
  have A2 := Lib.hid (heap_alloc_new w1 (.cells #[.int .i64 0, .int .i64 0, .bool false, .string ⟨#[]⟩, .string ⟨#[]⟩, .int .i64 0, .bool false, .int .i64 0, .bool false, .int .i64 0, .string ⟨#[]⟩, .bool false, .string ⟨#[]⟩, .string ⟨#[]⟩, .int .i64 0, .bool false, .bool false, .string ⟨#[]⟩, .bool false, .string ⟨#[]⟩, .bool false, .int .i64 0, .slice none 0 0, .slice none 0 0] 33))
  have A3 := Lib.hid (World.setRow_alloc_new w1 #[.int .i64 0, .int .i64 0, .bool false, .string ⟨#[]⟩, .string ⟨#[]⟩, .int .i64 0, .bool false, .int .i64 0, .bool false, .int .i64 0, .string ⟨#[]⟩, .bool false, .string ⟨#[]⟩, .string ⟨#[]⟩, .int .i64 0, .bool false, .bool false, .string ⟨#[]⟩, .bool false, .string ⟨#[]⟩, .bool false, .int .i64 0, .slice none 0 0, .slice none 0 0] (P.v fs cs) 33)
  have A4 := Lib.hid (Blk.new w1 33 (P.v fs cs))
  have q1 := Lib.hid (And.intro (Pac.fis_one hf.1) (Pac.ints_one hc.1))
  have ba := (Below.refl _ w1).alloc (Nat.le_refl _) (.cells (P.v fs cs) 33)
  have F1 := Lib.hid (And.intro (hf.1.keep ba (Nat.le_refl _)) (hc.1.keep ba (Nat.le_refl _)))
  have Z1 := Lib.hid (ext_trans Y1 ba)
  clear X0 C7 b1 Y1 hf hc ba X1 ht
  go_wp2_with (first
    | (refine wpList_load_row rfl 25 (.tmp 1) rfl w.heap.size rfl 25 #[.int .i64 k, .int .i64 f, .int .i64 n, .string s] (0, 0) _ X2.out Tryd.underlying25 rfl (by kernel_rfl) ?_)
    | (refine wpList_store_row rfl 33 (.tmp 3) (.tmp 10) rfl w1.heap.size (P.v fs cs) rfl rfl 33 #[.int .i64 0, .int .i64 0, .bool false, .string ⟨#[]⟩, .string ⟨#[]⟩, .int .i64 0, .bool false, .int .i64 0, .bool false, .int .i64 0, .string ⟨#[]⟩, .bool false, .string ⟨#[]⟩, .string ⟨#[]⟩, .int .i64 0, .bool false, .bool false, .string ⟨#[]⟩, .bool false, .string ⟨#[]⟩, .bool false, .int .i64 0, .slice none 0 0, .slice none 0 0] A2.out (Pac.pk_size _ _ _) rfl (Pac.pk_one _ _ _ q1.out.1 q1.out.2) ?_; rw [A3.out]))
  refine (H8.out _).mono ?_
  rintro e w3 ⟨fs', cs', rfl, hf', hc', b3⟩
  clear A2 A3 H8
  have ba := (Below.refl _ w3).alloc (Nat.le_refl _) (.cells (P.v fs' cs') 33)
  have b4 := ext_trans b3 ba
  have A2 := Lib.hid (heap_alloc_new w3 (.cells #[.int .i64 0, .int .i64 0, .bool false, .string ⟨#[]⟩, .string ⟨#[]⟩, .int .i64 0, .bool false, .int .i64 0, .bool false, .int .i64 0, .string ⟨#[]⟩, .bool false, .string ⟨#[]⟩, .string ⟨#[]⟩, .int .i64 0, .bool false, .bool false, .string ⟨#[]⟩, .bool false, .string ⟨#[]⟩, .bool false, .int .i64 0, .slice none 0 0, .slice none 0 0] 33))
  have A3 := Lib.hid (World.setRow_alloc_new w3 #[.int .i64 0, .int .i64 0, .bool false, .string ⟨#[]⟩, .string ⟨#[]⟩, .int .i64 0, .bool false, .int .i64 0, .bool false, .int .i64 0, .string ⟨#[]⟩, .bool false, .string ⟨#[]⟩, .string ⟨#[]⟩, .int .i64 0, .bool false, .bool false, .string ⟨#[]⟩, .bool false, .string ⟨#[]⟩, .bool false, .int .i64 0, .slice none 0 0, .slice none 0 0] (P.v fs' cs') 33)
  have A5 := Lib.hid (Blk.new w3 33 (P.v fs' cs'))
  have A6 := Lib.hid (A4.out.ext b4)
  have q2 := Lib.hid (And.intro (Pac.fis_one hf'.1) (Pac.ints_one hc'.1))
  have SM := Lib.hid (Pac.rsame_any P fs cs fs' cs' (w3.alloc (.cells (P.v fs' cs') 33)) (F1.out.1.keep b4 (Nat.le_refl _)) (F1.out.2.keep b4 (Nat.le_refl _)) (hf'.1.keep ba (Nat.le_refl _)) (hc'.1.keep ba (Nat.le_refl _)))
  have Z3 := Lib.hid (ext_trans Z1.out b4)
  have hT3 := Lib.hid ((hT1.out.keep ((Below.refl _ w1).alloc (Nat.le_refl _) (.cells (P.v fs cs) 33))).keep b4)
  clear hf' hc' b3 ba b4 A4 F1 Z1 hT1
  go_wp2_with (first
    | (refine wpList_store_row rfl 33 (.tmp 5) (.tmp 15) rfl w3.heap.size (P.v fs' cs') rfl rfl 33 #[.int .i64 0, .int .i64 0, .bool false, .string ⟨#[]⟩, .string ⟨#[]⟩, .int .i64 0, .bool false, .int .i64 0, .bool false, .int .i64 0, .string ⟨#[]⟩, .bool false, .string ⟨#[]⟩, .string ⟨#[]⟩, .int .i64 0, .bool false, .bool false, .string ⟨#[]⟩, .bool false, .string ⟨#[]⟩, .bool false, .int .i64 0, .slice none 0 0, .slice none 0 0] A2.out (Pac.pk_size _ _ _) rfl (Pac.pk_one _ _ _ q2.out.1 q2.out.2) ?_; rw [A3.out])
    | (refine wpList_load_row rfl 33 (.tmp 3) rfl w1.heap.size rfl 33 (P.v fs cs) (0, 0) _ A6.out Tryd.underlying33 rfl (Pac.pk_size _ _ _) ?_)
    | (refine wpList_load_row rfl 33 (.tmp 5) rfl w3.heap.size rfl 33 (P.v fs' cs') (0, 0) _ A5.out Tryd.underlying33 rfl (Pac.pk_size _ _ _) ?_))
  refine (SM.out).mono ?_
  rintro e w5 ⟨rfl, b5⟩
  have T5 := Lib.hid (hT3.out.keep b5)
  have Z5 := Lib.hid (ext_trans Z3.out b5)
  clear b5 SM
  go_wp2_with fail
  refine (Pac.awake16_any _ T5.out).mono ?_
  rintro e w6 ⟨rfl, b6⟩
  have Z6 := Lib.hid (ext_trans Z5.out b6)
  clear b6
  go_wp2_with fail
  go_ret
  exact ⟨rfl, Z6.out⟩

set_option maxRecDepth 100000 in
theorem contract (F : Stop.Interp) (H : Type) (enc : TypeId × Value → H) (W : World) (base : Nat) (args : Array Value) (ds gs : List (DataW H)) (before : List MemPlace)
    (hval : ∀ (j : Nat) t v, Tryd.f3.params[j]? = some t → args[j]? = some v → Value.okWide Tryd.prog W .any base t v)
    (hW : DataW.Whole enc Tryd.prog Tryd.f3.params.toList Rows.packetReadsSpec.vars false W args.toList ds gs before)
    
    (hsz : (DataW.weightsEach Tryd.prog (Tryd.f3.params.toList ++ (OpenSpec.ofChange Rows.packetReadsSpec).bare.plain.varTypes Tryd.prog) (ds ++ gs)).all (· ≤ reachBytes) = true) (hL : laidMetH Tryd.prog Rows.packetReadsRow.laid W) :
    Calls Tryd.prog 3 args W fun e W' => ∃ v, e = .returned v ∧ ((OpenSpec.ofChange Rows.packetReadsSpec).at F).post enc Tryd.prog Tryd.f3 false true false false W args v W' := by
  have hW' := hW
  obtain ⟨p, q, hA0, hV, rfl, hfz, hnd⟩ := hW
  have hA : DataW.TrodAll enc Tryd.prog W 0 (fun _ => true) true Tryd.f3.params.toList args.toList ds p := hA0
  rw [Tryd.params3] at hA hval hsz
  obtain ⟨v0, vs0, d0, ds0, p0, q0, hargs, rfl, rfl, h0, r0⟩ := trodAll_cons hA
  obtain ⟨rfl, rfl, rfl⟩ := trodAll_nil r0
  obtain rfl : args = #[v0] := by cases args; simp_all
  obtain ⟨rfl, rfl⟩ := trodVars_none hV
  have k0 := h0
  have lt0 : ∀ x ∈ p0, x.block < W.heap.size := by obtain ⟨m, hm⟩ := k0; exact DataW.trod_lt m _ _ _ hm
  obtain ⟨cs0, rfl, sz0⟩ := okWide_struct Tryd.underlying25 (hval 0 25 _ rfl rfl)
  obtain ⟨fu0, hf0⟩ := h0
  obtain ⟨a0_0_0, a0_0_1, a0_0_2, a0_1, q0, z0, wa0_0_0, wa0_0_1, wa0_0_2⟩ := open_t25 hf0
  obtain rfl : cs0 = #[.int .i64 a0_0_0, .int .i64 a0_0_1, .int .i64 a0_0_2, .string a0_1] := by
    have := congrArg List.toArray q0
    simpa [Value.cells] using this
  obtain ⟨rfl, rfl⟩ := Prod.mk.inj z0
  have ba0_0_0 := wf_i64 wa0_0_0
  have ba0_0_1 := wf_i64 wa0_0_1
  have ba0_0_2 := wf_i64 wa0_0_2
  have sa0_1 : a0_1.size ≤ 140737488351232 := by
    have hm := List.all_eq_true.1 hsz a0_1.data.toList.length (DataW.weights_mem_each (j := 0) (t := 25) rfl rfl _ (by simp [DataW.weights, DataW.weightsEach, Tryd.underlying3, Tryd.underlying9, Tryd.underlying23, Tryd.underlying25]))
    simp only [Array.length_toList, reachBytes] at hm
    exact of_decide_eq_true hm
  clear hA0
  refine (walk a0_0_0 a0_0_1 a0_0_2 a0_1 W (tabs_of hL) ba0_0_0 ba0_0_1 ba0_0_2 sa0_1).mono fun e W' ⟨he, bel⟩ => ?_
  subst he
  exact ⟨_, rfl, _, _, _, [], _, [], hW', trodAll_mk1 (shut_bool Tryd.underlying4 _), (trodAll_cons_mk (Below.trod laidOut (by kernel_rfl) (of_decide_eq_true (by kernel_rfl)) k0 bel lt0) trodAll_mk0), rfl, bel.frame _, fun h => by cases h⟩

/-- A world for the witness: the settled one, the tables holding what their initialisers lay. -/
noncomputable def laidWorld (os : Os) : World :=
  { World.holding Tryd.prog os ⟨#[], #[], []⟩ with heap := ((World.holding Tryd.prog os ⟨#[], #[], []⟩).heap.modify 0 (fun
      | .cells _ t frozen => .cells #[.int .u16 1, .int .u16 4, .int .u16 15423] t frozen
      | o => o)) }
theorem laid_met (os : Os) : laidMet Tryd.prog Rows.packetReadsRow.laid ((laidWorld os).forCall (fun _ _ => 0) ⟨#[], #[.agg #[.int .i64 0, .int .i64 0, .int .i64 0, .string ByteArray.empty]], []⟩).memory :=
  laidMet_of_run' 8 (by kernel_rfl) (by kernel_rfl)
theorem reads (os : Os) {H : Type} (enc : TypeId × Value → H) : ∃ places, DataW.whole enc Tryd.prog ((laidWorld os).forCall (fun _ _ => 0) ⟨#[], #[.agg #[.int .i64 0, .int .i64 0, .int .i64 0, .string ByteArray.empty]], []⟩).memory Tryd.f3.params.toList Rows.packetReadsSpec.vars false #[Value.agg #[.int .i64 0, .int .i64 0, .int .i64 0, .string ByteArray.empty]].toList 8 = some ([.agg [.agg [.lit (.int .i64 0), .lit (.int .i64 0), .lit (.int .i64 0)], .lit (.string [])]], [], places) :=
  ⟨[], by kernel_rfl⟩

set_option maxRecDepth 100000 in
theorem lifted (os : Os) (started : os.Started) (H : Type) (enc : TypeId × Value → H) (F : Stop.Interp) :
    ReturnsInHanded {} Tryd.checked os 3 .any ((OpenSpec.ofChange Rows.packetReadsSpec).preRow enc Tryd.prog Tryd.f3 Rows.packetReadsRow.domain false Rows.packetReadsRow.laid) (((OpenSpec.ofChange Rows.packetReadsSpec).at F).post enc Tryd.prog Tryd.f3 false true false false) := by
  obtain ⟨places, hx⟩ := reads os enc
  refine returnsInHanded_of_row (C := Tryd.checked) (s := (OpenSpec.ofChange Rows.packetReadsSpec)) own started (by kernel_rfl) Tryd.func3
    (witness_row_at (enc := enc) (C := Tryd.checked) false (laidWorld os) #[.agg #[.int .i64 0, .int .i64 0, .int .i64 0, .string ByteArray.empty]] rfl (by kernel_rfl) (by kernel_rfl) (by kernel_rfl)
      (OpenSpec.preRow_of_cond 8 hx (by kernel_rfl) (fun k hk => by cases hk) (by kernel_rfl) (laid_met os))) ?_
  intro W base args ds gs before hval hW _ hcnd hsz hL _ _
  exact contract F H enc W base args ds gs before hval hW  hsz hL

theorem said : Rows.PacketReadsSaid :=
  OpenClaim.holds_of_cond 3 Tryd.f3 rfl rfl rfl rfl rfl rfl rfl ⟨rfl, rfl, rfl, rfl, rfl⟩ rfl rfl rfl rfl rfl (by kernel_rfl) Tryd.func3 (by kernel_rfl)
    (of_decide_eq_true (by kernel_rfl)) (by unfold Func.isWrapper; first | (rw [if_pos (by decide +kernel)]; kernel_rfl) | (rw [if_neg (by decide +kernel)]; exact ⟨rfl, rfl⟩))
    (fun os started H enc _ F => by rw [OpenClaim.pre_eq_preRow]; exact lifted os started H enc F)

theorem plain (f : FuncId) (fn : Func) (hf : Tryd.pinned.checked.prog.funcNamed "crier/crierlaw16.PacketReads" = some f) (hfn : Tryd.pinned.checked.prog.funcs[f]? = some fn) :
    false = Tryd.pinned.checked.prog.looks [] ∧ ∀ (j : Nat) t, fn.params[j]? = some t → Tryd.pinned.checked.prog.wantsStandIn t = false := by
  obtain rfl : f = 3 := Option.some.inj ((show Tryd.prog.funcNamed "crier/crierlaw16.PacketReads" = some 3 by kernel_rfl).symm.trans hf) |>.symm
  obtain rfl : fn = Tryd.f3 := (Option.some.inj (Tryd.func3.symm.trans hfn)).symm
  refine ⟨by kernel_rfl, fun j t ht => ?_⟩
  rw [Tryd.params3] at ht
  obtain rfl : t = 25 := by have := Array.mem_of_getElem? ht; simpa using this
  exact (show Tryd.prog.wantsStandIn 25 = false by kernel_rfl)

/-- THE CARD. -/
theorem proved : Rows.PacketReadsCardSaid :=
  Claim7.holds_tied_plain_at .later [] _ _ _ _ said (fun _ h => by cases h) (by kernel_rfl) (fun _ h => by cases h) packetReads_row_tie rfl ⟨rfl, rfl⟩ (by kernel_rfl) rfl plain (by kernel_rfl)
end Go.Proofs.YtmpklaokgogigaaDoor.packetReads
