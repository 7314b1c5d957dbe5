/-
  ConnectBack: FOR EVERY INPUT the law returns true and leaves its arguments as they were.
-/
import Derived.Test.YtkohlbafpljfjaaKh
import Derived.Test.YtkohlbafpljfjaaKe
import Derived.Test.YtkohlbafpljfjaaOpn
import Derived.Test.YtkohlbafpljfjaaRows
import Derived.WalkKit
import Derived.ProofKit
import Derived.OpenShut
import Derived.ShutString
import Derived.ChangeOld
import Derived.Below
import Derived.SizedLaws
import Derived.Lib.SmallJoins
namespace Go.Proofs.Ytkohlbafpljfjaa.connectBack
set_option linter.unusedSimpArgs false
open Go.ChangeShapes Go.WideShapes Go.ChangeAt Go.RowKit
open Go.ChangeMaps (open_string shut_string)
set_option linter.unusedVariables false

theorem own : ownKnob Try.prog.godebug = none := by kernel_rfl
theorem laidOut : laidOutB Try.prog = true := by kernel_rfl

theorem con_eq (X : Con.Con) (w : World) : (binOp .eql 51 (.agg X.v) (.agg X.v)).run Try.prog w = .ok (.bool true) w := by
  unfold Con.Con.v
  simp only [binOp]
  simp [go_sem, Op.equal, Op.maxDepth]
theorem zero_eq (w : World) : (binOp .eql 51 (.agg #[.int .i64 0, .bool false, .int .i64 0, .string ⟨#[]⟩, .bool false, .string ⟨#[]⟩, .string ⟨#[]⟩, .int .i64 0, .bool false, .bool false, .string ⟨#[]⟩, .bool false, .string ⟨#[]⟩]) (.agg #[.int .i64 0, .bool false, .int .i64 0, .string ⟨#[]⟩, .bool false, .string ⟨#[]⟩, .string ⟨#[]⟩, .int .i64 0, .bool false, .bool false, .string ⟨#[]⟩, .bool false, .string ⟨#[]⟩])).run Try.prog w = .ok (.bool true) w := con_eq Con.con0 w
theorem lit_one (w : World) (x : Nat) : BytesAt (w.alloc (.cells #[.int .u8 (x : Int)] 5)) (.slice (some ⟨w.heap.size, 0, none⟩) 1 1) [x] := by
  refine ⟨some ⟨w.heap.size, 0, none⟩, 1, rfl, ⟨by simp, fun h => by cases h⟩, .inr ⟨w.heap.size, 0, rfl, by simp, fun i hi => ?_⟩⟩
  have : i = 0 := by simp at hi; omega
  subst this
  rw [World.cell?_alloc_at _ _ _ _ rfl]; rfl
theorem sizeOf5 (w : World) : (sizeOf (Try.prog.elem 23)).run Try.prog w = .ok 1 w := by kernel_rfl
set_option maxRecDepth 100000 in
theorem slice_to {w : World} {v : Value} {l : List Nat} (h : BytesAt w v l) (N : Nat) (hT : N ≤ l.length) (TI : Int) (hI : TI = (N : Int)) :
    ∃ q, (∀ V, (Instr.slice 23 v none (some (.int .i64 TI)) none).run Try.prog V = .ok q V) ∧ BytesAt w q (l.take N) := by
  subst hI
  obtain ⟨a, cap, rfl, ⟨hc, hcn⟩, hcase⟩ := id h
  refine ⟨.slice a N cap, fun V => ?_, ?_⟩
  · rw [run_slice_h V 23 _ _ _ Try.underlying23 .i64 _ (by omega) (by omega)]
    simp [sizeOf5, Result.andThen, sliced, Addr.add]
  · have hl : (l.take N).length = N := by simp; omega
    refine ⟨a, cap, by rw [hl], ⟨by omega, hcn⟩, ?_⟩
    rcases hcase with rfl | ⟨b, o, rfl, hlt, hcell⟩
    · exact .inl (by simp)
    · refine .inr ⟨b, o, rfl, hlt, fun i hi => ?_⟩
      rw [hl] at hi
      rw [hcell i (by omega)]
      simp [List.getD, List.getElem?_take, hi]
theorem txtL_app (a b : List Nat) : strB a ++ strB b = strB (a ++ b) := by
  simp [strB, ByteArray.ext_iff, ByteArray.data_append]
set_option maxHeartbeats 8000000 in
set_option maxRecDepth 100000 in
theorem walk (a0 : Int) (a1 : Bool) (a2 : Int) (a3 : ByteArray) (a4 : Bool) (a5_0 a5_1 : ByteArray) (a5_2 : Int) (a5_3 a6 : Bool) (a7 : ByteArray) (a8 : Bool) (a9 : ByteArray) (m : Int) (w : World) (_ : -9223372036854775808 ≤ a0 ∧ a0 ≤ 9223372036854775807) (_ : -9223372036854775808 ≤ a2 ∧ a2 ≤ 9223372036854775807) (_ : a3.size ≤ 140737488351232) (_ : a5_0.size ≤ 140737488351232) (s51 : a5_1.size ≤ 140737488351232) (_ : -9223372036854775808 ≤ a5_2 ∧ a5_2 ≤ 9223372036854775807) (_ : a7.size ≤ 140737488351232) (s9 : a9.size ≤ 140737488351232) (bm : 0 ≤ m ∧ m ≤ 255) : Calls Try.prog 8 #[.agg #[.int .i64 a0, .bool a1, .int .i64 a2, .string a3, .bool a4, .string a5_0, .string a5_1, .int .i64 a5_2, .bool a5_3, .bool a6, .string a7, .bool a8, .string a9], .int .u8 m] w (Yes w) := by
  have C := fun W => cputs a0 a1 a2 a3 a4 a5_0 a5_1 a5_2 a5_3 a6 a7 a8 a9 W s51 s9
  have PN := @Con.put_nil a0 a1 a2 a3 a4 a5_0 a5_1 a5_2 a5_3 a6 a7 a8 a9
  have PL := @Con.put_laid a0 a1 a2 a3 a4 a5_0 a5_1 a5_2 a5_3 a6 a7 a8 a9
  generalize conP a0 a1 a2 a3 a4 a5_0 a5_1 a5_2 a5_3 a6 a7 a8 a9 = S at *
  obtain ⟨l, E⟩ := S
  simp only at C PN PL
  unfold con at C
  replace C := Lib.hid C
  have CE := Lib.hid (con_eq ⟨a0, a1, a2, a3, a4, a5_0, a5_1, a5_2, a5_3, a6, a7, a8, a9⟩)
  have k0 : Blk (w.alloc (.cells #[.int .i64 a0, .bool a1, .int .i64 a2, .string a3, .bool a4, .string a5_0, .string a5_1, .int .i64 a5_2, .bool a5_3, .bool a6, .string a7, .bool a8, .string a9] 51)) w.heap.size 51 (Con.Con.v ⟨a0, a1, a2, a3, a4, a5_0, a5_1, a5_2, a5_3, a6, a7, a8, a9⟩) := Blk.new w 51 _
  have b0 := Lib.hid (ext_alloc w (.cells #[.int .i64 a0, .bool a1, .int .i64 a2, .string a3, .bool a4, .string a5_0, .string a5_1, .int .i64 a5_2, .bool a5_3, .bool a6, .string a7, .bool a8, .string a9] 51))
  replace k0 := Lib.hid k0
  go_enter Try.func8, Try.ntmps8
  go_wp2_with fail
  refine (C.out _).mono ?_
  rintro e w1 ⟨v, rfl, n1, b1⟩
  have k1 := k0.out.ext b1
  have B1 := ext_trans b0.out b1
  clear k0 b0 b1 C
  by_cases hE : E = 0
  rotate_left
  · have hl := PN hE
    subst hl
    obtain ⟨a, cap, rfl, -⟩ := n1
    simp only [List.length_nil]
    have hE' : (E != 0) = true := by simpa using hE
    clear PN PL hE k1
    replace B1 := Lib.hid B1
    go_wp2_with fail
    refine (awake13_any _).mono ?_
    rintro e w3 ⟨rfl, b6⟩
    have b7 := Lib.hid (B1.out.trans (b6.mono B1.out.size))
    clear b6 B1
    go_wp2_with fail
    go_ret
    exact ⟨rfl, b7.out⟩
  subst hE
  have L := PL rfl
  clear PN PL
  obtain ⟨n, hn⟩ : ∃ n, n = l.length := ⟨_, rfl⟩
  have hn1 : 1 ≤ n := by rw [hn]; exact L.pos
  have hn2 : n ≤ 4096 := by rw [hn]; exact L.len
  have O1 := fun W => Con.of_any (strB l) W (by rw [strB_size]; omega)
  have O2 := fun W => Con.of_any (strB l ++ strB [m.toNat]) W (by rw [txtL_app, strB_size]; simp; omega)
  have O3 := fun W => Con.of_any (strB (l.take (n - 1))) W (by rw [strB_size]; simp; omega)
  have lt2 : ∀ x ∈ l ++ [m.toNat], x < 256 := fun x hx => by
    rcases List.mem_append.1 hx with hx | hx
    · exact L.lt x hx
    · simp at hx; omega
  have e3 : l.take (n - 1) = l.dropLast := by rw [hn, List.dropLast_eq_take]
  rw [Con.txtL_strB2 L.lt, L.it] at O1
  rw [txtL_app, Con.txtL_strB2 lt2, L.more] at O2
  rw [e3, Con.txtL_strB2 (fun x hx => L.lt x ((List.dropLast_sublist l).subset hx)), L.less, ← e3] at O3
  unfold Con.Con.v at O1
  simp only at O1
  unfold Con.Con.v Con.con0 at O2 O3
  simp only at O2 O3
  clear L lt2 e3
  obtain ⟨qv, hq1, hq2⟩ := slice_to n1 (n - 1) (by omega) ((n : Int) - 1) (by omega)
  have kc := n1.conv (P := Try.prog) Try.underlying23 Try.underlying5 Try.underlying9
  obtain ⟨a, cap, hv, hcap, -⟩ := id n1
  rw [← hn] at hv
  subst hv
  replace hn := Lib.hid hn
  rw [← txtL_app] at O2
  generalize hS : strB l = S at *
  generalize hT : strB [m.toNat] = T at *
  have hn1' : decide ((n : Int) < 1) = false := by simp; omega
  replace O1 := Lib.hid O1
  replace O2 := Lib.hid O2
  replace O3 := Lib.hid O3
  replace n1 := Lib.hid n1
  replace hq2 := Lib.hid hq2
  have sS : S.size ≤ 4096 := by rw [← hS, strB_size, ← hn.out]; exact hn2
  have sT : T.size ≤ 1 := by rw [← hT, strB_size]; simp
  replace hS := Lib.hid hS
  replace hT := Lib.hid hT
  replace k1 := Lib.hid k1
  replace B1 := Lib.hid B1
  replace hq1 := Lib.hid hq1
  go_wp2_with fail
  refine (O1.out _).mono ?_
  rintro e w2 ⟨rfl, b2⟩
  have k2 := k1.out.ext b2
  have z2 : (w2.alloc (.cells #[.int .i64 a0, .bool a1, .int .i64 a2, .string a3, .bool a4, .string a5_0, .string a5_1, .int .i64 a5_2, .bool a5_3, .bool a6, .string a7, .bool a8, .string a9] 51)).heap.size = w2.heap.size + 1 := by simp
  have b2a := ext_trans b2 (ext_alloc w2 (.cells #[.int .i64 a0, .bool a1, .int .i64 a2, .string a3, .bool a4, .string a5_0, .string a5_1, .int .i64 a5_2, .bool a5_3, .bool a6, .string a7, .bool a8, .string a9] 51))
  have kc2 := (n1.out.keep b2a (Nat.le_refl _)).conv (P := Try.prog) Try.underlying23 Try.underlying5 Try.underlying9
  rw [hS.out] at kc2
  have L1 := lit_one (w2.alloc (.cells #[.int .i64 a0, .bool a1, .int .i64 a2, .string a3, .bool a4, .string a5_0, .string a5_1, .int .i64 a5_2, .bool a5_3, .bool a6, .string a7, .bool a8, .string a9] 51)) m.toNat
  rw [show ((m.toNat : Nat) : Int) = m by omega, z2] at L1
  have kc3 := L1.conv (P := Try.prog) Try.underlying23 Try.underlying5 Try.underlying9
  rw [hT.out] at kc3
  have K2 : Blk (w2.alloc (.cells #[.int .i64 a0, .bool a1, .int .i64 a2, .string a3, .bool a4, .string a5_0, .string a5_1, .int .i64 a5_2, .bool a5_3, .bool a6, .string a7, .bool a8, .string a9] 51)) w.heap.size 51 (Con.Con.v ⟨a0, a1, a2, a3, a4, a5_0, a5_1, a5_2, a5_3, a6, a7, a8, a9⟩) := k2.alloc _
  have K7 : Blk (w2.alloc (.cells #[.int .i64 a0, .bool a1, .int .i64 a2, .string a3, .bool a4, .string a5_0, .string a5_1, .int .i64 a5_2, .bool a5_3, .bool a6, .string a7, .bool a8, .string a9] 51)) w2.heap.size 51 (Con.Con.v ⟨a0, a1, a2, a3, a4, a5_0, a5_1, a5_2, a5_3, a6, a7, a8, a9⟩) := Blk.new w2 51 _
  have B2 := ext_trans b2a (ext_alloc (w2.alloc (.cells #[.int .i64 a0, .bool a1, .int .i64 a2, .string a3, .bool a4, .string a5_0, .string a5_1, .int .i64 a5_2, .bool a5_3, .bool a6, .string a7, .bool a8, .string a9] 51)) (.cells #[.int .u8 m] 5))
  replace B2 := Lib.hid B2
  replace K2 := Lib.hid K2
  replace K7 := Lib.hid K7
  clear k1 b2 k2 b2a L1 z2
  go_wp2_with fail
  refine (O2.out _).mono ?_
  rintro e w4 ⟨rfl, b4⟩
  have B4 := ext_trans (ext_trans B2.out b4) (ext_alloc w4 (.cells #[.int .i64 0, .bool false, .int .i64 0, .string ⟨#[]⟩, .bool false, .string ⟨#[]⟩, .string ⟨#[]⟩, .int .i64 0, .bool false, .bool false, .string ⟨#[]⟩, .bool false, .string ⟨#[]⟩] 51))
  have kc5 := (hq2.out.keep B4 (Nat.le_refl _)).conv (P := Try.prog) Try.underlying23 Try.underlying5 Try.underlying9
  have K2b := ((K2.out.alloc (.cells #[.int .u8 m] 5)).ext b4).alloc (.cells #[.int .i64 0, .bool false, .int .i64 0, .string ⟨#[]⟩, .bool false, .string ⟨#[]⟩, .string ⟨#[]⟩, .int .i64 0, .bool false, .bool false, .string ⟨#[]⟩, .bool false, .string ⟨#[]⟩] 51)
  have K7b := ((K7.out.alloc (.cells #[.int .u8 m] 5)).ext b4).alloc (.cells #[.int .i64 0, .bool false, .int .i64 0, .string ⟨#[]⟩, .bool false, .string ⟨#[]⟩, .string ⟨#[]⟩, .int .i64 0, .bool false, .bool false, .string ⟨#[]⟩, .bool false, .string ⟨#[]⟩] 51)
  generalize w2.heap.size = g7 at *
  replace B4 := Lib.hid B4
  replace K2b := Lib.hid K2b
  replace K7b := Lib.hid K7b
  replace hq1 := hq1.out
  clear K2 K7 B2 b4 kc2 kc3 kc
  go_wp2_with fail
  refine (O3.out _).mono ?_
  rintro e w5 ⟨rfl, b5⟩
  have B5a := ext_trans (ext_trans B4.out b5) (ext_alloc w5 (.cells #[.int .i64 0, .bool false, .int .i64 0, .string ⟨#[]⟩, .bool false, .string ⟨#[]⟩, .string ⟨#[]⟩, .int .i64 0, .bool false, .bool false, .string ⟨#[]⟩, .bool false, .string ⟨#[]⟩] 51))
  have B5 := B1.out.trans (B5a.mono B1.out.size)
  have K2c : Blk (w5.alloc (.cells #[.int .i64 0, .bool false, .int .i64 0, .string ⟨#[]⟩, .bool false, .string ⟨#[]⟩, .string ⟨#[]⟩, .int .i64 0, .bool false, .bool false, .string ⟨#[]⟩, .bool false, .string ⟨#[]⟩] 51)) w.heap.size 51 (Con.Con.v ⟨a0, a1, a2, a3, a4, a5_0, a5_1, a5_2, a5_3, a6, a7, a8, a9⟩) := (K2b.out.ext b5).alloc _
  have K7c : Blk (w5.alloc (.cells #[.int .i64 0, .bool false, .int .i64 0, .string ⟨#[]⟩, .bool false, .string ⟨#[]⟩, .string ⟨#[]⟩, .int .i64 0, .bool false, .bool false, .string ⟨#[]⟩, .bool false, .string ⟨#[]⟩] 51)) g7 51 (Con.Con.v ⟨a0, a1, a2, a3, a4, a5_0, a5_1, a5_2, a5_3, a6, a7, a8, a9⟩) := (K7b.out.ext b5).alloc _
  replace B5 := Lib.hid B5
  replace K2c := Lib.hid K2c
  replace K7c := Lib.hid K7c
  clear K2b K7b B4 b5 kc5 hq1 B5a
  replace CE := CE.out
  have ZE := zero_eq
  go_wp2_with (first
    | (refine wpList_load_row rfl 51 (.tmp 7) rfl g7 rfl 51 (Con.Con.v ⟨a0, a1, a2, a3, a4, a5_0, a5_1, a5_2, a5_3, a6, a7, a8, a9⟩) (0, 0) _ ?_ Try.underlying51 rfl (Con.con_sizeX _) ?_; exact K7c.out)
    | (refine wpList_load_row rfl 51 (.tmp 2) rfl w.heap.size rfl 51 (Con.Con.v ⟨a0, a1, a2, a3, a4, a5_0, a5_1, a5_2, a5_3, a6, a7, a8, a9⟩) (0, 0) _ ?_ Try.underlying51 rfl (Con.con_sizeX _) ?_; exact K2c.out))
  refine (awake13_any _).mono ?_
  rintro e w6 ⟨rfl, b6⟩
  have b7 := Lib.hid (B5.out.trans (b6.mono B5.out.size))
  clear b6 B5
  go_wp2_with fail
  go_ret
  exact ⟨rfl, b7.out⟩

set_option maxRecDepth 100000 in
theorem lifted (os : Os) (started : os.Started) (H : Type) (enc : TypeId × Value → H) :
    ReturnsInHanded {} Try.checked os 8 .any (Rows.connectBackSpec.pre6 enc Try.prog Try.f8 Rows.connectBackRow.domain false) (Rows.connectBackSpec.post enc Try.prog Try.f8 false true false false) := by
  refine returnsInHanded_of_change_sized (C := Try.checked) own started (by kernel_rfl) Try.func8
    (ChangeSpec.witness6 (enc := enc) (C := Try.checked) false ⟨#[], #[.agg #[.int .i64 0, .bool false, .int .i64 0, .string ByteArray.empty, .bool false, .string ByteArray.empty, .string ByteArray.empty, .int .i64 0, .bool false, .bool false, .string ByteArray.empty, .bool false, .string ByteArray.empty], .int .u8 0], []⟩ 8 (by kernel_rfl) (by kernel_rfl) (by kernel_rfl) (by kernel_rfl)) ?_
  intro W base args ds gs before hval0 hW hcnd hsz0 _
  have hsz : (DataW.weightsEach Try.prog (Try.f8.params.toList ++ Rows.connectBackSpec.plain.varTypes Try.prog) (ds ++ gs)).all (· ≤ reachBytes) = true := hsz0
  have hval : ∀ (j : Nat) t v, Try.f8.params[j]? = some t → args[j]? = some v → Value.okWide Try.prog W .any base t v := hval0
  have hW' := hW
  obtain ⟨p, q, hA0, hV, rfl, hfz, hnd⟩ := hW
  have hA : DataW.TrodAll enc Try.prog W 0 (fun _ => true) true Try.f8.params.toList args.toList ds p := hA0
  rw [Try.params8] at hA hval hsz
  obtain ⟨v0, vs0, d0, ds0, p0, q0, hargs, rfl, rfl, h0, r0⟩ := trodAll_cons hA
  obtain ⟨v1, vs1, d1, ds1, p1, q1, rfl, rfl, rfl, h1, r1⟩ := trodAll_cons r0
  obtain ⟨rfl, rfl, rfl⟩ := trodAll_nil r1
  obtain rfl : args = #[v0, v1] := by cases args; simp_all
  obtain ⟨rfl, rfl⟩ := trodVars_none hV
  have k0 := h0
  have lt0 : ∀ x ∈ p0, x.block < W.heap.size := by obtain ⟨m, hm⟩ := k0; exact DataW.trod_lt m _ _ _ hm
  have k1 := h1
  have lt1 : ∀ x ∈ p1, x.block < W.heap.size := by obtain ⟨m, hm⟩ := k1; exact DataW.trod_lt m _ _ _ hm
  obtain ⟨cs0, rfl, sz0⟩ := okWide_struct Try.underlying51 (hval 0 51 _ rfl rfl)
  obtain ⟨fu0, hf0⟩ := h0
  obtain ⟨a0_0, a0_1, a0_2, a0_3, a0_4, a0_5_0, a0_5_1, a0_5_2, a0_5_3, a0_6, a0_7, a0_8, a0_9, q0, z0, wa0_0, wa0_2, wa0_5_2⟩ := open_t51 hf0
  obtain rfl : cs0 = #[.int .i64 a0_0, .bool a0_1, .int .i64 a0_2, .string a0_3, .bool a0_4, .string a0_5_0, .string a0_5_1, .int .i64 a0_5_2, .bool a0_5_3, .bool a0_6, .string a0_7, .bool a0_8, .string a0_9] := by
    have := congrArg List.toArray q0
    simpa [Value.cells] using this
  obtain ⟨rfl, rfl⟩ := Prod.mk.inj z0
  have ba0_0 := wf_i64 wa0_0
  have ba0_2 := wf_i64 wa0_2
  have sa0_3 : a0_3.size ≤ 140737488351232 := by
    have hm := List.all_eq_true.1 hsz a0_3.data.toList.length (DataW.weights_mem_each (j := 0) (t := 51) rfl rfl _ (by simp [DataW.weights, DataW.weightsEach, Try.underlying3, Try.underlying4, Try.underlying9, Try.underlying49, Try.underlying51]))
    simp only [Array.length_toList, reachBytes] at hm
    exact of_decide_eq_true hm
  have sa0_5_0 : a0_5_0.size ≤ 140737488351232 := by
    have hm := List.all_eq_true.1 hsz a0_5_0.data.toList.length (DataW.weights_mem_each (j := 0) (t := 51) rfl rfl _ (by simp [DataW.weights, DataW.weightsEach, Try.underlying3, Try.underlying4, Try.underlying9, Try.underlying49, Try.underlying51]))
    simp only [Array.length_toList, reachBytes] at hm
    exact of_decide_eq_true hm
  have sa0_5_1 : a0_5_1.size ≤ 140737488351232 := by
    have hm := List.all_eq_true.1 hsz a0_5_1.data.toList.length (DataW.weights_mem_each (j := 0) (t := 51) rfl rfl _ (by simp [DataW.weights, DataW.weightsEach, Try.underlying3, Try.underlying4, Try.underlying9, Try.underlying49, Try.underlying51]))
    simp only [Array.length_toList, reachBytes] at hm
    exact of_decide_eq_true hm
  have ba0_5_2 := wf_i64 wa0_5_2
  have sa0_7 : a0_7.size ≤ 140737488351232 := by
    have hm := List.all_eq_true.1 hsz a0_7.data.toList.length (DataW.weights_mem_each (j := 0) (t := 51) rfl rfl _ (by simp [DataW.weights, DataW.weightsEach, Try.underlying3, Try.underlying4, Try.underlying9, Try.underlying49, Try.underlying51]))
    simp only [Array.length_toList, reachBytes] at hm
    exact of_decide_eq_true hm
  have sa0_9 : a0_9.size ≤ 140737488351232 := by
    have hm := List.all_eq_true.1 hsz a0_9.data.toList.length (DataW.weights_mem_each (j := 0) (t := 51) rfl rfl _ (by simp [DataW.weights, DataW.weightsEach, Try.underlying3, Try.underlying4, Try.underlying9, Try.underlying49, Try.underlying51]))
    simp only [Array.length_toList, reachBytes] at hm
    exact of_decide_eq_true hm
  obtain ⟨a1, rfl, rfl, rfl, w1⟩ := open_int Try.underlying5 (hval 1 5 v1 rfl rfl) h1
  have b1 := wf_u8 w1
  clear hA0 hval0 hsz0
  refine (walk a0_0 a0_1 a0_2 a0_3 a0_4 a0_5_0 a0_5_1 a0_5_2 a0_5_3 a0_6 a0_7 a0_8 a0_9 a1 W ba0_0 ba0_2 sa0_3 sa0_5_0 sa0_5_1 ba0_5_2 sa0_7 sa0_9 b1).mono fun e W' ⟨he, bel⟩ => ?_
  subst he
  exact ⟨_, rfl, _, _, _, [], _, [], hW', trodAll_mk1 (shut_bool Try.underlying4 _), (trodAll_cons_mk (Below.trod laidOut (by kernel_rfl) (of_decide_eq_true (by kernel_rfl)) k0 bel lt0) (trodAll_cons_mk (Below.trod laidOut (by kernel_rfl) (of_decide_eq_true (by kernel_rfl)) k1 bel lt1) trodAll_mk0)), rfl, bel.frame _, fun h => by cases h⟩

theorem over : Rows.connectBackRow.holds Try.pinned (OpenSpec.ofChange Rows.connectBackSpec) :=
  OpenClaim.holds_of_wide 8 Try.f8 rfl rfl rfl rfl rfl rfl rfl ⟨rfl, rfl, rfl, rfl, rfl⟩ rfl rfl rfl rfl rfl (by kernel_rfl) Try.func8 (by kernel_rfl)
    (of_decide_eq_true (by kernel_rfl)) (by unfold Func.isWrapper; first | (rw [if_pos (by decide +kernel)]; kernel_rfl) | (rw [if_neg (by decide +kernel)]; exact ⟨rfl, rfl⟩))
    (fun os started H enc _ => lifted os started H enc)

theorem proved : Rows.ConnectBackSaid := over
end Go.Proofs.Ytkohlbafpljfjaa.connectBack
