/-
  ConnectPuts: FOR EVERY INPUT the law returns true and leaves its arguments as they were.
-/
import Derived.Test.YtkihhnndidaloaaCi
import Derived.Test.YtkihhnndidaloaaOpn
import Derived.Test.YtkihhnndidaloaaRows
import Derived.WalkKit
import Derived.ProofKit
import Derived.OpenShut
import Derived.ShutString
import Derived.ChangeOld
import Derived.Below
import Derived.SizedLaws
import Derived.Lib.SmallJoins
namespace Go.Proofs.Ytkihhnndidaloaa.connectPuts
open Go.ChangeShapes Go.WideShapes Go.ChangeAt Go.RowKit
open Go.ChangeMaps (open_string shut_string)
set_option linter.unusedVariables false

theorem own : ownKnob Try.prog.godebug = none := by kernel_rfl
theorem laidOut : laidOutB Try.prog = true := by kernel_rfl

set_option maxRecDepth 100000 in
theorem walk (a0 : Int) (a1 : Bool) (a2 : Int) (a3 : ByteArray) (a4 : Bool) (a5_0 a5_1 : ByteArray) (a5_2 : Int) (a5_3 a6 : Bool) (a7 : ByteArray) (a8 : Bool) (a9 : ByteArray) (w : World) (_ : -9223372036854775808 ≤ a0 ∧ a0 ≤ 9223372036854775807) (_ : -9223372036854775808 ≤ a2 ∧ a2 ≤ 9223372036854775807) (_ : a3.size ≤ 140737488351232) (_ : a5_0.size ≤ 140737488351232) (s51 : a5_1.size ≤ 140737488351232) (_ : -9223372036854775808 ≤ a5_2 ∧ a5_2 ≤ 9223372036854775807) (_ : a7.size ≤ 140737488351232) (s9 : a9.size ≤ 140737488351232) :
    Calls Try.prog 7 #[.agg #[.int .i64 a0, .bool a1, .int .i64 a2, .string a3, .bool a4, .string a5_0, .string a5_1, .int .i64 a5_2, .bool a5_3, .bool a6, .string a7, .bool a8, .string a9]] w (Yes w) := by
  have C := fun W => cputs a0 a1 a2 a3 a4 a5_0 a5_1 a5_2 a5_3 a6 a7 a8 a9 W s51 s9
  generalize conP a0 a1 a2 a3 a4 a5_0 a5_1 a5_2 a5_3 a6 a7 a8 a9 = S at *
  obtain ⟨l, E⟩ := S
  simp only at C
  unfold con at C
  replace C := Lib.hid C
  have k0 : Blk (w.alloc (.cells #[.int .i64 a0, .bool a1, .int .i64 a2, .string a3, .bool a4, .string a5_0, .string a5_1, .int .i64 a5_2, .bool a5_3, .bool a6, .string a7, .bool a8, .string a9] 45)) w.heap.size 45 _ := Blk.new w 45 _
  have b0 := Lib.hid (ext_alloc w (.cells #[.int .i64 a0, .bool a1, .int .i64 a2, .string a3, .bool a4, .string a5_0, .string a5_1, .int .i64 a5_2, .bool a5_3, .bool a6, .string a7, .bool a8, .string a9] 45))
  replace k0 := Lib.hid k0
  go_enter Try.func7, Try.ntmps7
  go_wp2_with fail
  refine ((C.out _).1).mono ?_
  rintro e w1 ⟨v1, rfl, n1, b1⟩
  have k1 := k0.out.ext b1
  have c0 : w1.cell? ⟨w.heap.size, 0, none⟩ = some (.int .i64 a0) := (k1.cell 0).trans rfl
  have c1 : w1.cell? ⟨w.heap.size, 1, none⟩ = some (.bool a1) := (k1.cell 1).trans rfl
  have c2 : w1.cell? ⟨w.heap.size, 2, none⟩ = some (.int .i64 a2) := (k1.cell 2).trans rfl
  have c3 : w1.cell? ⟨w.heap.size, 3, none⟩ = some (.string a3) := (k1.cell 3).trans rfl
  have c4 : w1.cell? ⟨w.heap.size, 4, none⟩ = some (.bool a4) := (k1.cell 4).trans rfl
  have c5 : w1.cell? ⟨w.heap.size, 5, none⟩ = some (.string a5_0) := (k1.cell 5).trans rfl
  have c6 : w1.cell? ⟨w.heap.size, 6, none⟩ = some (.string a5_1) := (k1.cell 6).trans rfl
  have c7 : w1.cell? ⟨w.heap.size, 7, none⟩ = some (.int .i64 a5_2) := (k1.cell 7).trans rfl
  have c8 : w1.cell? ⟨w.heap.size, 8, none⟩ = some (.bool a5_3) := (k1.cell 8).trans rfl
  have c9 : w1.cell? ⟨w.heap.size, 9, none⟩ = some (.bool a6) := (k1.cell 9).trans rfl
  have c10 : w1.cell? ⟨w.heap.size, 10, none⟩ = some (.string a7) := (k1.cell 10).trans rfl
  have c11 : w1.cell? ⟨w.heap.size, 11, none⟩ = some (.bool a8) := (k1.cell 11).trans rfl
  have c12 : w1.cell? ⟨w.heap.size, 12, none⟩ = some (.string a9) := (k1.cell 12).trans rfl
  have B1 := Lib.hid (ext_trans b0.out b1)
  replace n1 := Lib.hid n1
  clear b1 k1
  go_wp2_with fail
  refine ((C.out _).2).mono ?_
  rintro e w2 ⟨v2, rfl, n2, b2⟩
  clear c0 c1 c2 c3 c4 c5 c6 c7 c8 c9 c10 c11 c12
  have x1 := (n1.out.keep b2 (Nat.le_refl _)).conv (P := Try.prog) Try.underlying24 Try.underlying5 Try.underlying9
  have x2 := n2.conv (P := Try.prog) Try.underlying24 Try.underlying5 Try.underlying9
  obtain ⟨p1, q1, rfl, -, -⟩ := n1.out
  obtain ⟨p2, q2, rfl, -, -⟩ := n2
  have B2 := Lib.hid (ext_trans B1.out b2)
  clear b2
  go_wp2_with fail
  refine (awake13_any _).mono ?_
  rintro e w3 ⟨rfl, b3⟩
  go_wp2_with fail
  go_ret
  exact ⟨rfl, ext_trans B2.out b3⟩

set_option maxRecDepth 100000 in
theorem lifted (os : Os) (started : os.Started) (H : Type) (enc : TypeId × Value → H) :
    ReturnsInHanded {} Try.checked os 7 .any (Rows.connectPutsSpec.pre6 enc Try.prog Try.f7 Rows.connectPutsRow.domain false) (Rows.connectPutsSpec.post enc Try.prog Try.f7 false true false false) := by
  refine returnsInHanded_of_change_sized (C := Try.checked) own started (by kernel_rfl) Try.func7
    (ChangeSpec.witness6 (enc := enc) (C := Try.checked) false ⟨#[], #[.agg #[.int .i64 0, .bool false, .int .i64 0, .string ByteArray.empty, .bool false, .string ByteArray.empty, .string ByteArray.empty, .int .i64 0, .bool false, .bool false, .string ByteArray.empty, .bool false, .string ByteArray.empty]], []⟩ 8 (by kernel_rfl) (by kernel_rfl) (by kernel_rfl) (by kernel_rfl)) ?_
  intro W base args ds gs before hval0 hW hcnd hsz0 _
  have hsz : (DataW.weightsEach Try.prog (Try.f7.params.toList ++ Rows.connectPutsSpec.plain.varTypes Try.prog) (ds ++ gs)).all (· ≤ reachBytes) = true := hsz0
  have hval : ∀ (j : Nat) t v, Try.f7.params[j]? = some t → args[j]? = some v → Value.okWide Try.prog W .any base t v := hval0
  have hW' := hW
  obtain ⟨p, q, hA0, hV, rfl, hfz, hnd⟩ := hW
  have hA : DataW.TrodAll enc Try.prog W 0 (fun _ => true) true Try.f7.params.toList args.toList ds p := hA0
  rw [Try.params7] at hA hval hsz
  obtain ⟨v0, vs0, d0, ds0, p0, q0, hargs, rfl, rfl, h0, r0⟩ := trodAll_cons hA
  obtain ⟨rfl, rfl, rfl⟩ := trodAll_nil r0
  obtain rfl : args = #[v0] := by cases args; simp_all
  obtain ⟨rfl, rfl⟩ := trodVars_none hV
  have k0 := h0
  have lt0 : ∀ x ∈ p0, x.block < W.heap.size := by obtain ⟨m, hm⟩ := k0; exact DataW.trod_lt m _ _ _ hm
  obtain ⟨cs0, rfl, sz0⟩ := okWide_struct Try.underlying45 (hval 0 45 _ rfl rfl)
  obtain ⟨fu0, hf0⟩ := h0
  obtain ⟨a0_0, a0_1, a0_2, a0_3, a0_4, a0_5_0, a0_5_1, a0_5_2, a0_5_3, a0_6, a0_7, a0_8, a0_9, q0, z0, wa0_0, wa0_2, wa0_5_2⟩ := open_t45 hf0
  obtain rfl : cs0 = #[.int .i64 a0_0, .bool a0_1, .int .i64 a0_2, .string a0_3, .bool a0_4, .string a0_5_0, .string a0_5_1, .int .i64 a0_5_2, .bool a0_5_3, .bool a0_6, .string a0_7, .bool a0_8, .string a0_9] := by
    have := congrArg List.toArray q0
    simpa [Value.cells] using this
  obtain ⟨rfl, rfl⟩ := Prod.mk.inj z0
  have ba0_0 := wf_i64 wa0_0
  have ba0_2 := wf_i64 wa0_2
  have sa0_3 : a0_3.size ≤ 140737488351232 := by
    have hm := List.all_eq_true.1 hsz a0_3.data.toList.length (DataW.weights_mem_each (j := 0) (t := 45) rfl rfl _ (by simp [DataW.weights, DataW.weightsEach, Try.underlying3, Try.underlying4, Try.underlying9, Try.underlying23, Try.underlying45]))
    simp only [Array.length_toList, reachBytes] at hm
    exact of_decide_eq_true hm
  have sa0_5_0 : a0_5_0.size ≤ 140737488351232 := by
    have hm := List.all_eq_true.1 hsz a0_5_0.data.toList.length (DataW.weights_mem_each (j := 0) (t := 45) rfl rfl _ (by simp [DataW.weights, DataW.weightsEach, Try.underlying3, Try.underlying4, Try.underlying9, Try.underlying23, Try.underlying45]))
    simp only [Array.length_toList, reachBytes] at hm
    exact of_decide_eq_true hm
  have sa0_5_1 : a0_5_1.size ≤ 140737488351232 := by
    have hm := List.all_eq_true.1 hsz a0_5_1.data.toList.length (DataW.weights_mem_each (j := 0) (t := 45) rfl rfl _ (by simp [DataW.weights, DataW.weightsEach, Try.underlying3, Try.underlying4, Try.underlying9, Try.underlying23, Try.underlying45]))
    simp only [Array.length_toList, reachBytes] at hm
    exact of_decide_eq_true hm
  have ba0_5_2 := wf_i64 wa0_5_2
  have sa0_7 : a0_7.size ≤ 140737488351232 := by
    have hm := List.all_eq_true.1 hsz a0_7.data.toList.length (DataW.weights_mem_each (j := 0) (t := 45) rfl rfl _ (by simp [DataW.weights, DataW.weightsEach, Try.underlying3, Try.underlying4, Try.underlying9, Try.underlying23, Try.underlying45]))
    simp only [Array.length_toList, reachBytes] at hm
    exact of_decide_eq_true hm
  have sa0_9 : a0_9.size ≤ 140737488351232 := by
    have hm := List.all_eq_true.1 hsz a0_9.data.toList.length (DataW.weights_mem_each (j := 0) (t := 45) rfl rfl _ (by simp [DataW.weights, DataW.weightsEach, Try.underlying3, Try.underlying4, Try.underlying9, Try.underlying23, Try.underlying45]))
    simp only [Array.length_toList, reachBytes] at hm
    exact of_decide_eq_true hm
  clear hA0 hval0 hsz0
  refine (walk a0_0 a0_1 a0_2 a0_3 a0_4 a0_5_0 a0_5_1 a0_5_2 a0_5_3 a0_6 a0_7 a0_8 a0_9 W ba0_0 ba0_2 sa0_3 sa0_5_0 sa0_5_1 ba0_5_2 sa0_7 sa0_9).mono fun e W' ⟨he, bel⟩ => ?_
  subst he
  exact ⟨_, rfl, _, _, _, [], _, [], hW', trodAll_mk1 (shut_bool Try.underlying4 _), (trodAll_cons_mk (Below.trod laidOut (by kernel_rfl) (of_decide_eq_true (by kernel_rfl)) k0 bel lt0) trodAll_mk0), rfl, bel.frame _, fun h => by cases h⟩

theorem over : Rows.connectPutsRow.holds Try.pinned (OpenSpec.ofChange Rows.connectPutsSpec) :=
  OpenClaim.holds_of_wide 7 Try.f7 rfl rfl rfl rfl rfl rfl rfl ⟨rfl, rfl, rfl, rfl, rfl⟩ rfl rfl rfl rfl rfl (by kernel_rfl) Try.func7 (by kernel_rfl)
    (of_decide_eq_true (by kernel_rfl)) (by unfold Func.isWrapper; first | (rw [if_pos (by decide +kernel)]; kernel_rfl) | (rw [if_neg (by decide +kernel)]; exact ⟨rfl, rfl⟩))
    (fun os started H enc _ => lifted os started H enc)

theorem proved : Rows.ConnectPutsSaid := over
end Go.Proofs.Ytkihhnndidaloaa.connectPuts
