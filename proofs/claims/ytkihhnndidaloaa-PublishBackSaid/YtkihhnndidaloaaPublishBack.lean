/-
  PublishBack: FOR EVERY INPUT the law returns true and leaves its arguments as they were.
-/
import Derived.Test.YtkihhnndidaloaaPm
import Derived.Test.YtkihhnndidaloaaRows
import Derived.WalkKit
import Derived.ProofKit
import Derived.OpenShut
import Derived.ShutString
import Derived.ChangeOld
import Derived.Below
import Derived.SizedLaws
import Derived.Lib.SmallJoins
namespace Go.Proofs.Ytkihhnndidaloaa.publishBack
open Go.ChangeShapes Go.WideShapes Go.ChangeAt Go.RowKit
open Go.ChangeMaps (open_string shut_string)
set_option linter.unusedVariables false

theorem own : ownKnob Try.prog.godebug = none := by kernel_rfl
theorem laidOut : laidOutB Try.prog = true := by kernel_rfl

theorem walk (t x : ByteArray) (q : Int) (r : Bool) (id : Int) (w : World) (s0 : t.size ≤ 140737488351232) (s1 : x.size ≤ 140737488351232) (b2 : -9223372036854775808 ≤ q ∧ q ≤ 9223372036854775807) (b3 : -9223372036854775808 ≤ id ∧ id ≤ 9223372036854775807) :
    Calls Try.prog 5 #[.agg #[.string t, .string x, .int .i64 q, .bool r], .int .i64 id] w (Yes w) := back14_any t x q id r w s0 s1

set_option maxRecDepth 100000 in
theorem lifted (os : Os) (started : os.Started) (H : Type) (enc : TypeId × Value → H) :
    ReturnsInHanded {} Try.checked os 5 .any (Rows.publishBackSpec.pre6 enc Try.prog Try.f5 Rows.publishBackRow.domain false) (Rows.publishBackSpec.post enc Try.prog Try.f5 false true false false) := by
  refine returnsInHanded_of_change_sized (C := Try.checked) own started (by kernel_rfl) Try.func5
    (ChangeSpec.witness6 (enc := enc) (C := Try.checked) false ⟨#[], #[.agg #[.string ByteArray.empty, .string ByteArray.empty, .int .i64 0, .bool false], .int .i64 0], []⟩ 8 (by kernel_rfl) (by kernel_rfl) (by kernel_rfl) (by kernel_rfl)) ?_
  intro W base args ds gs before hval0 hW hcnd hsz0 _
  have hsz : (DataW.weightsEach Try.prog (Try.f5.params.toList ++ Rows.publishBackSpec.plain.varTypes Try.prog) (ds ++ gs)).all (· ≤ reachBytes) = true := hsz0
  have hval : ∀ (j : Nat) t v, Try.f5.params[j]? = some t → args[j]? = some v → Value.okWide Try.prog W .any base t v := hval0
  have hW' := hW
  obtain ⟨p, q, hA0, hV, rfl, hfz, hnd⟩ := hW
  have hA : DataW.TrodAll enc Try.prog W 0 (fun _ => true) true Try.f5.params.toList args.toList ds p := hA0
  rw [Try.params5] at hA hval hsz
  obtain ⟨v0, vs0, d0, ds0, p0, q0, hargs, rfl, rfl, h0, r0⟩ := trodAll_cons hA
  obtain ⟨v1, vs1, d1, ds1, p1, q1, rfl, rfl, rfl, h1, r1⟩ := trodAll_cons r0
  obtain ⟨rfl, rfl, rfl⟩ := trodAll_nil r1
  obtain rfl : args = #[v0, v1] := by cases args; simp_all
  obtain ⟨rfl, rfl⟩ := trodVars_none hV
  have k0 := h0
  have lt0 : ∀ x ∈ p0, x.block < W.heap.size := by obtain ⟨m, hm⟩ := k0; exact DataW.trod_lt m _ _ _ hm
  have k1 := h1
  have lt1 : ∀ x ∈ p1, x.block < W.heap.size := by obtain ⟨m, hm⟩ := k1; exact DataW.trod_lt m _ _ _ hm
  obtain ⟨x0_0, x0_1, x0_2, x0_3, y0_0, y0_1, y0_2, y0_3, n0, rfl, rfl, rfl, t0_0, t0_1, t0_2, t0_3⟩ := Joins.open_agg4 Try.underlying23 (by kernel_rfl) (by kernel_rfl) (hval 0 23 _ rfl rfl) h0
  obtain ⟨a0_0, q0_0, z0_0, w0_0⟩ := DataW.trod_string Try.underlying9 t0_0
  obtain rfl : x0_0 = .string a0_0 := by simpa using q0_0
  have s0_0 : a0_0.size ≤ 140737488351232 := by
    have hm := List.all_eq_true.1 hsz a0_0.data.toList.length (DataW.weights_mem_each (j := 0) (t := 23) rfl rfl _ (by rw [z0_0]; simp [DataW.weights, Try.underlying23, DataW.weightsEach]))
    simp only [Array.length_toList, reachBytes] at hm
    exact of_decide_eq_true hm
  obtain ⟨a0_1, q0_1, z0_1, w0_1⟩ := DataW.trod_string Try.underlying9 t0_1
  obtain rfl : x0_1 = .string a0_1 := by simpa using q0_1
  have s0_1 : a0_1.size ≤ 140737488351232 := by
    have hm := List.all_eq_true.1 hsz a0_1.data.toList.length (DataW.weights_mem_each (j := 0) (t := 23) rfl rfl _ (by rw [z0_1]; simp [DataW.weights, Try.underlying23, DataW.weightsEach]))
    simp only [Array.length_toList, reachBytes] at hm
    exact of_decide_eq_true hm
  obtain ⟨a0_2, q0_2, z0_2, w0_2⟩ := DataW.trod_int Try.underlying3 t0_2
  obtain rfl : x0_2 = .int .i64 a0_2 := by simpa using q0_2
  have b0_2 := wf_i64 w0_2
  obtain ⟨a0_3, q0_3, z0_3⟩ := DataW.trod_bool Try.underlying4 t0_3
  obtain rfl : x0_3 = .bool a0_3 := by simpa using q0_3
  obtain ⟨a1, rfl, rfl, rfl, w1⟩ := open_int Try.underlying3 (hval 1 3 v1 rfl rfl) h1
  have b1 := wf_i64 w1
  clear hA0 hval0 hsz0
  refine (walk a0_0 a0_1 a0_2 a0_3 a1 W s0_0 s0_1 b0_2 b1).mono fun e W' ⟨he, bel⟩ => ?_
  subst he
  exact ⟨_, rfl, _, _, _, [], _, [], hW', trodAll_mk1 (shut_bool Try.underlying4 _), (trodAll_cons_mk (Below.trod laidOut (by kernel_rfl) (of_decide_eq_true (by kernel_rfl)) k0 bel lt0) (trodAll_cons_mk (Below.trod laidOut (by kernel_rfl) (of_decide_eq_true (by kernel_rfl)) k1 bel lt1) trodAll_mk0)), rfl, bel.frame _, fun h => by cases h⟩

theorem over : Rows.publishBackRow.holds Try.pinned (OpenSpec.ofChange Rows.publishBackSpec) :=
  OpenClaim.holds_of_wide 5 Try.f5 rfl rfl rfl rfl rfl rfl rfl ⟨rfl, rfl, rfl, rfl, rfl⟩ rfl rfl rfl rfl rfl (by kernel_rfl) Try.func5 (by kernel_rfl)
    (of_decide_eq_true (by kernel_rfl)) (by unfold Func.isWrapper; first | (rw [if_pos (by decide +kernel)]; kernel_rfl) | (rw [if_neg (by decide +kernel)]; exact ⟨rfl, rfl⟩))
    (fun os started H enc _ => lifted os started H enc)

theorem proved : Rows.PublishBackSaid := over
end Go.Proofs.Ytkihhnndidaloaa.publishBack
