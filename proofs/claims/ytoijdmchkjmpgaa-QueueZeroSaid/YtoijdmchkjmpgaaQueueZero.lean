/-
  QueueZero: FOR EVERY INPUT the law returns true and leaves its arguments as they were.
-/
import Derived.Test.YtoijdmchkjmpgaaQe
import Derived.Test.YtoijdmchkjmpgaaByt
import Derived.Test.YtoijdmchkjmpgaaRows
import Derived.WalkKit
import Derived.ProofKit
import Derived.OpenShut
import Derived.ShutString
import Derived.ChangeOld
import Derived.Below
import Derived.SizedLaws
import Derived.Lib.SmallJoins
namespace Go.Proofs.Ytoijdmchkjmpgaa.queueZero
open Go.ChangeShapes Go.WideShapes Go.ChangeAt Go.RowKit
open Go.ChangeMaps (open_string shut_string)
set_option linter.unusedVariables false

theorem own : ownKnob Try.prog.godebug = none := by kernel_rfl
theorem laidOut : laidOutB Try.prog = true := by kernel_rfl

open Que
set_option maxHeartbeats 4000000 in
set_option maxRecDepth 100000 in
theorem walk (t x : ByteArray) (q : Int) (r : Bool) (w : World) (_ht : t.size ≤ 140737488351232) (_hx : x.size ≤ 140737488351232) (_hq : -9223372036854775808 ≤ q ∧ q ≤ 9223372036854775807) :
    Calls Try.prog 9 #[.agg #[.string t, .string x, .int .i64 q, .bool r]] w (Yes w) := by
  clear _ht _hx _hq
  have hz0 : ((w.alloc (.cells #[.string t, .string x, .int .i64 q, .bool r] 53)).alloc (.cells #[.chan none, .int .i64 0] 73)).cell? ⟨w.heap.size + 1, 0, none⟩ = some (.chan none) := by
    have := cell_of_row ((w.alloc (.cells #[.string t, .string x, .int .i64 q, .bool r] 53)).alloc (.cells #[.chan none, .int .i64 0] 73)) (w.heap.size + 1) 0 _ 73 (0, 0) (by simpa only [World.size_alloc] using heap_alloc_new (w.alloc (.cells #[.string t, .string x, .int .i64 q, .bool r] 53)) (.cells #[.chan none, .int .i64 0] 73))
    exact this
  have M00 : ((w.alloc (.cells #[.string t, .string x, .int .i64 q, .bool r] 53)).alloc (.cells #[.chan none, .int .i64 0] 73)).heap[w.heap.size]? = some (.cells #[.string t, .string x, .int .i64 q, .bool r] 53 (0, 0)) := by rw [heap_alloc_old _ _ (by simp)]; exact heap_alloc_new w _
  have M00 : ((w.alloc (.cells #[.string t, .string x, .int .i64 q, .bool r] 53)).alloc (.cells #[.chan none, .int .i64 0] 73)).heap[w.heap.size]? = some (.cells #[.string t, .string x, .int .i64 q, .bool r] 53 (0, 0)) := by rw [heap_alloc_old _ _ (by simp)]; exact heap_alloc_new w _
  have M00 : ((w.alloc (.cells #[.string t, .string x, .int .i64 q, .bool r] 53)).alloc (.cells #[.chan none, .int .i64 0] 73)).heap[w.heap.size]? = some (.cells #[.string t, .string x, .int .i64 q, .bool r] 53 (0, 0)) := by rw [heap_alloc_old _ _ (by simp)]; exact heap_alloc_new w _
  have M00 : ((w.alloc (.cells #[.string t, .string x, .int .i64 q, .bool r] 53)).alloc (.cells #[.chan none, .int .i64 0] 73)).heap[w.heap.size]? = some (.cells #[.string t, .string x, .int .i64 q, .bool r] 53 (0, 0)) := by rw [heap_alloc_old _ _ (by simp)]; exact heap_alloc_new w _
  have NZ := Lib.hid (fun W hb => (noQ_zero (by simp) hz0).keep (w' := W) hb)
  have B0 := Lib.hid (ext_two w (.cells #[.string t, .string x, .int .i64 q, .bool r] 53) (.cells #[.chan none, .int .i64 0] 73))
  clear hz0
  have hZ : mZ.v = .agg #[.string { data := #[] }, .string { data := #[] }, .int .i64 0, .bool false] := rfl
  have hZ : mZ.v = .agg #[.string { data := #[] }, .string { data := #[] }, .int .i64 0, .bool false] := rfl
  have hZ : mZ.v = .agg #[.string { data := #[] }, .string { data := #[] }, .int .i64 0, .bool false] := rfl
  have hZ : mZ.v = .agg #[.string { data := #[] }, .string { data := #[] }, .int .i64 0, .bool false] := rfl
  have hZ : mZ.v = .agg #[.string { data := #[] }, .string { data := #[] }, .int .i64 0, .bool false] := rfl
  go_enter Try.func9, Try.ntmps9
  go_wp2_with fail
  generalize (w.alloc (.cells #[.string t, .string x, .int .i64 q, .bool r] 53)).alloc (.cells #[.chan none, .int .i64 0] 73) = W0 at *
  have M0 := Lib.hid M00
  clear M00
  refine (take_0 (noQ_nil _)).mono ?_
  rintro e w1 ⟨rfl, b1⟩
  have B1 := Lib.hid (b1.alloc b1.size (.cells #[.string { data := #[] }, .string { data := #[] }, .int .i64 0, .bool false] 53))
  have S1 := heap_alloc_new w1 (.cells #[.string { data := #[] }, .string { data := #[] }, .int .i64 0, .bool false] 53)
  clear b1
  go_wp2_with fail
  refine (take_0 (NZ.out _ B1.out)).mono ?_
  rintro e w2 ⟨rfl, b2⟩
  have B2 := Lib.hid ((ext_trans B1.out b2).alloc (Nat.le_trans B1.out.size b2.size) (.cells #[.string { data := #[] }, .string { data := #[] }, .int .i64 0, .bool false] 53))
  have r1 := ((ext_trans b2 (ext_alloc w2 (.cells #[.string { data := #[] }, .string { data := #[] }, .int .i64 0, .bool false] 53))).block w1.heap.size (by simp)).trans S1
  have r2 := heap_alloc_new w2 (.cells #[.string { data := #[] }, .string { data := #[] }, .int .i64 0, .bool false] 53)
  have r0 := (B2.out.block w.heap.size (by have := (Array.getElem?_eq_some_iff.1 M0.out).1; exact this)).trans M0.out
  have q1 := (b2.block w1.heap.size (by simp)).trans S1
  have q0 := (b2.block w.heap.size (by have := (Array.getElem?_eq_some_iff.1 M0.out).1; have := B1.out.size; omega)).trans ((B1.out.block w.heap.size (Array.getElem?_eq_some_iff.1 M0.out).1).trans M0.out)
  have l1 : w1.heap.size < w2.heap.size := (Array.getElem?_eq_some_iff.1 q1).1
  have l0 : w.heap.size < w2.heap.size := (Array.getElem?_eq_some_iff.1 q0).1
  have d0 : w2.cell? ⟨w1.heap.size, 0, none⟩ = some (.string { data := #[] }) := cell_of_row _ _ 0 _ 53 (0, 0) q1
  have d1 : w2.cell? ⟨w1.heap.size, 1, none⟩ = some (.string { data := #[] }) := cell_of_row _ _ 1 _ 53 (0, 0) q1
  have d2 : w2.cell? ⟨w1.heap.size, 2, none⟩ = some (.int .i64 0) := cell_of_row _ _ 2 _ 53 (0, 0) q1
  have d3 : w2.cell? ⟨w1.heap.size, 3, none⟩ = some (.bool false) := cell_of_row _ _ 3 _ 53 (0, 0) q1
  have a0 : w2.cell? ⟨w.heap.size, 0, none⟩ = some (.string t) := cell_of_row _ _ 0 _ 53 (0, 0) q0
  have a1 : w2.cell? ⟨w.heap.size, 1, none⟩ = some (.string x) := cell_of_row _ _ 1 _ 53 (0, 0) q0
  have a2 : w2.cell? ⟨w.heap.size, 2, none⟩ = some (.int .i64 q) := cell_of_row _ _ 2 _ 53 (0, 0) q0
  have a3 : w2.cell? ⟨w.heap.size, 3, none⟩ = some (.bool r) := cell_of_row _ _ 3 _ 53 (0, 0) q0
  have R0 := Lib.hid (fun W (hb : Below (w2.alloc (.cells #[.string { data := #[] }, .string { data := #[] }, .int .i64 0, .bool false] 53)).heap.size (w2.alloc (.cells #[.string { data := #[] }, .string { data := #[] }, .int .i64 0, .bool false] 53)) W) => (hb.block w.heap.size (Array.getElem?_eq_some_iff.1 r0).1).trans r0)
  clear S1 b2 r0 r1 r2 q1 q0
  go_wp2_with fail
  have B2' := Lib.hid (Below.refl (w2.alloc (.cells #[.string { data := #[] }, .string { data := #[] }, .int .i64 0, .bool false] 53)).heap.size (w2.alloc (.cells #[.string { data := #[] }, .string { data := #[] }, .int .i64 0, .bool false] 53)))
  generalize w2.alloc (.cells #[.string { data := #[] }, .string { data := #[] }, .int .i64 0, .bool false] 53) = W2 at *
  refine (put_0 (noQ_nil _) ⟨t, x, q, r⟩).mono ?_
  rintro e w3 ⟨rfl, b3⟩
  have r3 := R0.out _ b3
  have a0 : w3.cell? ⟨w.heap.size, 0, none⟩ = some (.string t) := cell_of_row _ _ 0 _ 53 (0, 0) r3
  have a1 : w3.cell? ⟨w.heap.size, 1, none⟩ = some (.string x) := cell_of_row _ _ 1 _ 53 (0, 0) r3
  have a2 : w3.cell? ⟨w.heap.size, 2, none⟩ = some (.int .i64 q) := cell_of_row _ _ 2 _ 53 (0, 0) r3
  have a3 : w3.cell? ⟨w.heap.size, 3, none⟩ = some (.bool r) := cell_of_row _ _ 3 _ 53 (0, 0) r3
  replace b3 := Lib.hid b3
  clear r3
  go_wp2_with fail
  refine (put_0 (NZ.out _ (ext_trans B2.out b3.out)) ⟨t, x, q, r⟩).mono ?_
  rintro e w4 ⟨rfl, b4⟩
  have B4 := Lib.hid (ext_trans (ext_trans B2.out b3.out) b4)
  clear b4
  go_wp2_with fail
  refine (full_0 (noQ_nil _)).mono ?_
  rintro e w5 ⟨k, rfl, rfl⟩
  go_wp2_with fail
  refine (full_0 (NZ.out _ (below_drewN B4.out _))).mono ?_
  rintro e w5 ⟨k2, rfl, rfl⟩
  have B5 := Lib.hid (below_drewN B4.out (k + k2))
  clear B4
  go_wp2_with fail
  refine (len_0 (noQ_nil _)).mono ?_
  rintro e w5 ⟨rfl, rfl⟩
  go_wp2_with fail
  generalize w4.drewN (k + k2) = w5 at *
  refine (len_0 (NZ.out _ B5.out)).mono ?_
  rintro e w6 ⟨rfl, rfl⟩
  go_wp2_with fail
  refine (lost_0 (noQ_nil _)).mono ?_
  rintro e w6 ⟨rfl, rfl⟩
  go_wp2_with fail
  refine (lost_0 (NZ.out _ B5.out)).mono ?_
  rintro e w6 ⟨rfl, rfl⟩
  go_wp2_with fail
  refine (clear_0 (noQ_nil _)).mono ?_
  rintro e w6 ⟨rfl, rfl⟩
  go_wp2_with fail
  refine (clear_0 (NZ.out _ B5.out)).mono ?_
  rintro e w6 ⟨rfl, rfl⟩
  go_wp2_with fail
  refine (all_0 (noQ_nil _)).mono ?_
  rintro e w6 ⟨rfl, rfl⟩
  go_wp2_with fail
  refine (all_0 (NZ.out _ B5.out)).mono ?_
  rintro e w6 ⟨rfl, rfl⟩
  go_wp2_with fail
  refine (move_0 (NZ.out _ B5.out)).mono ?_
  rintro e w6 ⟨rfl, rfl⟩
  go_wp2_with fail
  refine (awake22_any _).mono ?_
  rintro e w6 ⟨rfl, b6⟩
  go_wp2
  go_ret
  exact ⟨rfl, ext_trans (ext_trans B0.out B5.out) b6⟩

set_option maxRecDepth 100000 in
theorem lifted (os : Os) (started : os.Started) (H : Type) (enc : TypeId × Value → H) :
    ReturnsInHanded {} Try.checked os 9 .any (Rows.queueZeroSpec.pre6 enc Try.prog Try.f9 Rows.queueZeroRow.domain false) (Rows.queueZeroSpec.post enc Try.prog Try.f9 false true false false) := by
  refine returnsInHanded_of_change_sized (C := Try.checked) own started (by kernel_rfl) Try.func9
    (ChangeSpec.witness6 (enc := enc) (C := Try.checked) false ⟨#[], #[.agg #[.string ByteArray.empty, .string ByteArray.empty, .int .i64 0, .bool false]], []⟩ 8 (by kernel_rfl) (by kernel_rfl) (by kernel_rfl) (by kernel_rfl)) ?_
  intro W base args ds gs before hval0 hW hcnd hsz0 _
  have hsz : (DataW.weightsEach Try.prog (Try.f9.params.toList ++ Rows.queueZeroSpec.plain.varTypes Try.prog) (ds ++ gs)).all (· ≤ reachBytes) = true := hsz0
  have hval : ∀ (j : Nat) t v, Try.f9.params[j]? = some t → args[j]? = some v → Value.okWide Try.prog W .any base t v := hval0
  have hW' := hW
  obtain ⟨p, q, hA0, hV, rfl, hfz, hnd⟩ := hW
  have hA : DataW.TrodAll enc Try.prog W 0 (fun _ => true) true Try.f9.params.toList args.toList ds p := hA0
  rw [Try.params9] at hA hval hsz
  obtain ⟨v0, vs0, d0, ds0, p0, q0, hargs, rfl, rfl, h0, r0⟩ := trodAll_cons hA
  obtain ⟨rfl, rfl, rfl⟩ := trodAll_nil r0
  obtain rfl : args = #[v0] := by cases args; simp_all
  obtain ⟨rfl, rfl⟩ := trodVars_none hV
  have k0 := h0
  have lt0 : ∀ x ∈ p0, x.block < W.heap.size := by obtain ⟨m, hm⟩ := k0; exact DataW.trod_lt m _ _ _ hm
  obtain ⟨x0_0, x0_1, x0_2, x0_3, y0_0, y0_1, y0_2, y0_3, n0, rfl, rfl, rfl, t0_0, t0_1, t0_2, t0_3⟩ := Joins.open_agg4 Try.underlying53 (by kernel_rfl) (by kernel_rfl) (hval 0 53 _ rfl rfl) h0
  obtain ⟨a0_0, q0_0, z0_0, w0_0⟩ := DataW.trod_string Try.underlying9 t0_0
  obtain rfl : x0_0 = .string a0_0 := by simpa using q0_0
  have s0_0 : a0_0.size ≤ 140737488351232 := by
    have hm := List.all_eq_true.1 hsz a0_0.data.toList.length (DataW.weights_mem_each (j := 0) (t := 53) rfl rfl _ (by rw [z0_0]; simp [DataW.weights, Try.underlying53, DataW.weightsEach]))
    simp only [Array.length_toList, reachBytes] at hm
    exact of_decide_eq_true hm
  obtain ⟨a0_1, q0_1, z0_1, w0_1⟩ := DataW.trod_string Try.underlying9 t0_1
  obtain rfl : x0_1 = .string a0_1 := by simpa using q0_1
  have s0_1 : a0_1.size ≤ 140737488351232 := by
    have hm := List.all_eq_true.1 hsz a0_1.data.toList.length (DataW.weights_mem_each (j := 0) (t := 53) rfl rfl _ (by rw [z0_1]; simp [DataW.weights, Try.underlying53, DataW.weightsEach]))
    simp only [Array.length_toList, reachBytes] at hm
    exact of_decide_eq_true hm
  obtain ⟨a0_2, q0_2, z0_2, w0_2⟩ := DataW.trod_int Try.underlying3 t0_2
  obtain rfl : x0_2 = .int .i64 a0_2 := by simpa using q0_2
  have b0_2 := wf_i64 w0_2
  obtain ⟨a0_3, q0_3, z0_3⟩ := DataW.trod_bool Try.underlying4 t0_3
  obtain rfl : x0_3 = .bool a0_3 := by simpa using q0_3
  clear hA0 hval0 hsz0
  refine (walk a0_0 a0_1 a0_2 a0_3 W s0_0 s0_1 b0_2).mono fun e W' ⟨he, bel⟩ => ?_
  subst he
  exact ⟨_, rfl, _, _, _, [], _, [], hW', trodAll_mk1 (shut_bool Try.underlying4 _), (trodAll_cons_mk (Below.trod laidOut (by kernel_rfl) (of_decide_eq_true (by kernel_rfl)) k0 bel lt0) trodAll_mk0), rfl, bel.frame _, fun h => by cases h⟩

theorem over : Rows.queueZeroRow.holds Try.pinned (OpenSpec.ofChange Rows.queueZeroSpec) :=
  OpenClaim.holds_of_wide 9 Try.f9 rfl rfl rfl rfl rfl rfl rfl ⟨rfl, rfl, rfl, rfl, rfl⟩ rfl rfl rfl rfl rfl (by kernel_rfl) Try.func9 (by kernel_rfl)
    (of_decide_eq_true (by kernel_rfl)) (by unfold Func.isWrapper; first | (rw [if_pos (by decide +kernel)]; kernel_rfl) | (rw [if_neg (by decide +kernel)]; exact ⟨rfl, rfl⟩))
    (fun os started H enc _ => lifted os started H enc)

theorem proved : Rows.QueueZeroSaid := over
end Go.Proofs.Ytoijdmchkjmpgaa.queueZero
