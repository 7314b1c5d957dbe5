/-
  FlightZero: FOR EVERY INPUT the law returns true and leaves its arguments as they were.
-/
import Derived.Test.YtcjoemejoeekiaaFg
import Derived.Test.YtcjoemejoeekiaaByt
import Derived.Test.YtcjoemejoeekiaaRows
import Derived.WalkKit
import Derived.ProofKit
import Derived.OpenShut
import Derived.ShutString
import Derived.ChangeOld
import Derived.Below
import Derived.SizedLaws
import Derived.Lib.SmallJoins
namespace Go.Proofs.Ytcjoemejoeekiaa.flightZero
open Go.ChangeShapes Go.WideShapes Go.ChangeAt Go.RowKit
open Go.ChangeMaps (open_string shut_string)
set_option linter.unusedVariables false

theorem own : ownKnob Try.prog.godebug = none := by kernel_rfl
theorem laidOut : laidOutB Try.prog = true := by kernel_rfl

open Fli Que Ids
set_option maxHeartbeats 8000000 in
set_option maxRecDepth 100000 in
theorem walk (t x : ByteArray) (q : Int) (r : Bool) (n : Int) (w : World) (_ht : t.size ≤ 140737488351232) (_hx : x.size ≤ 140737488351232) (_hq : -9223372036854775808 ≤ q ∧ q ≤ 9223372036854775807) (_hn : -9223372036854775808 ≤ n ∧ n ≤ 9223372036854775807) :
    Calls Try.prog 11 #[.agg #[.string t, .string x, .int .i64 q, .bool r], .int .i64 n] w (Yes w) := by
  clear _ht _hx _hq _hn
  have M0 : ((w.alloc (.cells #[.string t, .string x, .int .i64 q, .bool r] 65)).alloc (.cells #[.pointer none, .slice none 0 0] 87)).heap[w.heap.size]? = some (.cells #[.string t, .string x, .int .i64 q, .bool r] 65 (0, 0)) := by rw [heap_alloc_old _ _ (by simp)]; exact heap_alloc_new w _
  have Z0 : ((w.alloc (.cells #[.string t, .string x, .int .i64 q, .bool r] 65)).alloc (.cells #[.pointer none, .slice none 0 0] 87)).heap[w.heap.size + 1]? = some (.cells #[.pointer none, .slice none 0 0] 87 (0, 0)) := by
    have := heap_alloc_new (w.alloc (.cells #[.string t, .string x, .int .i64 q, .bool r] 65)) (.cells #[.pointer none, .slice none 0 0] 87)
    simpa using this
  have B0 := Lib.hid (ext_two w (.cells #[.string t, .string x, .int .i64 q, .bool r] 65) (.cells #[.pointer none, .slice none 0 0] 87))
  go_enter Try.func11, Try.ntmps11
  go_wp2_with fail
  generalize (w.alloc (.cells #[.string t, .string x, .int .i64 q, .bool r] 65)).alloc (.cells #[.pointer none, .slice none 0 0] 87) = W0 at *
  have MB := Lib.hid (fun W (hW : Below W0.heap.size W0 W) => (hW.block w.heap.size (Array.getElem?_eq_some_iff.1 M0).1).trans M0)
  have NZ : Hid (∀ W, Below W0.heap.size W0 W → No W (.pointer (some ⟨w.heap.size + 1, 0, none⟩))) := Lib.hid fun W hW => .inr ⟨_, rfl, cell_of_row W _ 0 _ 87 (0, 0) ((hW.block _ (Array.getElem?_eq_some_iff.1 Z0).1).trans Z0)⟩
  have a0 := cell_of_row W0 w.heap.size 0 _ 65 (0, 0) M0
  have a1 := cell_of_row W0 w.heap.size 1 _ 65 (0, 0) M0
  have a2 := cell_of_row W0 w.heap.size 2 _ 65 (0, 0) M0
  have a3 := cell_of_row W0 w.heap.size 3 _ 65 (0, 0) M0
  simp at a0 a1 a2 a3
  clear M0 Z0
  go_wp2_with fail
  refine (send_0 (.inl rfl) t x q r).mono ?_
  rintro e w1 ⟨rfl, b1⟩
  have M1 := MB.out _ b1
  have c0 := cell_of_row w1 w.heap.size 0 _ 65 (0, 0) M1
  have c1 := cell_of_row w1 w.heap.size 1 _ 65 (0, 0) M1
  have c2 := cell_of_row w1 w.heap.size 2 _ 65 (0, 0) M1
  have c3 := cell_of_row w1 w.heap.size 3 _ 65 (0, 0) M1
  simp at c0 c1 c2 c3
  have B1 := Lib.hid b1
  clear b1 M1 a0 a1 a2 a3
  go_wp2_with fail
  refine (send_0 (NZ.out _ B1.out) t x q r).mono ?_
  rintro e w2 ⟨rfl, b2⟩
  have B2 := Lib.hid (ext_trans B1.out b2)
  clear b2 c0 c1 c2 c3 B1
  go_wp2_with fail
  refine (ack_0 (.inl rfl) n).mono ?_
  rintro e w3 ⟨rfl, b3⟩
  have B3 := Lib.hid (ext_trans B2.out b3)
  clear b3 B2
  go_wp2_with fail
  refine (rec_0 (NZ.out _ B3.out) n).mono ?_
  rintro e w4 ⟨rfl, b4⟩
  have B4 := Lib.hid (ext_trans B3.out b4)
  clear b4 B3
  go_wp2_with fail
  refine (comp_0 (.inl rfl) n).mono ?_
  rintro e w5 ⟨rfl, b5⟩
  have B5 := Lib.hid (ext_trans B4.out b5)
  clear b5 B4
  go_wp2_with fail
  refine (ack_0 (NZ.out _ B5.out) n).mono ?_
  rintro e w6 ⟨rfl, b6⟩
  have B6 := Lib.hid (ext_trans B5.out b6)
  clear b6 B5
  go_wp2_with fail
  refine (all_0 (.inl rfl)).mono ?_
  rintro e w7 ⟨rfl, rfl⟩
  go_wp2_with fail
  refine (again_0 (NZ.out _ B6.out)).mono ?_
  rintro e w7 ⟨rfl, rfl⟩
  go_wp2_with fail
  refine (len_0 (.inl rfl)).mono ?_
  rintro e w7 ⟨rfl, rfl⟩
  go_wp2_with fail
  refine (len_0 (NZ.out _ B6.out)).mono ?_
  rintro e w7 ⟨rfl, rfl⟩
  go_wp2_with fail
  refine (awake23_any _).mono ?_
  rintro e w8 ⟨rfl, b8⟩
  go_wp2
  go_ret
  exact ⟨rfl, ext_trans (ext_trans B0.out B6.out) b8⟩

set_option maxRecDepth 100000 in
theorem lifted (os : Os) (started : os.Started) (H : Type) (enc : TypeId × Value → H) :
    ReturnsInHanded {} Try.checked os 11 .any (Rows.flightZeroSpec.pre6 enc Try.prog Try.f11 Rows.flightZeroRow.domain false) (Rows.flightZeroSpec.post enc Try.prog Try.f11 false true false false) := by
  refine returnsInHanded_of_change_sized (C := Try.checked) own started (by kernel_rfl) Try.func11
    (ChangeSpec.witness6 (enc := enc) (C := Try.checked) false ⟨#[], #[.agg #[.string ByteArray.empty, .string ByteArray.empty, .int .i64 0, .bool false], .int .i64 0], []⟩ 8 (by kernel_rfl) (by kernel_rfl) (by kernel_rfl) (by kernel_rfl)) ?_
  intro W base args ds gs before hval0 hW hcnd hsz0 _
  have hsz : (DataW.weightsEach Try.prog (Try.f11.params.toList ++ Rows.flightZeroSpec.plain.varTypes Try.prog) (ds ++ gs)).all (· ≤ reachBytes) = true := hsz0
  have hval : ∀ (j : Nat) t v, Try.f11.params[j]? = some t → args[j]? = some v → Value.okWide Try.prog W .any base t v := hval0
  have hW' := hW
  obtain ⟨p, q, hA0, hV, rfl, hfz, hnd⟩ := hW
  have hA : DataW.TrodAll enc Try.prog W 0 (fun _ => true) true Try.f11.params.toList args.toList ds p := hA0
  rw [Try.params11] at hA hval hsz
  obtain ⟨v0, vs0, d0, ds0, p0, q0, hargs, rfl, rfl, h0, r0⟩ := trodAll_cons hA
  obtain ⟨v1, vs1, d1, ds1, p1, q1, rfl, rfl, rfl, h1, r1⟩ := trodAll_cons r0
  obtain ⟨rfl, rfl, rfl⟩ := trodAll_nil r1
  obtain rfl : args = #[v0, v1] := by cases args; simp_all
  obtain ⟨rfl, rfl⟩ := trodVars_none hV
  have k0 := h0
  have lt0 : ∀ x ∈ p0, x.block < W.heap.size := by obtain ⟨m, hm⟩ := k0; exact DataW.trod_lt m _ _ _ hm
  have k1 := h1
  have lt1 : ∀ x ∈ p1, x.block < W.heap.size := by obtain ⟨m, hm⟩ := k1; exact DataW.trod_lt m _ _ _ hm
  obtain ⟨x0_0, x0_1, x0_2, x0_3, y0_0, y0_1, y0_2, y0_3, n0, rfl, rfl, rfl, t0_0, t0_1, t0_2, t0_3⟩ := Joins.open_agg4 Try.underlying65 (by kernel_rfl) (by kernel_rfl) (hval 0 65 _ rfl rfl) h0
  obtain ⟨a0_0, q0_0, z0_0, w0_0⟩ := DataW.trod_string Try.underlying9 t0_0
  obtain rfl : x0_0 = .string a0_0 := by simpa using q0_0
  have s0_0 : a0_0.size ≤ 140737488351232 := by
    have hm := List.all_eq_true.1 hsz a0_0.data.toList.length (DataW.weights_mem_each (j := 0) (t := 65) rfl rfl _ (by rw [z0_0]; simp [DataW.weights, Try.underlying65, DataW.weightsEach]))
    simp only [Array.length_toList, reachBytes] at hm
    exact of_decide_eq_true hm
  obtain ⟨a0_1, q0_1, z0_1, w0_1⟩ := DataW.trod_string Try.underlying9 t0_1
  obtain rfl : x0_1 = .string a0_1 := by simpa using q0_1
  have s0_1 : a0_1.size ≤ 140737488351232 := by
    have hm := List.all_eq_true.1 hsz a0_1.data.toList.length (DataW.weights_mem_each (j := 0) (t := 65) rfl rfl _ (by rw [z0_1]; simp [DataW.weights, Try.underlying65, DataW.weightsEach]))
    simp only [Array.length_toList, reachBytes] at hm
    exact of_decide_eq_true hm
  obtain ⟨a0_2, q0_2, z0_2, w0_2⟩ := DataW.trod_int Try.underlying3 t0_2
  obtain rfl : x0_2 = .int .i64 a0_2 := by simpa using q0_2
  have b0_2 := wf_i64 w0_2
  obtain ⟨a0_3, q0_3, z0_3⟩ := DataW.trod_bool Try.underlying4 t0_3
  obtain rfl : x0_3 = .bool a0_3 := by simpa using q0_3
  obtain ⟨a1, rfl, rfl, rfl, w1⟩ := open_int Try.underlying3 (hval 1 3 v1 rfl rfl) h1
  have b1 := wf_i64 w1
  clear hA0 hval0 hsz0
  refine (walk a0_0 a0_1 a0_2 a0_3 a1 W s0_0 s0_1 b0_2 b1).mono fun e W' ⟨he, bel⟩ => ?_
  subst he
  exact ⟨_, rfl, _, _, _, [], _, [], hW', trodAll_mk1 (shut_bool Try.underlying4 _), (trodAll_cons_mk (Below.trod laidOut (by kernel_rfl) (of_decide_eq_true (by kernel_rfl)) k0 bel lt0) (trodAll_cons_mk (Below.trod laidOut (by kernel_rfl) (of_decide_eq_true (by kernel_rfl)) k1 bel lt1) trodAll_mk0)), rfl, bel.frame _, fun h => by cases h⟩

theorem over : Rows.flightZeroRow.holds Try.pinned (OpenSpec.ofChange Rows.flightZeroSpec) :=
  OpenClaim.holds_of_wide 11 Try.f11 rfl rfl rfl rfl rfl rfl rfl ⟨rfl, rfl, rfl, rfl, rfl⟩ rfl rfl rfl rfl rfl (by kernel_rfl) Try.func11 (by kernel_rfl)
    (of_decide_eq_true (by kernel_rfl)) (by unfold Func.isWrapper; first | (rw [if_pos (by decide +kernel)]; kernel_rfl) | (rw [if_neg (by decide +kernel)]; exact ⟨rfl, rfl⟩))
    (fun os started H enc _ => lifted os started H enc)

theorem proved : Rows.FlightZeroSaid := over
end Go.Proofs.Ytcjoemejoeekiaa.flightZero
