/-
  SessionZero: FOR EVERY INPUT the law returns true and leaves its arguments as they were.
-/
import Derived.Test.YtceiipcdkonnlaaXg
import Derived.Test.YtceiipcdkonnlaaRows
import Derived.WalkKit
import Derived.ProofKit
import Derived.OpenShut
import Derived.ShutString
import Derived.ChangeOld
import Derived.Below
import Derived.SizedLaws
import Derived.Lib.SmallJoins
namespace Go.Proofs.Ytceiipcdkonnlaa.sessionZero
set_option linter.unusedSimpArgs false
open Go.ChangeShapes Go.WideShapes Go.ChangeAt Go.RowKit
open Go.ChangeMaps (open_string shut_string)
set_option linter.unusedVariables false

theorem own : ownKnob Try.prog.godebug = none := by kernel_rfl
theorem laidOut : laidOutB Try.prog = true := by kernel_rfl

open Que Hp Ids Fli Ses
set_option maxHeartbeats 16000000 in
set_option maxRecDepth 100000 in
theorem walk (t x : ByteArray) (q : Int) (r : Bool) (id : Int) (w : World) (h0 : t.size ≤ 140737488351232) (h1 : x.size ≤ 140737488351232) (hq : -9223372036854775808 ≤ q ∧ q ≤ 9223372036854775807) (hid : -9223372036854775808 ≤ id ∧ id ≤ 9223372036854775807) : Calls Try.prog 5 #[.agg #[.string t, .string x, .int .i64 q, .bool r], .int .i64 id] w (Yes w) := by
  have Z1 := Lib.hid (zs_start w t x q r)
  have hE : (({ data := #[] } : ByteArray) ++ { data := #[] }).toList = [] := by decide +kernel
  go_enter Try.func5, Try.ntmps5
  go_wp2_with fail
  generalize ((w.alloc (.cells #[.string t, .string x, .int .i64 q, .bool r] 30)).alloc (.cells #[.string ⟨#[]⟩, .bool false, .bool false, .pointer none] 47)) = w1 at *
  obtain ⟨c0, c1, c2, c3⟩ := Z1.out.cells
  go_wp2_with fail
  refine (deliver_0 (no_nil _) t x q 2 r).mono ?_
  rintro e w2 ⟨rfl, b2⟩
  have Z2 := Lib.hid (Z1.out.ext b2)
  clear c0 c1 c2 c3
  clear Z1 b2
  obtain ⟨c0, c1, c2, c3⟩ := Z2.out.cells
  go_wp2_with fail
  refine (deliver_0 Z2.out.z t x q 2 r).mono ?_
  rintro e w3 ⟨rfl, b3⟩
  have Z3 := Lib.hid (Z2.out.ext b3)
  clear c0 c1 c2 c3
  clear Z2 b3
  go_wp2_with fail
  refine (come_0 (no_nil _) id).mono ?_
  rintro e w4 ⟨rfl, b4⟩
  have Z4 := Lib.hid (Z3.out.ext b4)
  clear Z3 b4
  go_wp2_with fail
  refine (come_0 Z4.out.z id).mono ?_
  rintro e w5 ⟨rfl, b5⟩
  have Z5 := Lib.hid (Z4.out.ext b5)
  clear Z4 b5
  go_wp2_with fail
  refine (attach_0 (no_nil _)).mono ?_
  rintro e w5x ⟨rfl, rfl⟩
  go_wp2_with fail
  refine (attach_0 Z5.out.z).mono ?_
  rintro e w5x ⟨rfl, rfl⟩
  go_wp2_with fail
  refine (answer_0 (no_nil _) 4 id).mono ?_
  rintro e w5x ⟨rfl, rfl⟩
  go_wp2_with fail
  refine (flight_0 Z5.out.z).mono ?_
  rintro e w6 ⟨rfl, b6⟩
  have Z6 := Lib.hid (Z5.out.ext b6)
  clear Z5 b6
  go_wp2_with fail
  refine (queue_0 (no_nil _)).mono ?_
  rintro e w7 ⟨rfl, b7⟩
  have Z7 := Lib.hid (Z6.out.ext b7)
  clear Z6 b7
  go_wp2_with fail
  refine (inbox_0 Z7.out.z).mono ?_
  rintro e w8 ⟨rfl, b8⟩
  have Z8 := Lib.hid (Z7.out.ext b8)
  clear Z7 b8
  go_wp2_with fail
  refine (lost_0 (no_nil _)).mono ?_
  rintro e w9 ⟨rfl, b9⟩
  have Z9 := Lib.hid (Z8.out.ext b9)
  clear Z8 b9
  go_wp2_with fail
  refine (detach_0 (no_nil _)).mono ?_
  rintro e w9x ⟨rfl, rfl⟩
  go_wp2_with fail
  refine (done_0 Z9.out.z id).mono ?_
  rintro e w10 ⟨rfl, b10⟩
  have Z10 := Lib.hid (Z9.out.ext b10)
  clear Z9 b10
  go_wp2_with fail
  refine (online_0 (no_nil _)).mono ?_
  rintro e w10x ⟨rfl, rfl⟩
  go_wp2_with fail
  refine (clean_0 Z10.out.z).mono ?_
  rintro e w10x ⟨rfl, rfl⟩
  go_wp2_with fail
  refine (client_0 (no_nil _)).mono ?_
  rintro e w10x ⟨rfl, rfl⟩
  go_wp2_with fail
  refine (client_0 Z10.out.z).mono ?_
  rintro e w10x ⟨rfl, rfl⟩
  go_wp2_with fail
  refine (awake25_any _).mono ?_
  rintro e wl ⟨rfl, bl⟩
  go_wp2_with fail
  go_ret
  exact ⟨rfl, ext_trans Z10.out.bw bl⟩

set_option maxRecDepth 100000 in
theorem lifted (os : Os) (started : os.Started) (H : Type) (enc : TypeId × Value → H) :
    ReturnsInHanded {} Try.checked os 5 .any (Rows.sessionZeroSpec.pre6 enc Try.prog Try.f5 Rows.sessionZeroRow.domain false) (Rows.sessionZeroSpec.post enc Try.prog Try.f5 false true false false) := by
  refine returnsInHanded_of_change_sized (C := Try.checked) own started (by kernel_rfl) Try.func5
    (ChangeSpec.witness6 (enc := enc) (C := Try.checked) false ⟨#[], #[.agg #[.string ByteArray.empty, .string ByteArray.empty, .int .i64 0, .bool false], .int .i64 0], []⟩ 8 (by kernel_rfl) (by kernel_rfl) (by kernel_rfl) (by kernel_rfl)) ?_
  intro W base args ds gs before hval0 hW hcnd hsz0 _
  have hsz : (DataW.weightsEach Try.prog (Try.f5.params.toList ++ Rows.sessionZeroSpec.plain.varTypes Try.prog) (ds ++ gs)).all (· ≤ reachBytes) = true := hsz0
  have hval : ∀ (j : Nat) t v, Try.f5.params[j]? = some t → args[j]? = some v → Value.okWide Try.prog W .any base t v := hval0
  have hW' := hW
  obtain ⟨p, q, hA0, hV, rfl, hfz, hnd⟩ := hW
  have hA : DataW.TrodAll enc Try.prog W 0 (fun _ => true) true Try.f5.params.toList args.toList ds p := hA0
  rw [Try.params5] at hA hval hsz
  obtain ⟨v0, vs0, d0, ds0, p0, q0, hargs, rfl, rfl, h0, r0⟩ := trodAll_cons hA
  obtain ⟨v1, vs1, d1, ds1, p1, q1, rfl, rfl, rfl, h1, r1⟩ := trodAll_cons r0
  obtain ⟨rfl, rfl, rfl⟩ := trodAll_nil r1
  obtain rfl : args = #[v0, v1] := by cases args; simp_all
  obtain ⟨rfl, rfl⟩ := trodVars_none hV
  have k0 := h0
  have lt0 : ∀ x ∈ p0, x.block < W.heap.size := by obtain ⟨m, hm⟩ := k0; exact DataW.trod_lt m _ _ _ hm
  have k1 := h1
  have lt1 : ∀ x ∈ p1, x.block < W.heap.size := by obtain ⟨m, hm⟩ := k1; exact DataW.trod_lt m _ _ _ hm
  obtain ⟨x0_0, x0_1, x0_2, x0_3, y0_0, y0_1, y0_2, y0_3, n0, rfl, rfl, rfl, t0_0, t0_1, t0_2, t0_3⟩ := Joins.open_agg4 Try.underlying30 (by kernel_rfl) (by kernel_rfl) (hval 0 30 _ rfl rfl) h0
  obtain ⟨a0_0, q0_0, z0_0, w0_0⟩ := DataW.trod_string Try.underlying9 t0_0
  obtain rfl : x0_0 = .string a0_0 := by simpa using q0_0
  have s0_0 : a0_0.size ≤ 140737488351232 := by
    have hm := List.all_eq_true.1 hsz a0_0.data.toList.length (DataW.weights_mem_each (j := 0) (t := 30) rfl rfl _ (by rw [z0_0]; simp [DataW.weights, Try.underlying30, DataW.weightsEach]))
    simp only [Array.length_toList, reachBytes] at hm
    exact of_decide_eq_true hm
  obtain ⟨a0_1, q0_1, z0_1, w0_1⟩ := DataW.trod_string Try.underlying9 t0_1
  obtain rfl : x0_1 = .string a0_1 := by simpa using q0_1
  have s0_1 : a0_1.size ≤ 140737488351232 := by
    have hm := List.all_eq_true.1 hsz a0_1.data.toList.length (DataW.weights_mem_each (j := 0) (t := 30) rfl rfl _ (by rw [z0_1]; simp [DataW.weights, Try.underlying30, DataW.weightsEach]))
    simp only [Array.length_toList, reachBytes] at hm
    exact of_decide_eq_true hm
  obtain ⟨a0_2, q0_2, z0_2, w0_2⟩ := DataW.trod_int Try.underlying3 t0_2
  obtain rfl : x0_2 = .int .i64 a0_2 := by simpa using q0_2
  have b0_2 := wf_i64 w0_2
  obtain ⟨a0_3, q0_3, z0_3⟩ := DataW.trod_bool Try.underlying4 t0_3
  obtain rfl : x0_3 = .bool a0_3 := by simpa using q0_3
  obtain ⟨a1, rfl, rfl, rfl, w1⟩ := open_int Try.underlying3 (hval 1 3 v1 rfl rfl) h1
  have b1 := wf_i64 w1
  clear hA0 hval0 hsz0
  refine (walk a0_0 a0_1 a0_2 a0_3 a1 W s0_0 s0_1 b0_2 b1).mono fun e W' ⟨he, bel⟩ => ?_
  subst he
  exact ⟨_, rfl, _, _, _, [], _, [], hW', trodAll_mk1 (shut_bool Try.underlying4 _), (trodAll_cons_mk (Below.trod laidOut (by kernel_rfl) (of_decide_eq_true (by kernel_rfl)) k0 bel lt0) (trodAll_cons_mk (Below.trod laidOut (by kernel_rfl) (of_decide_eq_true (by kernel_rfl)) k1 bel lt1) trodAll_mk0)), rfl, bel.frame _, fun h => by cases h⟩

theorem over : Rows.sessionZeroRow.holds Try.pinned (OpenSpec.ofChange Rows.sessionZeroSpec) :=
  OpenClaim.holds_of_wide 5 Try.f5 rfl rfl rfl rfl rfl rfl rfl ⟨rfl, rfl, rfl, rfl, rfl⟩ rfl rfl rfl rfl rfl (by kernel_rfl) Try.func5 (by kernel_rfl)
    (of_decide_eq_true (by kernel_rfl)) (by unfold Func.isWrapper; first | (rw [if_pos (by decide +kernel)]; kernel_rfl) | (rw [if_neg (by decide +kernel)]; exact ⟨rfl, rfl⟩))
    (fun os started H enc _ => lifted os started H enc)

theorem proved : Rows.SessionZeroSaid := over
end Go.Proofs.Ytceiipcdkonnlaa.sessionZero
