/-
  RetainZero: FOR EVERY INPUT the law returns true and leaves its arguments as they were.
-/
import Derived.Test.YtdhkpiahmdfkjaaRc
import Derived.Test.YtdhkpiahmdfkjaaRows
import Derived.WalkKit
import Derived.ProofKit
import Derived.OpenShut
import Derived.ShutString
import Derived.ChangeOld
import Derived.Below
import Derived.SizedLaws
import Derived.Lib.SmallJoins
namespace Go.Proofs.Ytdhkpiahmdfkjaa.retainZero
open Go.ChangeShapes Go.WideShapes Go.ChangeAt Go.RowKit
open Go.ChangeMaps (open_string shut_string)
set_option linter.unusedVariables false

theorem own : ownKnob Try.prog.godebug = none := by kernel_rfl
theorem laidOut : laidOutB Try.prog = true := by kernel_rfl

set_option maxHeartbeats 2000000 in
set_option maxRecDepth 100000 in
theorem walk (t x : ByteArray) (q : Int) (r : Bool) (w : World) (ht : t.size ≤ 140737488351232) (hx : x.size ≤ 140737488351232) (hq : -9223372036854775808 ≤ q ∧ q ≤ 9223372036854775807) : Calls Try.prog 3 #[.agg #[.string t, .string x, .int .i64 q, .bool r]] w (Yes w) := by
  have k1 : Below w.heap.size w ((w.alloc (.cells #[.string t, .string x, .int .i64 q, .bool r] 23)).alloc (.cells #[.map none] 27)) := (ext_alloc w _).alloc (by simp) _
  have m1 : MsgAt ((w.alloc (.cells #[.string t, .string x, .int .i64 q, .bool r] 23)).alloc (.cells #[.map none] 27)) w.heap.size t x q r := MsgAt.keep (heap_alloc_new w _) (ext_alloc _ _) (by simp)
  have c1 : ((w.alloc (.cells #[.string t, .string x, .int .i64 q, .bool r] 23)).alloc (.cells #[.map none] 27)).cell? ⟨w.heap.size + 1, 0, none⟩ = some (.map none) := by
    have := heap_alloc_new (w.alloc (.cells #[.string t, .string x, .int .i64 q, .bool r] 23)) (.cells #[.map none] 27)
    rw [cell_of_row _ (w.heap.size + 1) 0 #[.map none] 27 (0, 0) (by simpa using this)]; rfl
  have zn1 := Lib.hid (no_zero c1)
  have lt1 : w.heap.size < ((w.alloc (.cells #[.string t, .string x, .int .i64 q, .bool r] 23)).alloc (.cells #[.map none] 27)).heap.size := by simp; omega
  replace m1 := Lib.hid m1
  replace k1 := Lib.hid k1
  clear c1 ht hx hq
  go_enter Try.func3, Try.ntmps3
  go_wp2_with fail
  refine (keep_no _ t x q r _ (no_nil _)).mono ?_
  rintro e w2 ⟨rfl, b2⟩
  have zn2 := Lib.hid (zn1.out.keep b2)
  have m2 := Lib.hid (m1.out.keep b2 (lt1))
  have k2 := Lib.hid (ext_trans k1.out b2)
  have lt2 : w.heap.size < w2.heap.size := by have := b2.size; have := lt1; omega
  clear b2 zn1 m1 k1 lt1
  obtain ⟨c0, c1, c2, c3, -⟩ := m2.out.cells
  go_wp2_with fail
  clear c0 c1 c2 c3
  refine (keep_no _ t x q r _ zn2.out).mono ?_
  rintro e w3 ⟨rfl, b3⟩
  have zn3 := Lib.hid (zn2.out.keep b3)
  have m3 := Lib.hid (m2.out.keep b3 (lt2))
  have k3 := Lib.hid (ext_trans k2.out b3)
  have lt3 : w.heap.size < w3.heap.size := by have := b3.size; have := lt2; omega
  clear b3 zn2 m2 k2 lt2
  obtain ⟨c0, c1, c2, c3, -⟩ := m3.out.cells
  go_wp2_with fail
  clear c0 c1 c2 c3
  refine (get_no _ t _ (no_nil _)).mono ?_
  rintro e w4 ⟨rfl, b4⟩
  have zn4 := Lib.hid (zn3.out.keep b4)
  have m4 := Lib.hid (m3.out.keep b4 (lt3))
  have k4 := Lib.hid (ext_trans k3.out b4)
  have lt4 : w.heap.size < w4.heap.size := by have := b4.size; have := lt3; omega
  clear b4 zn3 m3 k3 lt3
  have b5 := ext_alloc w4 (.cells #[.string ⟨#[]⟩, .string ⟨#[]⟩, .int .i64 0, .bool false] 23)
  have zn5 := Lib.hid (zn4.out.keep b5)
  have k5 := Lib.hid (ext_trans k4.out b5)
  clear b5 zn4 k4 m4 lt4
  go_wp2_with fail
  refine (find_no _ ⟨#[35]⟩ _ (no_nil _)).mono ?_
  rintro e w6 ⟨rfl, b6⟩
  have zn6 := Lib.hid (zn5.out.keep b6)
  have k6 := Lib.hid (ext_trans k5.out b6)
  clear b6 zn5 k5
  go_wp2_with fail
  refine (find_no _ ⟨#[35]⟩ _ zn6.out).mono ?_
  rintro e w7 ⟨rfl, b7⟩
  have zn7 := Lib.hid (zn6.out.keep b7)
  have k7 := Lib.hid (ext_trans k6.out b7)
  clear b7 zn6 k6
  go_wp2_with fail
  refine (all_no _ _ (no_nil _)).mono ?_
  rintro e w8 ⟨rfl, b8⟩
  have zn8 := Lib.hid (zn7.out.keep b8)
  have k8 := Lib.hid (ext_trans k7.out b8)
  clear b8 zn7 k7
  go_wp2_with fail
  refine (all_no _ _ zn8.out).mono ?_
  rintro e w9 ⟨rfl, b9⟩
  have zn9 := Lib.hid (zn8.out.keep b9)
  have k9 := Lib.hid (ext_trans k8.out b9)
  clear b9 zn8 k8
  go_wp2_with fail
  refine (len_no _ _ (no_nil _)).mono ?_
  rintro e w10 ⟨rfl, b10⟩
  have zn10 := Lib.hid (zn9.out.keep b10)
  have k10 := Lib.hid (ext_trans k9.out b10)
  clear b10 zn9 k9
  go_wp2_with fail
  refine (len_no _ _ zn10.out).mono ?_
  rintro e w11 ⟨rfl, b11⟩
  have zn11 := Lib.hid (zn10.out.keep b11)
  have k11 := Lib.hid (ext_trans k10.out b11)
  clear b11 zn10 k10
  go_wp2_with fail
  refine (awake_any _).mono ?_
  rintro e w12 ⟨rfl, b12⟩
  go_wp2_with fail
  go_ret
  exact ⟨rfl, ext_trans k11.out b12⟩

set_option maxRecDepth 100000 in
theorem lifted (os : Os) (started : os.Started) (H : Type) (enc : TypeId × Value → H) :
    ReturnsInHanded {} Try.checked os 3 .any (Rows.retainZeroSpec.pre6 enc Try.prog Try.f3 Rows.retainZeroRow.domain false) (Rows.retainZeroSpec.post enc Try.prog Try.f3 false true false false) := by
  refine returnsInHanded_of_change_sized (C := Try.checked) own started (by kernel_rfl) Try.func3
    (ChangeSpec.witness6 (enc := enc) (C := Try.checked) false ⟨#[], #[.agg #[.string ByteArray.empty, .string ByteArray.empty, .int .i64 0, .bool false]], []⟩ 8 (by kernel_rfl) (by kernel_rfl) (by kernel_rfl) (by kernel_rfl)) ?_
  intro W base args ds gs before hval0 hW hcnd hsz0 _
  have hsz : (DataW.weightsEach Try.prog (Try.f3.params.toList ++ Rows.retainZeroSpec.plain.varTypes Try.prog) (ds ++ gs)).all (· ≤ reachBytes) = true := hsz0
  have hval : ∀ (j : Nat) t v, Try.f3.params[j]? = some t → args[j]? = some v → Value.okWide Try.prog W .any base t v := hval0
  have hW' := hW
  obtain ⟨p, q, hA0, hV, rfl, hfz, hnd⟩ := hW
  have hA : DataW.TrodAll enc Try.prog W 0 (fun _ => true) true Try.f3.params.toList args.toList ds p := hA0
  rw [Try.params3] at hA hval hsz
  obtain ⟨v0, vs0, d0, ds0, p0, q0, hargs, rfl, rfl, h0, r0⟩ := trodAll_cons hA
  obtain ⟨rfl, rfl, rfl⟩ := trodAll_nil r0
  obtain rfl : args = #[v0] := by cases args; simp_all
  obtain ⟨rfl, rfl⟩ := trodVars_none hV
  have k0 := h0
  have lt0 : ∀ x ∈ p0, x.block < W.heap.size := by obtain ⟨m, hm⟩ := k0; exact DataW.trod_lt m _ _ _ hm
  obtain ⟨x0_0, x0_1, x0_2, x0_3, y0_0, y0_1, y0_2, y0_3, n0, rfl, rfl, rfl, t0_0, t0_1, t0_2, t0_3⟩ := Joins.open_agg4 Try.underlying23 (by kernel_rfl) (by kernel_rfl) (hval 0 23 _ rfl rfl) h0
  obtain ⟨a0_0, q0_0, z0_0, w0_0⟩ := DataW.trod_string Try.underlying9 t0_0
  obtain rfl : x0_0 = .string a0_0 := by simpa using q0_0
  have s0_0 : a0_0.size ≤ 140737488351232 := by
    have hm := List.all_eq_true.1 hsz a0_0.data.toList.length (DataW.weights_mem_each (j := 0) (t := 23) rfl rfl _ (by rw [z0_0]; simp [DataW.weights, Try.underlying23, DataW.weightsEach]))
    simp only [Array.length_toList, reachBytes] at hm
    exact of_decide_eq_true hm
  obtain ⟨a0_1, q0_1, z0_1, w0_1⟩ := DataW.trod_string Try.underlying9 t0_1
  obtain rfl : x0_1 = .string a0_1 := by simpa using q0_1
  have s0_1 : a0_1.size ≤ 140737488351232 := by
    have hm := List.all_eq_true.1 hsz a0_1.data.toList.length (DataW.weights_mem_each (j := 0) (t := 23) rfl rfl _ (by rw [z0_1]; simp [DataW.weights, Try.underlying23, DataW.weightsEach]))
    simp only [Array.length_toList, reachBytes] at hm
    exact of_decide_eq_true hm
  obtain ⟨a0_2, q0_2, z0_2, w0_2⟩ := DataW.trod_int Try.underlying3 t0_2
  obtain rfl : x0_2 = .int .i64 a0_2 := by simpa using q0_2
  have b0_2 := wf_i64 w0_2
  obtain ⟨a0_3, q0_3, z0_3⟩ := DataW.trod_bool Try.underlying4 t0_3
  obtain rfl : x0_3 = .bool a0_3 := by simpa using q0_3
  clear hA0 hval0 hsz0
  refine (walk a0_0 a0_1 a0_2 a0_3 W s0_0 s0_1 b0_2).mono fun e W' ⟨he, bel⟩ => ?_
  subst he
  exact ⟨_, rfl, _, _, _, [], _, [], hW', trodAll_mk1 (shut_bool Try.underlying4 _), (trodAll_cons_mk (Below.trod laidOut (by kernel_rfl) (of_decide_eq_true (by kernel_rfl)) k0 bel lt0) trodAll_mk0), rfl, bel.frame _, fun h => by cases h⟩

theorem over : Rows.retainZeroRow.holds Try.pinned (OpenSpec.ofChange Rows.retainZeroSpec) :=
  OpenClaim.holds_of_wide 3 Try.f3 rfl rfl rfl rfl rfl rfl rfl ⟨rfl, rfl, rfl, rfl, rfl⟩ rfl rfl rfl rfl rfl (by kernel_rfl) Try.func3 (by kernel_rfl)
    (of_decide_eq_true (by kernel_rfl)) (by unfold Func.isWrapper; first | (rw [if_pos (by decide +kernel)]; kernel_rfl) | (rw [if_neg (by decide +kernel)]; exact ⟨rfl, rfl⟩))
    (fun os started H enc _ => lifted os started H enc)

theorem proved : Rows.RetainZeroSaid := over
end Go.Proofs.Ytdhkpiahmdfkjaa.retainZero
