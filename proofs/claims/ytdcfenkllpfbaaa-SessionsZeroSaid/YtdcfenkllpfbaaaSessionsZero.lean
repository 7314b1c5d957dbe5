/-
  SessionsZero: FOR EVERY INPUT the law returns true and leaves its arguments as they were.
-/
import Derived.Test.YtdcfenkllpfbaaaBm
import Derived.Test.YtdcfenkllpfbaaaRows
import Derived.WalkKit
import Derived.ProofKit
import Derived.OpenShut
import Derived.ShutString
import Derived.ChangeOld
import Derived.Below
import Derived.SizedLaws
import Derived.Lib.SmallJoins
namespace Go.Proofs.Ytdcfenkllpfbaaa.sessionsZero
set_option linter.unusedSimpArgs false
open Go.ChangeShapes Go.WideShapes Go.ChangeAt Go.RowKit
open Go.ChangeMaps (open_string shut_string)
set_option linter.unusedVariables false

theorem own : ownKnob Try.prog.godebug = none := by kernel_rfl
theorem laidOut : laidOutB Try.prog = true := by kernel_rfl

open Sns
set_option maxHeartbeats 16000000 in
set_option maxRecDepth 100000 in
theorem walk (cl : ByteArray) (i : Int) (w : World) (h0 : cl.size ≤ 140737488351232) (hi : -9223372036854775808 ≤ i ∧ i ≤ 9223372036854775807) : Calls Try.prog 3 #[.string cl, .int .i64 i] w (Yes w) := by
  have Z0 : ∀ W, Nb W none := fun W => .inl rfl
  go_enter Try.func3, Try.ntmps3
  go_wp2_with fail
  refine (open_none (Z0 _) cl true).mono ?_
  rintro e w1 ⟨rfl, e1⟩
  have b1 := Lib.hid (show Below w.heap.size w w1 by rw [← e1]; exact ext_alloc w _)
  have Z1 : Hid (Nb w1 (some ⟨w.heap.size, 0, none⟩)) := Lib.hid (by
    rw [← e1]
    refine .inr ⟨w.heap.size, rfl, by simp, ?_⟩
    rw [cell_of_row _ w.heap.size 0 _ 28 (0, 0) (heap_alloc_new w _)]
    rfl)
  clear e1
  go_wp2_with fail
  refine (open_none Z1.out cl false).mono ?_
  rintro e w1x ⟨rfl, rfl⟩
  go_wp2_with fail
  refine (find_nb (Z0 _) cl).mono ?_
  rintro e w2 ⟨rfl, b2⟩
  have Z2 := Lib.hid (Z1.out.ext b2)
  replace b2 := Lib.hid (ext_trans b1.out b2)
  clear b1 Z1
  go_wp2_with fail
  refine (at_none (Z0 _) i).mono ?_
  rintro e w2x ⟨rfl, rfl⟩
  go_wp2_with fail
  refine (at_none Z2.out i).mono ?_
  rintro e w2x ⟨rfl, rfl⟩
  go_wp2_with fail
  refine (drop_nb (Z0 _) i).mono ?_
  rintro e w2x ⟨rfl, rfl⟩
  go_wp2_with fail
  refine (drop_nb Z2.out i).mono ?_
  rintro e w2x ⟨rfl, rfl⟩
  go_wp2_with fail
  refine (all_nb (Z0 _)).mono ?_
  rintro e w3 ⟨v, rfl, o3, b3⟩
  obtain ⟨va, vc, rfl⟩ := own_slice o3
  clear o3
  have Z3 := Lib.hid (Z2.out.ext b3)
  replace b3 := Lib.hid (ext_trans b2.out b3)
  clear b2 Z2
  go_wp2_with fail
  refine (len_nb (Z0 _)).mono ?_
  rintro e w4 ⟨rfl, b4⟩
  have Z4 := Lib.hid (Z3.out.ext b4)
  replace b4 := Lib.hid (ext_trans b3.out b4)
  clear b3 Z3
  go_wp2_with fail
  refine (len_nb Z4.out).mono ?_
  rintro e w5 ⟨rfl, b5⟩
  replace b5 := Lib.hid (ext_trans b4.out b5)
  clear b4 Z4
  go_wp2_with fail
  refine (awake28_any _).mono ?_
  rintro e w6 ⟨rfl, b6⟩
  replace b6 := Lib.hid (ext_trans b5.out b6)
  clear b5
  go_wp2_with fail
  go_ret
  exact ⟨rfl, b6.out⟩

set_option maxRecDepth 100000 in
theorem lifted (os : Os) (started : os.Started) (H : Type) (enc : TypeId × Value → H) :
    ReturnsInHanded {} Try.checked os 3 .any (Rows.sessionsZeroSpec.pre6 enc Try.prog Try.f3 Rows.sessionsZeroRow.domain false) (Rows.sessionsZeroSpec.post enc Try.prog Try.f3 false true false false) := by
  refine returnsInHanded_of_change_sized (C := Try.checked) own started (by kernel_rfl) Try.func3
    (ChangeSpec.witness6 (enc := enc) (C := Try.checked) false ⟨#[], #[.string ByteArray.empty, .int .i64 0], []⟩ 8 (by kernel_rfl) (by kernel_rfl) (by kernel_rfl) (by kernel_rfl)) ?_
  intro W base args ds gs before hval0 hW hcnd hsz0 _
  have hsz : (DataW.weightsEach Try.prog (Try.f3.params.toList ++ Rows.sessionsZeroSpec.plain.varTypes Try.prog) (ds ++ gs)).all (· ≤ reachBytes) = true := hsz0
  have hval : ∀ (j : Nat) t v, Try.f3.params[j]? = some t → args[j]? = some v → Value.okWide Try.prog W .any base t v := hval0
  have hW' := hW
  obtain ⟨p, q, hA0, hV, rfl, hfz, hnd⟩ := hW
  have hA : DataW.TrodAll enc Try.prog W 0 (fun _ => true) true Try.f3.params.toList args.toList ds p := hA0
  rw [Try.params3] at hA hval hsz
  obtain ⟨v0, vs0, d0, ds0, p0, q0, hargs, rfl, rfl, h0, r0⟩ := trodAll_cons hA
  obtain ⟨v1, vs1, d1, ds1, p1, q1, rfl, rfl, rfl, h1, r1⟩ := trodAll_cons r0
  obtain ⟨rfl, rfl, rfl⟩ := trodAll_nil r1
  obtain rfl : args = #[v0, v1] := by cases args; simp_all
  obtain ⟨rfl, rfl⟩ := trodVars_none hV
  have k0 := h0
  have lt0 : ∀ x ∈ p0, x.block < W.heap.size := by obtain ⟨m, hm⟩ := k0; exact DataW.trod_lt m _ _ _ hm
  have k1 := h1
  have lt1 : ∀ x ∈ p1, x.block < W.heap.size := by obtain ⟨m, hm⟩ := k1; exact DataW.trod_lt m _ _ _ hm
  obtain ⟨a0, rfl, rfl, rfl, w0⟩ := open_string Try.underlying9 (hval 0 9 v0 rfl rfl) h0
  have s0 : a0.size ≤ 140737488351232 := by
    have := sized_string hsz (j := 0) (t := 9) rfl rfl
    simp only [Array.length_toList, reachBytes] at this
    exact this
  obtain ⟨a1, rfl, rfl, rfl, w1⟩ := open_int Try.underlying3 (hval 1 3 v1 rfl rfl) h1
  have b1 := wf_i64 w1
  clear hA0 hval0 hsz0
  refine (walk a0 a1 W s0 b1).mono fun e W' ⟨he, bel⟩ => ?_
  subst he
  exact ⟨_, rfl, _, _, _, [], _, [], hW', trodAll_mk1 (shut_bool Try.underlying4 _), (trodAll_cons_mk (Below.trod laidOut (by kernel_rfl) (of_decide_eq_true (by kernel_rfl)) k0 bel lt0) (trodAll_cons_mk (Below.trod laidOut (by kernel_rfl) (of_decide_eq_true (by kernel_rfl)) k1 bel lt1) trodAll_mk0)), rfl, bel.frame _, fun h => by cases h⟩

theorem over : Rows.sessionsZeroRow.holds Try.pinned (OpenSpec.ofChange Rows.sessionsZeroSpec) :=
  OpenClaim.holds_of_wide 3 Try.f3 rfl rfl rfl rfl rfl rfl rfl ⟨rfl, rfl, rfl, rfl, rfl⟩ rfl rfl rfl rfl rfl (by kernel_rfl) Try.func3 (by kernel_rfl)
    (of_decide_eq_true (by kernel_rfl)) (by unfold Func.isWrapper; first | (rw [if_pos (by decide +kernel)]; kernel_rfl) | (rw [if_neg (by decide +kernel)]; exact ⟨rfl, rfl⟩))
    (fun os started H enc _ => lifted os started H enc)

theorem proved : Rows.SessionsZeroSaid := over
end Go.Proofs.Ytdcfenkllpfbaaa.sessionsZero
