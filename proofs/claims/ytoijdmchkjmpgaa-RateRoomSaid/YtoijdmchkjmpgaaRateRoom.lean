/-
  RateRoom: FOR EVERY INPUT the law returns true and leaves its arguments as they were.
-/
import Derived.Test.YtoijdmchkjmpgaaRf
import Derived.Test.YtoijdmchkjmpgaaByt
import Derived.Test.YtoijdmchkjmpgaaRows
import Derived.WalkKit
import Derived.ProofKit
import Derived.OpenShut
import Derived.ShutString
import Derived.ChangeOld
import Derived.Below
import Derived.SizedLaws
import Derived.Lib.SmallJoins
namespace Go.Proofs.Ytoijdmchkjmpgaa.rateRoom
open Go.ChangeShapes Go.WideShapes Go.ChangeAt Go.RowKit
open Go.ChangeMaps (open_string shut_string)
set_option linter.unusedVariables false

theorem own : ownKnob Try.prog.godebug = none := by kernel_rfl
theorem laidOut : laidOutB Try.prog = true := by kernel_rfl

open Rte Que
set_option maxHeartbeats 16000000 in
set_option maxRecDepth 100000 in
theorem walk (more : ByteArray) (n : Int) (w : World) (s0 : more.size ≤ 140737488351232) (b1 : 0 ≤ n ∧ n ≤ 65535) : Calls Try.prog 12 #[.string more, .int .u16 n] w (Yes w) := by
  have NW := Lib.hid (rnew 0 w (by omega))
  have x0 : 0 ≤ n := b1.1
  have x1 : n ≤ 65535 := b1.2
  have CV := Lib.hid conv_lit
  clear b1
  go_enter Try.func12, Try.ntmps12
  go_wp2_with fail
  refine NW.out.mono ?_
  rintro e w1 ⟨rfl, r1, b1, z1⟩
  have S1 : Hid (RM w w1 0 n []) := Lib.hid ⟨r1, b1, rfl, fun j hj => by omega, fun _ _ => rfl⟩
  clear r1 b1 z1 NW
  go_wp2_with fail
  go_loopw [7] (fun iv wr => ∃ (i : Nat) (G : List Gr), iv = .int .i64 (i : Int) ∧ i ≤ 8 ∧ RM w wr i n G) (fun iv _ => 8 - (intOf iv).toNat)
  case atStart => exact ⟨0, [], rfl, by omega, S1.out⟩
  case round =>
    obtain ⟨i, G, rfl, hi, h⟩ := hrel
    by_cases hlt : i < 8
    · have hlt' : (i : Int) < 8 := by omega
      have hi0 : (0 : Int) ≤ (i : Int) := by omega
      have AN := Lib.hid (fun W (hW : Below wr.heap.size wr W) => ask_n (h.ext hW) hlt ⟨x0, x1⟩)
      have cv := CV.out wr (48 + i) (48 + (i : Int)) (by omega)
      have BX := Lib.hid (ext_alloc wr (.cells #[.int .u8 107, .int .u8 (48 + (i : Int))] 5))
      clear h
      go_wp2_with fail
      refine (AN.out _ BX.out).mono ?_
      rintro e w3 ⟨G3, rfl, s3⟩
      replace s3 := Lib.hid s3
      clear AN cv
      go_wp2_with fail
      go_roundw
      case rel => exact ⟨i + 1, _, by simp, by omega, s3.out⟩
      case measure => simp [intOf]; omega
    · obtain rfl : i = 8 := by omega
      have LX := Lib.hid (last_x h more)
      clear h hi hlt CV
      go_wp2_with fail
      refine LX.out.mono ?_
      rintro e w3 ⟨rfl, h3⟩
      have MX := Lib.hid (rmay_x h3 ⟨x0, x1⟩ more)
      clear h3 LX
      go_wp2_with fail
      refine MX.out.mono ?_
      rintro e w4 ⟨rfl, h4⟩
      have AX := Lib.hid (rask_x h4 ⟨x0, x1⟩ more)
      clear h4 MX
      go_wp2_with fail
      refine AX.out.mono ?_
      rintro e w5 ⟨rfl, h5⟩
      have A0 := Lib.hid (rask_0 h5 ⟨x0, x1⟩)
      clear h5 AX
      go_wp2_with fail
      refine A0.out.mono ?_
      rintro e w6 ⟨rfl, b6, l6⟩
      have B6 := Lib.hid b6
      have L6 := Lib.hid l6
      clear b6 l6 A0
      go_wp2_with fail
      refine L6.out.mono ?_
      rintro e w7 ⟨rfl, rfl⟩
      go_wp2_with fail
      refine (awake35_any _).mono ?_
      rintro e w2 ⟨rfl, b2⟩
      go_wp2
      go_ret
      exact ⟨rfl, ext_trans B6.out b2⟩

set_option maxRecDepth 100000 in
theorem lifted (os : Os) (started : os.Started) (H : Type) (enc : TypeId × Value → H) :
    ReturnsInHanded {} Try.checked os 12 .any (Rows.rateRoomSpec.pre6 enc Try.prog Try.f12 Rows.rateRoomRow.domain false) (Rows.rateRoomSpec.post enc Try.prog Try.f12 false true false false) := by
  refine returnsInHanded_of_change_sized (C := Try.checked) own started (by kernel_rfl) Try.func12
    (ChangeSpec.witness6 (enc := enc) (C := Try.checked) false ⟨#[], #[.string ByteArray.empty, .int .u16 0], []⟩ 8 (by kernel_rfl) (by kernel_rfl) (by kernel_rfl) (by kernel_rfl)) ?_
  intro W base args ds gs before hval0 hW hcnd hsz0 _
  have hsz : (DataW.weightsEach Try.prog (Try.f12.params.toList ++ Rows.rateRoomSpec.plain.varTypes Try.prog) (ds ++ gs)).all (· ≤ reachBytes) = true := hsz0
  have hval : ∀ (j : Nat) t v, Try.f12.params[j]? = some t → args[j]? = some v → Value.okWide Try.prog W .any base t v := hval0
  have hW' := hW
  obtain ⟨p, q, hA0, hV, rfl, hfz, hnd⟩ := hW
  have hA : DataW.TrodAll enc Try.prog W 0 (fun _ => true) true Try.f12.params.toList args.toList ds p := hA0
  rw [Try.params12] at hA hval hsz
  obtain ⟨v0, vs0, d0, ds0, p0, q0, hargs, rfl, rfl, h0, r0⟩ := trodAll_cons hA
  obtain ⟨v1, vs1, d1, ds1, p1, q1, rfl, rfl, rfl, h1, r1⟩ := trodAll_cons r0
  obtain ⟨rfl, rfl, rfl⟩ := trodAll_nil r1
  obtain rfl : args = #[v0, v1] := by cases args; simp_all
  obtain ⟨rfl, rfl⟩ := trodVars_none hV
  have k0 := h0
  have lt0 : ∀ x ∈ p0, x.block < W.heap.size := by obtain ⟨m, hm⟩ := k0; exact DataW.trod_lt m _ _ _ hm
  have k1 := h1
  have lt1 : ∀ x ∈ p1, x.block < W.heap.size := by obtain ⟨m, hm⟩ := k1; exact DataW.trod_lt m _ _ _ hm
  obtain ⟨a0, rfl, rfl, rfl, w0⟩ := open_string Try.underlying9 (hval 0 9 v0 rfl rfl) h0
  have s0 : a0.size ≤ 140737488351232 := by
    have := sized_string hsz (j := 0) (t := 9) rfl rfl
    simp only [Array.length_toList, reachBytes] at this
    exact this
  obtain ⟨a1, rfl, rfl, rfl, w1⟩ := open_int Try.underlying93 (hval 1 93 v1 rfl rfl) h1
  have b1 := wf_u16 w1
  clear hA0 hval0 hsz0
  refine (walk a0 a1 W s0 b1).mono fun e W' ⟨he, bel⟩ => ?_
  subst he
  exact ⟨_, rfl, _, _, _, [], _, [], hW', trodAll_mk1 (shut_bool Try.underlying4 _), (trodAll_cons_mk (Below.trod laidOut (by kernel_rfl) (of_decide_eq_true (by kernel_rfl)) k0 bel lt0) (trodAll_cons_mk (Below.trod laidOut (by kernel_rfl) (of_decide_eq_true (by kernel_rfl)) k1 bel lt1) trodAll_mk0)), rfl, bel.frame _, fun h => by cases h⟩

theorem over : Rows.rateRoomRow.holds Try.pinned (OpenSpec.ofChange Rows.rateRoomSpec) :=
  OpenClaim.holds_of_wide 12 Try.f12 rfl rfl rfl rfl rfl rfl rfl ⟨rfl, rfl, rfl, rfl, rfl⟩ rfl rfl rfl rfl rfl (by kernel_rfl) Try.func12 (by kernel_rfl)
    (of_decide_eq_true (by kernel_rfl)) (by unfold Func.isWrapper; first | (rw [if_pos (by decide +kernel)]; kernel_rfl) | (rw [if_neg (by decide +kernel)]; exact ⟨rfl, rfl⟩))
    (fun os started H enc _ => lifted os started H enc)

theorem proved : Rows.RateRoomSaid := over
end Go.Proofs.Ytoijdmchkjmpgaa.rateRoom
