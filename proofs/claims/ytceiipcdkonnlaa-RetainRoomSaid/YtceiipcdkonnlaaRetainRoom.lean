/-
  RetainRoom: FOR EVERY INPUT the law returns true and leaves its arguments as they were.
-/
import Derived.Test.YtceiipcdkonnlaaRf
import Derived.Test.YtceiipcdkonnlaaRows
import Derived.WalkKit
import Derived.Deep.RegionHeld3
import Derived.ProofKit
import Derived.OpenShut
import Derived.ShutString
import Derived.ChangeOld
import Derived.Below
import Derived.SizedLaws
import Derived.Lib.SmallJoins
namespace Go.Proofs.Ytceiipcdkonnlaa.retainRoom
set_option linter.unusedSimpArgs false
set_option linter.unusedVariables false
open Go.ChangeShapes Go.WideShapes Go.ChangeAt Go.RowKit
open Go.ChangeMaps (open_string shut_string)
set_option linter.unusedVariables false

theorem own : ownKnob Try.prog.godebug = none := by kernel_rfl
theorem laidOut : laidOutB Try.prog = true := by kernel_rfl

open Go.Maps Go.WideMaps
set_option maxHeartbeats 16000000 in
set_option maxRecDepth 100000 in
theorem walk (k : Int) (T : ByteArray) (w : World) (b0 : 0 ≤ k ∧ k ≤ 255) (hT : T.size ≤ 140737488351232) : Calls Try.prog 7 #[.int .u8 k, .string T] w (Yes w) := by
  have x0 : 0 ≤ k := b0.1
  have x1 : k ≤ 255 := b0.2
  clear b0
  have S0 := Lib.hid (rm_start w)
  have CV := Lib.hid conv_lit
  have B0 := Lib.hid (((Below.refl w.heap.size w).alloc (Nat.le_refl _) (.map #[] 0)).alloc (by simp) (.cells #[.map (some w.heap.size)] 84))
  have HT := Lib.hid hT
  clear hT
  by_cases h0 : T.size = 0
  · obtain rfl := size0 h0
    go_enter Try.func7, Try.ntmps7
    go_wp2_with fail
    refine (new_any w).mono ?_
    rintro e w1 ⟨rfl, rfl⟩
    go_wp2_with fail
    refine (awake_any _).mono ?_
    rintro e w5 ⟨rfl, b5⟩
    go_wp2_with fail
    go_ret
    exact ⟨rfl, B0.out.trans (b5.mono B0.out.size)⟩
  have hne := size1 h0
  replace h0 := Lib.hid h0
  go_enter Try.func7, Try.ntmps7
  go_wp2_with fail
  refine (new_any w).mono ?_
  rintro e w1 ⟨rfl, rfl⟩
  go_wp2_with fail
  generalize ((w.alloc (.map #[] 0)).alloc (.cells #[.map (some w.heap.size)] 84)) = w2 at *
  go_loopw [6] (fun iv wr => ∃ (i : Nat) (D : DataW Value), iv = .int .i64 (i : Int) ∧ i ≤ 32 ∧ RM w wr i D) (fun iv _ => 32 - (intOf iv).toNat)
  case atStart => exact ⟨0, _, rfl, by omega, S0.out⟩
  case round =>
    obtain ⟨i, D, rfl, hi, h⟩ := hrel
    by_cases hlt : i < 32
    · have hlt' : (i : Int) < 32 := by omega
      have hi0 : (0 : Int) ≤ (i : Int) := by omega
      have AN := Lib.hid (fun W (hW : Below wr.heap.size wr W) => keep_n (h.ext hW) hlt h0.out)
      have cv := CV.out wr (48 + i) (48 + (i : Int)) (by omega)
      have BX := Lib.hid (ext_alloc wr (.cells #[.int .u8 116, .int .u8 (48 + (i : Int))] 5))
      clear h
      go_wp2_with fail
      refine (AN.out _ BX.out).mono ?_
      rintro e w3 ⟨G3, rfl, s3⟩
      replace s3 := Lib.hid s3
      clear AN cv
      go_wp2_with fail
      go_roundw
      case rel => exact ⟨i + 1, _, by simp, by omega, s3.out⟩
      case measure => simp [intOf]; omega
    · obtain rfl : i = 32 := by omega
      obtain ⟨r, hr⟩ : ∃ r : Nat, (r : Int) = k % 32 := ⟨(k % 32).toNat, by omega⟩
      have hr32 : r < 32 := by omega
      have r0 : 0 ≤ k % 32 := by omega
      have r1 : k % 32 ≤ 31 := by omega
      have cv := CV.out wr (48 + r) (48 + k % 32) (by omega)
      have F1 := Lib.hid ((h.full hr32).ext (ext_alloc wr (.cells #[.int .u8 116, .int .u8 (48 + k % 32)] 5)))
      replace hr32 := Lib.hid hr32
      clear h hi hlt CV hr
      go_wp2_with fail
      refine (room1 F1.out (by omega) h0.out).mono ?_
      rintro e w3 ⟨rfl, f2⟩
      have F2 := Lib.hid f2
      clear f2 F1 cv
      have hc1 : ¬ 9223372036854775807 < T.size + 1 := by have := HT.out; omega
      go_wp2_with fail
      refine (room2 F2.out hr32.out (by omega) ?_).mono ?_
      · rw [ByteArray.size_append]; exact Nat.succ_ne_zero _
      rintro e w4 ⟨D4, rfl, f3⟩
      have F3 := Lib.hid f3
      clear f3 F2
      go_wp2_with fail
      refine (room_len F3.out (by omega)).mono ?_
      rintro e w5 ⟨rfl, f4⟩
      have F4 := Lib.hid f4
      clear f4 F3
      go_wp2_with fail
      refine (room3 F4.out hr32.out (by omega)).mono ?_
      rintro e w6 ⟨D6, rfl, f5⟩
      have F5 := Lib.hid f5
      clear f5 F4
      go_wp2_with fail
      refine (room4 F5.out hr32.out (by omega) h0.out).mono ?_
      rintro e w7 ⟨D7, rfl, f6⟩
      have F6 := Lib.hid f6
      clear f6 F5
      go_wp2_with fail
      refine (room_len F6.out (by omega)).mono ?_
      rintro e w8 ⟨rfl, f7⟩
      have F7 := Lib.hid f7
      clear f7 F6
      go_wp2_with fail
      refine (awake_any _).mono ?_
      rintro e w9 ⟨rfl, b9⟩
      go_wp2_with fail
      go_ret
      exact ⟨rfl, F7.out.bw.trans (b9.mono F7.out.bw.size)⟩

set_option maxRecDepth 100000 in
theorem lifted (os : Os) (started : os.Started) (H : Type) (enc : TypeId × Value → H) :
    ReturnsInHanded {} Try.checked os 7 .any (Rows.retainRoomSpec.pre6 enc Try.prog Try.f7 Rows.retainRoomRow.domain false) (Rows.retainRoomSpec.post enc Try.prog Try.f7 false true false false) := by
  refine returnsInHanded_of_change_sized (C := Try.checked) own started (by kernel_rfl) Try.func7
    (ChangeSpec.witness6 (enc := enc) (C := Try.checked) false ⟨#[], #[.int .u8 0, .string ByteArray.empty], []⟩ 8 (by kernel_rfl) (by kernel_rfl) (by kernel_rfl) (by kernel_rfl)) ?_
  intro W base args ds gs before hval0 hW hcnd hsz0 _
  have hsz : (DataW.weightsEach Try.prog (Try.f7.params.toList ++ Rows.retainRoomSpec.plain.varTypes Try.prog) (ds ++ gs)).all (· ≤ reachBytes) = true := hsz0
  have hval : ∀ (j : Nat) t v, Try.f7.params[j]? = some t → args[j]? = some v → Value.okWide Try.prog W .any base t v := hval0
  have hW' := hW
  obtain ⟨p, q, hA0, hV, rfl, hfz, hnd⟩ := hW
  have hA : DataW.TrodAll enc Try.prog W 0 (fun _ => true) true Try.f7.params.toList args.toList ds p := hA0
  rw [Try.params7] at hA hval hsz
  obtain ⟨v0, vs0, d0, ds0, p0, q0, hargs, rfl, rfl, h0, r0⟩ := trodAll_cons hA
  obtain ⟨v1, vs1, d1, ds1, p1, q1, rfl, rfl, rfl, h1, r1⟩ := trodAll_cons r0
  obtain ⟨rfl, rfl, rfl⟩ := trodAll_nil r1
  obtain rfl : args = #[v0, v1] := by cases args; simp_all
  obtain ⟨rfl, rfl⟩ := trodVars_none hV
  have k0 := h0
  have lt0 : ∀ x ∈ p0, x.block < W.heap.size := by obtain ⟨m, hm⟩ := k0; exact DataW.trod_lt m _ _ _ hm
  have k1 := h1
  have lt1 : ∀ x ∈ p1, x.block < W.heap.size := by obtain ⟨m, hm⟩ := k1; exact DataW.trod_lt m _ _ _ hm
  obtain ⟨a0, rfl, rfl, rfl, w0⟩ := open_int Try.underlying5 (hval 0 5 v0 rfl rfl) h0
  have b0 := wf_u8 w0
  obtain ⟨a1, rfl, rfl, rfl, w1⟩ := open_string Try.underlying9 (hval 1 9 v1 rfl rfl) h1
  have s1 : a1.size ≤ 140737488351232 := by
    have := sized_string hsz (j := 1) (t := 9) rfl rfl
    simp only [Array.length_toList, reachBytes] at this
    exact this
  clear hA0 hval0 hsz0
  refine (walk a0 a1 W b0 s1).mono fun e W' ⟨he, bel⟩ => ?_
  subst he
  exact ⟨_, rfl, _, _, _, [], _, [], hW', trodAll_mk1 (shut_bool Try.underlying4 _), (trodAll_cons_mk (Below.trod laidOut (by kernel_rfl) (of_decide_eq_true (by kernel_rfl)) k0 bel lt0) (trodAll_cons_mk (Below.trod laidOut (by kernel_rfl) (of_decide_eq_true (by kernel_rfl)) k1 bel lt1) trodAll_mk0)), rfl, bel.frame _, fun h => by cases h⟩

theorem over : Rows.retainRoomRow.holds Try.pinned (OpenSpec.ofChange Rows.retainRoomSpec) :=
  OpenClaim.holds_of_wide 7 Try.f7 rfl rfl rfl rfl rfl rfl rfl ⟨rfl, rfl, rfl, rfl, rfl⟩ rfl rfl rfl rfl rfl (by kernel_rfl) Try.func7 (by kernel_rfl)
    (of_decide_eq_true (by kernel_rfl)) (by unfold Func.isWrapper; first | (rw [if_pos (by decide +kernel)]; kernel_rfl) | (rw [if_neg (by decide +kernel)]; exact ⟨rfl, rfl⟩))
    (fun os started H enc _ => lifted os started H enc)

theorem proved : Rows.RetainRoomSaid := over
end Go.Proofs.Ytceiipcdkonnlaa.retainRoom
