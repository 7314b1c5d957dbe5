/-
  MatchSelf: FOR EVERY INPUT the law returns true and leaves its arguments as they were.
-/
import Derived.Test.YtbmelmmefgehoaaTe
import Derived.Test.YtbmelmmefgehoaaRows
import Derived.WalkKit
import Derived.ProofKit
import Derived.OpenShut
import Derived.ShutString
import Derived.ChangeOld
import Derived.Below
import Derived.SizedLaws
import Derived.Lib.SmallJoins
import Derived.JoinedCond
import Derived.Test.YtbmelmmefgehoaaBulk
namespace Go.Proofs.Ytbmelmmefgehoaa.matchSelf
open Go.ChangeShapes Go.WideShapes Go.ChangeAt Go.RowKit
open Go.ChangeMaps (open_string shut_string)
set_option linter.unusedVariables false

theorem own : ownKnob Try.prog.godebug = none := by kernel_rfl
theorem laidOut : laidOutB Try.prog = true := by kernel_rfl

set_option maxHeartbeats 2000000 in
set_option maxRecDepth 100000 in
theorem walk (a b : ByteArray) (w : World) (ha : a.size ≤ 1048576) (hb : b.size ≤ 1048576) : Calls Try.prog 4 #[.string a, .string b] w (Yes w) := by
  have N := Lib.hid fun w => nam_any a w ha
  have M := Lib.hid fun w => match_any a a w ha ha
  have W := Lib.hid fun w => wide_any a w ha
  have M2 := Lib.hid fun w => match_any a b w ha hb
  have h1 : nameB a = true → matchB a a = true ∧ wideB a = false := self_name
  have h2 : wideB a = false → matchB a b = true → a = b := self_only
  generalize nameB a = n at *
  generalize matchB a a = m at *
  generalize wideB a = v at *
  generalize matchB a b = m2 at *
  replace h1 := Lib.hid h1
  replace h2 := Lib.hid h2
  clear ha hb
  go_enter Try.func4, Try.ntmps4
  go_wp2_with fail
  refine (N.out _).mono ?_
  rintro e w1 ⟨rfl, b1⟩
  replace b1 := Lib.hid b1
  cases n with
  | true =>
    obtain ⟨rfl, rfl⟩ := h1.out (by trivial)
    go_wp2_with fail
    refine (M.out _).mono ?_
    rintro e w2 ⟨rfl, b2⟩
    replace b2 := Lib.hid (ext_trans b1.out b2)
    go_wp2_with fail
    refine (W.out _).mono ?_
    rintro e w3 ⟨rfl, b3⟩
    replace b3 := Lib.hid (ext_trans b2.out b3)
    go_wp2_with fail
    refine (W.out _).mono ?_
    rintro e w4 ⟨rfl, b4⟩
    replace b4 := Lib.hid (ext_trans b3.out b4)
    go_wp2_with fail
    refine (M2.out _).mono ?_
    rintro e w5 ⟨rfl, b5⟩
    replace b5 := Lib.hid (ext_trans b4.out b5)
    cases m2 with
    | false =>
      go_wp2_with fail
      refine (awake18_any _).mono ?_
      rintro e w6 ⟨rfl, b6⟩
      go_wp2_with fail
      go_ret
      exact ⟨rfl, ext_trans b5.out b6⟩
    | true =>
      obtain rfl := h2.out (by trivial) (by trivial)
      go_wp2_with fail
      refine (awake18_any _).mono ?_
      rintro e w6 ⟨rfl, b6⟩
      go_wp2_with fail
      go_ret
      exact ⟨rfl, ext_trans b5.out b6⟩
  | false =>
    go_wp2_with fail
    refine (W.out _).mono ?_
    rintro e w3 ⟨rfl, b3⟩
    replace b3 := Lib.hid (ext_trans b1.out b3)
    cases v with
    | true =>
      go_wp2_with fail
      refine (awake18_any _).mono ?_
      rintro e w6 ⟨rfl, b6⟩
      go_wp2_with fail
      go_ret
      exact ⟨rfl, ext_trans b3.out b6⟩
    | false =>
      go_wp2_with fail
      refine (M2.out _).mono ?_
      rintro e w5 ⟨rfl, b5⟩
      replace b5 := Lib.hid (ext_trans b3.out b5)
      cases m2 with
      | false =>
        go_wp2_with fail
        refine (awake18_any _).mono ?_
        rintro e w6 ⟨rfl, b6⟩
        go_wp2_with fail
        go_ret
        exact ⟨rfl, ext_trans b5.out b6⟩
      | true =>
        obtain rfl := h2.out (by trivial) (by trivial)
        go_wp2_with fail
        refine (awake18_any _).mono ?_
        rintro e w6 ⟨rfl, b6⟩
        go_wp2_with fail
        go_ret
        exact ⟨rfl, ext_trans b5.out b6⟩

set_option maxRecDepth 100000 in
theorem lifted (os : Os) (started : os.Started) (H : Type) (enc : TypeId × Value → H) (F : Stop.Interp) :
    ReturnsInHanded {} Try.checked os 4 .any ((Rows.OpenSpec.upto Rows.matchSelfSpec).pre6 enc Try.prog Try.f4 Rows.matchSelfUptoRow.domain false) (((Rows.OpenSpec.upto Rows.matchSelfSpec).at F).post enc Try.prog Try.f4 false true false false) := by
  refine returnsInHanded_of_cond (C := Try.checked) (s := Rows.OpenSpec.upto Rows.matchSelfSpec) (k := Rows.uptoSmall) rfl own started (by kernel_rfl) Try.func4
    (OpenSpec.witness (enc := enc) (C := Try.checked) (s := Rows.OpenSpec.upto Rows.matchSelfSpec) (k := Rows.uptoSmall) rfl false ⟨#[], #[.string ByteArray.empty, .string ByteArray.empty], []⟩ 8 (by kernel_rfl) (by kernel_rfl) (by kernel_rfl)
      (x := ([.lit (.string []), .lit (.string [])], [], [])) (by kernel_rfl) rfl (by kernel_rfl)) ?_
  intro W base args ds gs before hval0 hW hcnd hk _
  have hval : ∀ (j : Nat) t v, Try.f4.params[j]? = some t → args[j]? = some v → Value.okWide Try.prog W .any base t v := hval0
  have hW' := hW
  obtain ⟨p, q, hA0, hV, rfl, hfz, hnd⟩ := hW
  have hA : DataW.TrodAll enc Try.prog W 0 (fun _ => true) true Try.f4.params.toList args.toList ds p := hA0
  rw [Try.params4] at hA hval
  obtain ⟨v0, vs0, d0, ds0, p0, q0, hargs, rfl, rfl, h0, r0⟩ := trodAll_cons hA
  obtain ⟨v1, vs1, d1, ds1, p1, q1, rfl, rfl, rfl, h1, r1⟩ := trodAll_cons r0
  obtain ⟨rfl, rfl, rfl⟩ := trodAll_nil r1
  obtain rfl : args = #[v0, v1] := by cases args; simp_all
  obtain ⟨rfl, rfl⟩ := trodVars_none hV
  have hb0 : Rows.uptoBulk d0 ≤ 1048576 := bulks.le hk (by simp)
  have hb1 : Rows.uptoBulk d1 ≤ 1048576 := bulks.le hk (by simp)
  have k0 := h0
  have lt0 : ∀ x ∈ p0, x.block < W.heap.size := by obtain ⟨m, hm⟩ := k0; exact DataW.trod_lt m _ _ _ hm
  have k1 := h1
  have lt1 : ∀ x ∈ p1, x.block < W.heap.size := by obtain ⟨m, hm⟩ := k1; exact DataW.trod_lt m _ _ _ hm
  obtain ⟨a0, rfl, rfl, rfl, w0⟩ := open_string Try.underlying9 (hval 0 9 v0 rfl rfl) h0
  have s0 : a0.size ≤ 1048576 := by
    have := bulks.string_len hb0
    simp only [Array.length_toList] at this
    exact this
  obtain ⟨a1, rfl, rfl, rfl, w1⟩ := open_string Try.underlying9 (hval 1 9 v1 rfl rfl) h1
  have s1 : a1.size ≤ 1048576 := by
    have := bulks.string_len hb1
    simp only [Array.length_toList] at this
    exact this
  clear hA0 hval0
  refine (walk a0 a1 W s0 s1).mono fun e W' ⟨he, bel⟩ => ?_
  subst he
  exact ⟨_, rfl, _, _, _, [], _, [], hW', trodAll_mk1 (shut_bool Try.underlying4 _), (trodAll_cons_mk (Below.trod laidOut (by kernel_rfl) (of_decide_eq_true (by kernel_rfl)) k0 bel lt0) (trodAll_cons_mk (Below.trod laidOut (by kernel_rfl) (of_decide_eq_true (by kernel_rfl)) k1 bel lt1) trodAll_mk0)), rfl, bel.frame _, fun h => by cases h⟩

theorem over : Rows.matchSelfUptoRow.holds Try.pinned (Rows.OpenSpec.upto Rows.matchSelfSpec) :=
  OpenClaim.holds_of_cond 4 Try.f4 rfl rfl rfl rfl rfl rfl rfl ⟨rfl, rfl, rfl, rfl, rfl⟩ rfl rfl rfl rfl rfl (by kernel_rfl) Try.func4 (by kernel_rfl)
    (of_decide_eq_true (by kernel_rfl)) (by unfold Func.isWrapper; first | (rw [if_pos (by decide +kernel)]; kernel_rfl) | (rw [if_neg (by decide +kernel)]; exact ⟨rfl, rfl⟩))
    (fun os started H enc _ F => lifted os started H enc F)

theorem proved : Rows.MatchSelfUptoSaid := over
end Go.Proofs.Ytbmelmmefgehoaa.matchSelf
