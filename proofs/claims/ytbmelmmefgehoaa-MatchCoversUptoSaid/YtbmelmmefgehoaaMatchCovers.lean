/-
  MatchCovers: FOR EVERY INPUT the law returns true and leaves its arguments as they were.
-/
import Derived.Test.YtbmelmmefgehoaaTe
import Derived.Test.YtbmelmmefgehoaaRows
import Derived.WalkKit
import Derived.ProofKit
import Derived.OpenShut
import Derived.ShutString
import Derived.ChangeOld
import Derived.Below
import Derived.SizedLaws
import Derived.Lib.SmallJoins
import Derived.JoinedCond
import Derived.Test.YtbmelmmefgehoaaBulk
namespace Go.Proofs.Ytbmelmmefgehoaa.matchCovers
open Go.ChangeShapes Go.WideShapes Go.ChangeAt Go.RowKit
open Go.ChangeMaps (open_string shut_string)
set_option linter.unusedVariables false

theorem own : ownKnob Try.prog.godebug = none := by kernel_rfl
theorem laidOut : laidOutB Try.prog = true := by kernel_rfl

set_option maxHeartbeats 4000000 in
set_option maxRecDepth 100000 in
theorem walk (a b c n : ByteArray) (w : World) (ha : a.size ≤ 1048576) (hb : b.size ≤ 1048576) (hc : c.size ≤ 1048576) (hn : n.size ≤ 1048576) : Calls Try.prog 5 #[.string a, .string b, .string c, .string n] w (Yes w) := by
  have C1 := Lib.hid fun w => cover_any a b w ha hb
  have M1 := Lib.hid fun w => match_any b n w hb hn
  have M2 := Lib.hid fun w => match_any a n w ha hn
  have C2 := Lib.hid fun w => cover_any b c w hb hc
  have C3 := Lib.hid fun w => cover_any a c w ha hc
  have C4 := Lib.hid fun w => cover_any a a w ha ha
  have F := Lib.hid fun w => fil_any a w ha
  have h1 : coversB a b = true → matchB b n = true → matchB a n = true := match_cov
  have h2 : coversB a b = true → coversB b c = true → coversB a c = true := covers_cov
  rw [covers_self a] at C4
  generalize coversB a b = c1 at *
  generalize matchB b n = m1 at *
  generalize matchB a n = m2 at *
  generalize coversB b c = c2 at *
  generalize coversB a c = c3 at *
  generalize filterB a = f at *
  replace h1 := Lib.hid h1
  replace h2 := Lib.hid h2
  clear ha hb hc hn
  go_enter Try.func5, Try.ntmps5
  go_wp2_with fail
  refine (C1.out _).mono ?_
  rintro e w1 ⟨rfl, b1⟩
  replace b1 := Lib.hid b1
  cases c1 with
  | true =>
    go_wp2_with fail
    refine (M1.out _).mono ?_
    rintro e w11 ⟨rfl, b11⟩
    replace b11 := Lib.hid (ext_trans b1.out b11)
    cases m1 with
    | true =>
      obtain rfl := h1.out (by trivial) (by trivial)
      go_wp2_with fail
      refine (M2.out _).mono ?_
      rintro e w12 ⟨rfl, b12⟩
      replace b12 := Lib.hid (ext_trans b11.out b12)
      go_wp2_with fail
      refine (C1.out _).mono ?_
      rintro e w13 ⟨rfl, b13⟩
      replace b13 := Lib.hid (ext_trans b12.out b13)
      go_wp2_with fail
      refine (C2.out _).mono ?_
      rintro e w14 ⟨rfl, b14⟩
      replace b14 := Lib.hid (ext_trans b13.out b14)
      cases c2 with
      | true =>
        obtain rfl := h2.out (by trivial) (by trivial)
        go_wp2_with fail
        refine (C3.out _).mono ?_
        rintro e w15 ⟨rfl, b15⟩
        replace b15 := Lib.hid (ext_trans b14.out b15)
        go_wp2_with fail
        refine (C4.out _).mono ?_
        rintro e w16 ⟨rfl, b16⟩
        replace b16 := Lib.hid (ext_trans b15.out b16)
        go_wp2_with fail
        refine (F.out _).mono ?_
        rintro e w17 ⟨rfl, b17⟩
        replace b17 := Lib.hid (ext_trans b16.out b17)
        go_wp2_with fail
        refine (awake18_any _).mono ?_
        rintro e wz ⟨rfl, bz⟩
        go_wp2_with fail
        go_ret
        exact ⟨rfl, ext_trans b17.out bz⟩
      | false =>
        go_wp2_with fail
        refine (C4.out _).mono ?_
        rintro e w18 ⟨rfl, b18⟩
        replace b18 := Lib.hid (ext_trans b14.out b18)
        go_wp2_with fail
        refine (F.out _).mono ?_
        rintro e w19 ⟨rfl, b19⟩
        replace b19 := Lib.hid (ext_trans b18.out b19)
        go_wp2_with fail
        refine (awake18_any _).mono ?_
        rintro e wz ⟨rfl, bz⟩
        go_wp2_with fail
        go_ret
        exact ⟨rfl, ext_trans b19.out bz⟩
    | false =>
      go_wp2_with fail
      refine (C1.out _).mono ?_
      rintro e w20 ⟨rfl, b20⟩
      replace b20 := Lib.hid (ext_trans b11.out b20)
      go_wp2_with fail
      refine (C2.out _).mono ?_
      rintro e w21 ⟨rfl, b21⟩
      replace b21 := Lib.hid (ext_trans b20.out b21)
      cases c2 with
      | true =>
        obtain rfl := h2.out (by trivial) (by trivial)
        go_wp2_with fail
        refine (C3.out _).mono ?_
        rintro e w22 ⟨rfl, b22⟩
        replace b22 := Lib.hid (ext_trans b21.out b22)
        go_wp2_with fail
        refine (C4.out _).mono ?_
        rintro e w23 ⟨rfl, b23⟩
        replace b23 := Lib.hid (ext_trans b22.out b23)
        go_wp2_with fail
        refine (F.out _).mono ?_
        rintro e w24 ⟨rfl, b24⟩
        replace b24 := Lib.hid (ext_trans b23.out b24)
        go_wp2_with fail
        refine (awake18_any _).mono ?_
        rintro e wz ⟨rfl, bz⟩
        go_wp2_with fail
        go_ret
        exact ⟨rfl, ext_trans b24.out bz⟩
      | false =>
        go_wp2_with fail
        refine (C4.out _).mono ?_
        rintro e w25 ⟨rfl, b25⟩
        replace b25 := Lib.hid (ext_trans b21.out b25)
        go_wp2_with fail
        refine (F.out _).mono ?_
        rintro e w26 ⟨rfl, b26⟩
        replace b26 := Lib.hid (ext_trans b25.out b26)
        go_wp2_with fail
        refine (awake18_any _).mono ?_
        rintro e wz ⟨rfl, bz⟩
        go_wp2_with fail
        go_ret
        exact ⟨rfl, ext_trans b26.out bz⟩
  | false =>
    go_wp2_with fail
    refine (C1.out _).mono ?_
    rintro e w27 ⟨rfl, b27⟩
    replace b27 := Lib.hid (ext_trans b1.out b27)
    go_wp2_with fail
    refine (C4.out _).mono ?_
    rintro e w28 ⟨rfl, b28⟩
    replace b28 := Lib.hid (ext_trans b27.out b28)
    go_wp2_with fail
    refine (F.out _).mono ?_
    rintro e w29 ⟨rfl, b29⟩
    replace b29 := Lib.hid (ext_trans b28.out b29)
    go_wp2_with fail
    refine (awake18_any _).mono ?_
    rintro e wz ⟨rfl, bz⟩
    go_wp2_with fail
    go_ret
    exact ⟨rfl, ext_trans b29.out bz⟩

set_option maxRecDepth 100000 in
theorem lifted (os : Os) (started : os.Started) (H : Type) (enc : TypeId × Value → H) (F : Stop.Interp) :
    ReturnsInHanded {} Try.checked os 5 .any ((Rows.OpenSpec.upto Rows.matchCoversSpec).pre6 enc Try.prog Try.f5 Rows.matchCoversUptoRow.domain false) (((Rows.OpenSpec.upto Rows.matchCoversSpec).at F).post enc Try.prog Try.f5 false true false false) := by
  refine returnsInHanded_of_cond (C := Try.checked) (s := Rows.OpenSpec.upto Rows.matchCoversSpec) (k := Rows.uptoSmall) rfl own started (by kernel_rfl) Try.func5
    (OpenSpec.witness (enc := enc) (C := Try.checked) (s := Rows.OpenSpec.upto Rows.matchCoversSpec) (k := Rows.uptoSmall) rfl false ⟨#[], #[.string ByteArray.empty, .string ByteArray.empty, .string ByteArray.empty, .string ByteArray.empty], []⟩ 8 (by kernel_rfl) (by kernel_rfl) (by kernel_rfl)
      (x := ([.lit (.string []), .lit (.string []), .lit (.string []), .lit (.string [])], [], [])) (by kernel_rfl) rfl (by kernel_rfl)) ?_
  intro W base args ds gs before hval0 hW hcnd hk _
  have hval : ∀ (j : Nat) t v, Try.f5.params[j]? = some t → args[j]? = some v → Value.okWide Try.prog W .any base t v := hval0
  have hW' := hW
  obtain ⟨p, q, hA0, hV, rfl, hfz, hnd⟩ := hW
  have hA : DataW.TrodAll enc Try.prog W 0 (fun _ => true) true Try.f5.params.toList args.toList ds p := hA0
  rw [Try.params5] at hA hval
  obtain ⟨v0, vs0, d0, ds0, p0, q0, hargs, rfl, rfl, h0, r0⟩ := trodAll_cons hA
  obtain ⟨v1, vs1, d1, ds1, p1, q1, rfl, rfl, rfl, h1, r1⟩ := trodAll_cons r0
  obtain ⟨v2, vs2, d2, ds2, p2, q2, rfl, rfl, rfl, h2, r2⟩ := trodAll_cons r1
  obtain ⟨v3, vs3, d3, ds3, p3, q3, rfl, rfl, rfl, h3, r3⟩ := trodAll_cons r2
  obtain ⟨rfl, rfl, rfl⟩ := trodAll_nil r3
  obtain rfl : args = #[v0, v1, v2, v3] := by cases args; simp_all
  obtain ⟨rfl, rfl⟩ := trodVars_none hV
  have hb0 : Rows.uptoBulk d0 ≤ 1048576 := bulks.le hk (by simp)
  have hb1 : Rows.uptoBulk d1 ≤ 1048576 := bulks.le hk (by simp)
  have hb2 : Rows.uptoBulk d2 ≤ 1048576 := bulks.le hk (by simp)
  have hb3 : Rows.uptoBulk d3 ≤ 1048576 := bulks.le hk (by simp)
  have k0 := h0
  have lt0 : ∀ x ∈ p0, x.block < W.heap.size := by obtain ⟨m, hm⟩ := k0; exact DataW.trod_lt m _ _ _ hm
  have k1 := h1
  have lt1 : ∀ x ∈ p1, x.block < W.heap.size := by obtain ⟨m, hm⟩ := k1; exact DataW.trod_lt m _ _ _ hm
  have k2 := h2
  have lt2 : ∀ x ∈ p2, x.block < W.heap.size := by obtain ⟨m, hm⟩ := k2; exact DataW.trod_lt m _ _ _ hm
  have k3 := h3
  have lt3 : ∀ x ∈ p3, x.block < W.heap.size := by obtain ⟨m, hm⟩ := k3; exact DataW.trod_lt m _ _ _ hm
  obtain ⟨a0, rfl, rfl, rfl, w0⟩ := open_string Try.underlying9 (hval 0 9 v0 rfl rfl) h0
  have s0 : a0.size ≤ 1048576 := by
    have := bulks.string_len hb0
    simp only [Array.length_toList] at this
    exact this
  obtain ⟨a1, rfl, rfl, rfl, w1⟩ := open_string Try.underlying9 (hval 1 9 v1 rfl rfl) h1
  have s1 : a1.size ≤ 1048576 := by
    have := bulks.string_len hb1
    simp only [Array.length_toList] at this
    exact this
  obtain ⟨a2, rfl, rfl, rfl, w2⟩ := open_string Try.underlying9 (hval 2 9 v2 rfl rfl) h2
  have s2 : a2.size ≤ 1048576 := by
    have := bulks.string_len hb2
    simp only [Array.length_toList] at this
    exact this
  obtain ⟨a3, rfl, rfl, rfl, w3⟩ := open_string Try.underlying9 (hval 3 9 v3 rfl rfl) h3
  have s3 : a3.size ≤ 1048576 := by
    have := bulks.string_len hb3
    simp only [Array.length_toList] at this
    exact this
  clear hA0 hval0
  refine (walk a0 a1 a2 a3 W s0 s1 s2 s3).mono fun e W' ⟨he, bel⟩ => ?_
  subst he
  exact ⟨_, rfl, _, _, _, [], _, [], hW', trodAll_mk1 (shut_bool Try.underlying4 _), (trodAll_cons_mk (Below.trod laidOut (by kernel_rfl) (of_decide_eq_true (by kernel_rfl)) k0 bel lt0) (trodAll_cons_mk (Below.trod laidOut (by kernel_rfl) (of_decide_eq_true (by kernel_rfl)) k1 bel lt1) (trodAll_cons_mk (Below.trod laidOut (by kernel_rfl) (of_decide_eq_true (by kernel_rfl)) k2 bel lt2) (trodAll_cons_mk (Below.trod laidOut (by kernel_rfl) (of_decide_eq_true (by kernel_rfl)) k3 bel lt3) trodAll_mk0)))), rfl, bel.frame _, fun h => by cases h⟩

theorem over : Rows.matchCoversUptoRow.holds Try.pinned (Rows.OpenSpec.upto Rows.matchCoversSpec) :=
  OpenClaim.holds_of_cond 5 Try.f5 rfl rfl rfl rfl rfl rfl rfl ⟨rfl, rfl, rfl, rfl, rfl⟩ rfl rfl rfl rfl rfl (by kernel_rfl) Try.func5 (by kernel_rfl)
    (of_decide_eq_true (by kernel_rfl)) (by unfold Func.isWrapper; first | (rw [if_pos (by decide +kernel)]; kernel_rfl) | (rw [if_neg (by decide +kernel)]; exact ⟨rfl, rfl⟩))
    (fun os started H enc _ F => lifted os started H enc F)

theorem proved : Rows.MatchCoversUptoSaid := over
end Go.Proofs.Ytbmelmmefgehoaa.matchCovers
