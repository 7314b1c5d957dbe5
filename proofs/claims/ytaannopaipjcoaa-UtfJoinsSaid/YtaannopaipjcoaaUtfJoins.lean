/-
  UtfJoins: FOR EVERY INPUT the law returns true and leaves its arguments as they were.
-/
import Derived.Test.YtaannopaipjcoaaUl
import Derived.Test.YtaannopaipjcoaaRows
import Derived.WalkKit
import Derived.ProofKit
import Derived.OpenShut
import Derived.ShutString
import Derived.ChangeOld
import Derived.Below
import Derived.SizedLaws
namespace Go.Proofs.Ytaannopaipjcoaa.utfJoins
open Go.ChangeShapes Go.WideShapes Go.ChangeAt Go.RowKit
open Go.ChangeMaps (open_string shut_string)
set_option linter.unusedVariables false

theorem own : ownKnob Try.prog.godebug = none := by kernel_rfl
theorem laidOut : laidOutB Try.prog = true := by kernel_rfl

theorem conv_one (c : Nat) : ∀ W : World, (convert 22 9 (.slice (some ⟨W.heap.size, 0, none⟩) 1 1)).run Try.prog (W.alloc (.cells #[.int .u8 (c : Int)] 5)) = .ok (.string (strB [c])) (W.alloc (.cells #[.int .u8 (c : Int)] 5)) := by
  intro W
  have hB : BytesAt (W.alloc (.cells #[.int .u8 (c : Int)] 5)) (.slice (some ⟨W.heap.size, 0, none⟩) 1 1) [c] := by
    refine ⟨some ⟨W.heap.size, 0, none⟩, 1, rfl, ⟨by simp, fun h => by cases h⟩, .inr ⟨W.heap.size, 0, rfl, by simp, fun i hi => ?_⟩⟩
    obtain rfl : i = 0 := by simpa using hi
    rw [World.cell?_alloc_at _ _ _ _ rfl]; rfl
  exact hB.conv (P := Try.prog) Try.underlying22 Try.underlying5 Try.underlying9
theorem right_nul (a b : ByteArray) : rightB (a ++ ⟨#[0]⟩ ++ b) = false := by
  rw [ByteArray.append_assoc]
  have hs : 0 < (⟨#[0]⟩ : ByteArray).size := by decide
  exact join_nul a _ (by rw [ByteArray.size_append]; omega) (by rw [gB_left _ _ 0 hs]; rfl)
theorem right_mid (a b : ByteArray) (c : Nat) (ha : rightB a = true) (h : 128 ≤ c ∧ c ≤ 191) : rightB (a ++ strB [c] ++ b) = false := by
  rw [ByteArray.append_assoc]
  have hs : 0 < (strB [c]).size := by rw [strB_size]; simp
  have e : gB (strB [c]) 0 = c := by
    rw [← gB_at _ _ hs]
    show (UInt8.ofNat c).toNat = c
    simp; omega
  exact join_bad a _ ha (by rw [ByteArray.size_append]; omega) (by rw [gB_left _ _ 0 hs, e]; exact h)
set_option maxHeartbeats 2000000 in
set_option maxRecDepth 100000 in
theorem tail7 (a b : ByteArray) (R : Hid (∀ (s : ByteArray) (w : World), Calls Try.prog 15 #[.string s] w fun e w' => e = .returned (.bool (rightB s)) ∧ Below w.heap.size w w')) : ∀ w, Calls Try.prog 15 #[.string (a ++ ⟨#[0]⟩ ++ b)] w fun e w' => e = .returned (.bool false) ∧ Below w.heap.size w w' := by
  intro w
  have := R.out (a ++ ⟨#[0]⟩ ++ b) w
  rwa [right_nul] at this
set_option maxHeartbeats 4000000 in
set_option maxRecDepth 100000 in
theorem walk (a b : ByteArray) (c : Int) (w : World) (s0 : a.size ≤ 140737488351232) (s1 : b.size ≤ 140737488351232) (b2 : 0 ≤ c ∧ c ≤ 255) :
    Calls Try.prog 6 #[.string a, .string b, .int .u8 c] w (Yes w) := by
  have s0' : (a.size : Int) ≤ 140737488351232 := by omega
  have s1' : (b.size : Int) ≤ 140737488351232 := by omega
  by_cases h : 65534 < a.size + b.size
  · have h' : (65534 : Int) < a.size + b.size := by omega
    go_enter Try.func6, Try.ntmps6
    go_wp2_with fail
    refine (awake_any _).mono ?_
    rintro e w3 ⟨rfl, hb3⟩
    go_wp2_with fail
    go_ret
    exact ⟨rfl, hb3⟩
  · have h' : (a.size : Int) + b.size ≤ 65534 := by omega
    have R := right_any
    replace R := Lib.hid R
    have N := tail7 a b R
    replace N := Lib.hid N
    obtain ⟨c, rfl⟩ := Int.eq_ofNat_of_zero_le b2.1
    have c2 : (c : Int) ≤ 255 := b2.2
    have kc := conv_one c
    have A := fun w => R.out a w
    have B := fun w => R.out b w
    replace b2 := Lib.hid b2
    cases ra : rightB a
    · rw [ra] at A
      replace A := Lib.hid A
      replace B := Lib.hid B
      clear ra kc
      go_enter Try.func6, Try.ntmps6
      go_wp2_with fail
      refine (A.out _).mono ?_
      rintro e w1 ⟨rfl, hb1⟩
      go_wp2_with fail
      refine (A.out _).mono ?_
      rintro e w2 ⟨rfl, hb2⟩
      go_wp2_with fail
      refine (N.out _).mono ?_
      rintro e w3 ⟨rfl, hb3⟩
      go_wp2_with fail
      refine (awake_any _).mono ?_
      rintro e w4 ⟨rfl, hb4⟩
      go_wp2_with fail
      go_ret
      exact ⟨rfl, ext_trans (ext_trans (ext_trans hb1 hb2) hb3) hb4⟩
    · rw [ra] at A
      have AB : rightB b = true → ∀ w, Calls Try.prog 15 #[.string (a ++ b)] w fun e w' => e = .returned (.bool true) ∧ Below w.heap.size w w' := by
        intro rb w
        have := R.out (a ++ b) w
        rwa [join_right a b ra rb (by omega)] at this
      have M : 128 ≤ c ∧ c ≤ 191 → ∀ w, Calls Try.prog 15 #[.string (a ++ strB [c] ++ b)] w fun e w' => e = .returned (.bool false) ∧ Below w.heap.size w w' := by
        intro hc w
        have := R.out (a ++ strB [c] ++ b) w
        rwa [right_mid a b c ra hc] at this
      have hsz : (strB [c]).size = 1 := by rw [strB_size]; rfl
      replace A := Lib.hid A
      replace AB := Lib.hid AB
      replace M := Lib.hid M
      obtain ⟨S, hS⟩ : ∃ S, S = strB [c] := ⟨_, rfl⟩
      rw [← hS] at kc M hsz
      have hsz1 : (S.size : Int) ≤ 1 := by omega
      clear ra hS hsz
      cases rb : rightB b
      · rw [rb] at B
        replace B := Lib.hid B
        clear rb AB
        by_cases hc : 128 ≤ c ∧ c ≤ 191
        · have M := M.out hc
          replace M := Lib.hid M
          have hc1 : 128 ≤ (c : Int) := by omega
          have hc2 : (c : Int) ≤ 191 := by omega
          clear hc
          go_enter Try.func6, Try.ntmps6
          go_wp2_with fail
          refine (A.out _).mono ?_
          rintro e w1 ⟨rfl, hb1⟩
          go_wp2_with fail
          refine (B.out _).mono ?_
          rintro e w2 ⟨rfl, hb2⟩
          go_wp2_with fail
          refine (A.out _).mono ?_
          rintro e w3 ⟨rfl, hb3⟩
          go_wp2_with fail
          refine (M.out _).mono ?_
          rintro e w4 ⟨rfl, hb4⟩
          go_wp2_with fail
          refine (N.out _).mono ?_
          rintro e w5 ⟨rfl, hb5⟩
          go_wp2_with fail
          refine (awake_any _).mono ?_
          rintro e w6 ⟨rfl, hb6⟩
          go_wp2_with fail
          go_ret
          exact ⟨rfl, ext_trans (ext_trans (ext_trans (ext_trans (ext_trans hb1 hb2) hb3) (ext_trans (ext_alloc _ _) hb4)) hb5) hb6⟩
        · rcases (show (c : Int) < 128 ∨ (128 ≤ (c : Int) ∧ 191 < (c : Int)) by omega) with h1 | ⟨h1, h2⟩
          all_goals
            clear hc M
            go_enter Try.func6, Try.ntmps6
            go_wp2_with fail
            refine (A.out _).mono ?_
            rintro e w1 ⟨rfl, hb1⟩
            go_wp2_with fail
            refine (B.out _).mono ?_
            rintro e w2 ⟨rfl, hb2⟩
            go_wp2_with fail
            refine (A.out _).mono ?_
            rintro e w3 ⟨rfl, hb3⟩
            go_wp2_with fail
            refine (N.out _).mono ?_
            rintro e w5 ⟨rfl, hb5⟩
            go_wp2_with fail
            refine (awake_any _).mono ?_
            rintro e w6 ⟨rfl, hb6⟩
            go_wp2_with fail
            go_ret
            exact ⟨rfl, ext_trans (ext_trans (ext_trans (ext_trans hb1 hb2) hb3) hb5) hb6⟩
      · rw [rb] at B
        have AB := AB.out rb
        replace B := Lib.hid B
        replace AB := Lib.hid AB
        clear rb
        by_cases hc : 128 ≤ c ∧ c ≤ 191
        · have M := M.out hc
          replace M := Lib.hid M
          have hc1 : 128 ≤ (c : Int) := by omega
          have hc2 : (c : Int) ≤ 191 := by omega
          clear hc
          go_enter Try.func6, Try.ntmps6
          go_wp2_with fail
          refine (A.out _).mono ?_
          rintro e w1 ⟨rfl, hb1⟩
          go_wp2_with fail
          refine (B.out _).mono ?_
          rintro e w2 ⟨rfl, hb2⟩
          go_wp2_with fail
          refine (AB.out _).mono ?_
          rintro e w2' ⟨rfl, hb2'⟩
          go_wp2_with fail
          refine (A.out _).mono ?_
          rintro e w3 ⟨rfl, hb3⟩
          go_wp2_with fail
          refine (M.out _).mono ?_
          rintro e w4 ⟨rfl, hb4⟩
          go_wp2_with fail
          refine (N.out _).mono ?_
          rintro e w5 ⟨rfl, hb5⟩
          go_wp2_with fail
          refine (awake_any _).mono ?_
          rintro e w6 ⟨rfl, hb6⟩
          go_wp2_with fail
          go_ret
          exact ⟨rfl, ext_trans (ext_trans (ext_trans (ext_trans (ext_trans (ext_trans hb1 hb2) hb2') hb3) (ext_trans (ext_alloc _ _) hb4)) hb5) hb6⟩
        · rcases (show (c : Int) < 128 ∨ (128 ≤ (c : Int) ∧ 191 < (c : Int)) by omega) with h1 | ⟨h1, h2⟩
          all_goals
            clear hc M
            go_enter Try.func6, Try.ntmps6
            go_wp2_with fail
            refine (A.out _).mono ?_
            rintro e w1 ⟨rfl, hb1⟩
            go_wp2_with fail
            refine (B.out _).mono ?_
            rintro e w2 ⟨rfl, hb2⟩
            go_wp2_with fail
            refine (AB.out _).mono ?_
            rintro e w2' ⟨rfl, hb2'⟩
            go_wp2_with fail
            refine (A.out _).mono ?_
            rintro e w3 ⟨rfl, hb3⟩
            go_wp2_with fail
            refine (N.out _).mono ?_
            rintro e w5 ⟨rfl, hb5⟩
            go_wp2_with fail
            refine (awake_any _).mono ?_
            rintro e w6 ⟨rfl, hb6⟩
            go_wp2_with fail
            go_ret
            exact ⟨rfl, ext_trans (ext_trans (ext_trans (ext_trans (ext_trans hb1 hb2) hb2') hb3) hb5) hb6⟩

set_option maxRecDepth 100000 in
theorem lifted (os : Os) (started : os.Started) (H : Type) (enc : TypeId × Value → H) :
    ReturnsInHanded {} Try.checked os 6 .any (Rows.utfJoinsSpec.pre6 enc Try.prog Try.f6 Rows.utfJoinsRow.domain false) (Rows.utfJoinsSpec.post enc Try.prog Try.f6 false true false false) := by
  refine returnsInHanded_of_change_sized (C := Try.checked) own started (by kernel_rfl) Try.func6
    (ChangeSpec.witness6 (enc := enc) (C := Try.checked) false ⟨#[], #[.string ByteArray.empty, .string ByteArray.empty, .int .u8 0], []⟩ 8 (by kernel_rfl) (by kernel_rfl) (by kernel_rfl) (by kernel_rfl)) ?_
  intro W base args ds gs before hval0 hW hcnd hsz0 _
  have hsz : (DataW.weightsEach Try.prog (Try.f6.params.toList ++ Rows.utfJoinsSpec.plain.varTypes Try.prog) (ds ++ gs)).all (· ≤ reachBytes) = true := hsz0
  have hval : ∀ (j : Nat) t v, Try.f6.params[j]? = some t → args[j]? = some v → Value.okWide Try.prog W .any base t v := hval0
  have hW' := hW
  obtain ⟨p, q, hA0, hV, rfl, hfz, hnd⟩ := hW
  have hA : DataW.TrodAll enc Try.prog W 0 (fun _ => true) true Try.f6.params.toList args.toList ds p := hA0
  rw [Try.params6] at hA hval hsz
  obtain ⟨v0, vs0, d0, ds0, p0, q0, hargs, rfl, rfl, h0, r0⟩ := trodAll_cons hA
  obtain ⟨v1, vs1, d1, ds1, p1, q1, rfl, rfl, rfl, h1, r1⟩ := trodAll_cons r0
  obtain ⟨v2, vs2, d2, ds2, p2, q2, rfl, rfl, rfl, h2, r2⟩ := trodAll_cons r1
  obtain ⟨rfl, rfl, rfl⟩ := trodAll_nil r2
  obtain rfl : args = #[v0, v1, v2] := by cases args; simp_all
  obtain ⟨rfl, rfl⟩ := trodVars_none hV
  have k0 := h0
  have lt0 : ∀ x ∈ p0, x.block < W.heap.size := by obtain ⟨m, hm⟩ := k0; exact DataW.trod_lt m _ _ _ hm
  have k1 := h1
  have lt1 : ∀ x ∈ p1, x.block < W.heap.size := by obtain ⟨m, hm⟩ := k1; exact DataW.trod_lt m _ _ _ hm
  have k2 := h2
  have lt2 : ∀ x ∈ p2, x.block < W.heap.size := by obtain ⟨m, hm⟩ := k2; exact DataW.trod_lt m _ _ _ hm
  obtain ⟨a0, rfl, rfl, rfl, w0⟩ := open_string Try.underlying9 (hval 0 9 v0 rfl rfl) h0
  have s0 : a0.size ≤ 140737488351232 := by
    have := sized_string hsz (j := 0) (t := 9) rfl rfl
    simp only [Array.length_toList, reachBytes] at this
    exact this
  obtain ⟨a1, rfl, rfl, rfl, w1⟩ := open_string Try.underlying9 (hval 1 9 v1 rfl rfl) h1
  have s1 : a1.size ≤ 140737488351232 := by
    have := sized_string hsz (j := 1) (t := 9) rfl rfl
    simp only [Array.length_toList, reachBytes] at this
    exact this
  obtain ⟨a2, rfl, rfl, rfl, w2⟩ := open_int Try.underlying5 (hval 2 5 v2 rfl rfl) h2
  have b2 := wf_u8 w2
  clear hA0 hval0 hsz0
  refine (walk a0 a1 a2 W s0 s1 b2).mono fun e W' ⟨he, bel⟩ => ?_
  subst he
  exact ⟨_, rfl, _, _, _, [], _, [], hW', trodAll_mk1 (shut_bool Try.underlying4 _), (trodAll_cons_mk (Below.trod laidOut (by kernel_rfl) (of_decide_eq_true (by kernel_rfl)) k0 bel lt0) (trodAll_cons_mk (Below.trod laidOut (by kernel_rfl) (of_decide_eq_true (by kernel_rfl)) k1 bel lt1) (trodAll_cons_mk (Below.trod laidOut (by kernel_rfl) (of_decide_eq_true (by kernel_rfl)) k2 bel lt2) trodAll_mk0))), rfl, bel.frame _, fun h => by cases h⟩

theorem over : Rows.utfJoinsRow.holds Try.pinned (OpenSpec.ofChange Rows.utfJoinsSpec) :=
  OpenClaim.holds_of_wide 6 Try.f6 rfl rfl rfl rfl rfl rfl rfl ⟨rfl, rfl, rfl, rfl, rfl⟩ rfl rfl rfl rfl rfl (by kernel_rfl) Try.func6 (by kernel_rfl)
    (of_decide_eq_true (by kernel_rfl)) (by unfold Func.isWrapper; first | (rw [if_pos (by decide +kernel)]; kernel_rfl) | (rw [if_neg (by decide +kernel)]; exact ⟨rfl, rfl⟩))
    (fun os started H enc _ => lifted os started H enc)

theorem proved : Rows.UtfJoinsSaid := over
end Go.Proofs.Ytaannopaipjcoaa.utfJoins
