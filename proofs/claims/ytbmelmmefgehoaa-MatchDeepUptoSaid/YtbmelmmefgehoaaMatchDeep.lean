/-
  MatchDeep: FOR EVERY INPUT the law returns true and leaves its arguments as they were.
-/
import Derived.Test.YtbmelmmefgehoaaTg
import Derived.Test.YtbmelmmefgehoaaRows
import Derived.WalkKit
import Derived.ProofKit
import Derived.OpenShut
import Derived.ShutString
import Derived.ChangeOld
import Derived.Below
import Derived.SizedLaws
import Derived.Lib.SmallJoins
import Derived.JoinedCond
import Derived.Test.YtbmelmmefgehoaaBulk
namespace Go.Proofs.Ytbmelmmefgehoaa.matchDeep
open Go.ChangeShapes Go.WideShapes Go.ChangeAt Go.RowKit
open Go.ChangeMaps (open_string shut_string)
set_option linter.unusedVariables false

theorem own : ownKnob Try.prog.godebug = none := by kernel_rfl
theorem laidOut : laidOutB Try.prog = true := by kernel_rfl

set_option maxHeartbeats 4000000 in
set_option maxRecDepth 100000 in
theorem walk1 (a b : ByteArray) (w : World) (ha : a.size ≤ 1048576) (hb : b.size ≤ 1048576) (hA : nameB a = false) : Calls Try.prog 6 #[.string a, .string b] w (Yes w) := by
  have hsz : ((a ++ ⟨#[47]⟩ : ByteArray) ++ b).size = a.size + 1 + b.size := by rw [ByteArray.size_append, ByteArray.size_append]; rfl
  have N := fun w => nam_any a w ha
  have N2 := fun w => nam_all ((a ++ ⟨#[47]⟩ : ByteArray) ++ b) w (by omega)
  rw [hA] at N
  clear hA
  have p1 : ∀ w, (Op.stringOp .add a ⟨#[47]⟩).run Try.prog w = .ok (.string (a ++ ⟨#[47]⟩)) w := fun w => run_string_add_sum w a _ (by show a.size + 1 ≤ _; omega)
  have p2 : ∀ w, (Op.stringOp .add (a ++ ⟨#[47]⟩) b).run Try.prog w = .ok (.string (a ++ ⟨#[47]⟩ ++ b)) w := fun w => run_string_add_sum w _ b (by rw [ByteArray.size_append]; show a.size + 1 + b.size ≤ _; omega)
  have p3 : ∀ w, (Op.stringOp .add a ⟨#[47, 35]⟩).run Try.prog w = .ok (.string (a ++ ⟨#[47, 35]⟩)) w := fun w => run_string_add_sum w a _ (by show a.size + 2 ≤ _; omega)
  replace N := Lib.hid N
  replace N2 := Lib.hid N2
  clear ha hb hsz
  go_enter Try.func6, Try.ntmps6
  go_wp2_with fail
  refine (N.out _).mono ?_
  rintro e w1 ⟨rfl, b1⟩
  replace b1 := Lib.hid b1
  go_wp2_with fail
  refine (awake18_any _).mono ?_
  rintro e w2 ⟨rfl, b2⟩
  go_wp2_with fail
  go_ret
  exact ⟨rfl, ext_trans b1.out b2⟩
set_option maxHeartbeats 4000000 in
set_option maxRecDepth 100000 in
theorem walk2 (a b : ByteArray) (w : World) (ha : a.size ≤ 1048576) (hb : b.size ≤ 1048576) (hA : nameB a = true) (hN : nameB (a ++ ⟨#[47]⟩ ++ b) = false) : Calls Try.prog 6 #[.string a, .string b] w (Yes w) := by
  have hsz : ((a ++ ⟨#[47]⟩ : ByteArray) ++ b).size = a.size + 1 + b.size := by rw [ByteArray.size_append, ByteArray.size_append]; rfl
  have N := fun w => nam_any a w ha
  have N2 := fun w => nam_all ((a ++ ⟨#[47]⟩ : ByteArray) ++ b) w (by omega)
  rw [hA] at N
  rw [hN] at N2
  clear hA hN
  have p1 : ∀ w, (Op.stringOp .add a ⟨#[47]⟩).run Try.prog w = .ok (.string (a ++ ⟨#[47]⟩)) w := fun w => run_string_add_sum w a _ (by show a.size + 1 ≤ _; omega)
  have p2 : ∀ w, (Op.stringOp .add (a ++ ⟨#[47]⟩) b).run Try.prog w = .ok (.string (a ++ ⟨#[47]⟩ ++ b)) w := fun w => run_string_add_sum w _ b (by rw [ByteArray.size_append]; show a.size + 1 + b.size ≤ _; omega)
  have p3 : ∀ w, (Op.stringOp .add a ⟨#[47, 35]⟩).run Try.prog w = .ok (.string (a ++ ⟨#[47, 35]⟩)) w := fun w => run_string_add_sum w a _ (by show a.size + 2 ≤ _; omega)
  replace N := Lib.hid N
  replace N2 := Lib.hid N2
  clear ha hb hsz
  go_enter Try.func6, Try.ntmps6
  go_wp2_with fail
  refine (N.out _).mono ?_
  rintro e w1 ⟨rfl, b1⟩
  replace b1 := Lib.hid b1
  go_wp2_with fail
  refine (N2.out _).mono ?_
  rintro e w2 ⟨rfl, b2⟩
  replace b2 := Lib.hid (ext_trans b1.out b2)
  go_wp2_with fail
  refine (awake18_any _).mono ?_
  rintro e w3 ⟨rfl, b3⟩
  go_wp2_with fail
  go_ret
  exact ⟨rfl, ext_trans b2.out b3⟩
set_option maxHeartbeats 4000000 in
set_option maxRecDepth 100000 in
theorem walk3 (a b : ByteArray) (w : World) (ha : a.size ≤ 1048576) (hb : b.size ≤ 1048576) (hA : nameB a = true) (hN : nameB (a ++ ⟨#[47]⟩ ++ b) = true) (hF : filterB (a ++ ⟨#[47, 35]⟩) = false) : Calls Try.prog 6 #[.string a, .string b] w (Yes w) := by
  have hsz : ((a ++ ⟨#[47]⟩ : ByteArray) ++ b).size = a.size + 1 + b.size := by rw [ByteArray.size_append, ByteArray.size_append]; rfl
  have N := fun w => nam_any a w ha
  have N2 := fun w => nam_all ((a ++ ⟨#[47]⟩ : ByteArray) ++ b) w (by omega)
  have h96 : a.size ≤ 96 := ((fits_iff _).1 ((name_iff _).1 hA).1).2.1
  have F := fun w => fil_any (a ++ ⟨#[47, 35]⟩) w (by rw [ByteArray.size_append]; show a.size + 2 ≤ _; omega)
  rw [hA] at N
  rw [hN] at N2
  rw [hF] at F
  replace F := Lib.hid F
  clear hA hN hF h96
  have p1 : ∀ w, (Op.stringOp .add a ⟨#[47]⟩).run Try.prog w = .ok (.string (a ++ ⟨#[47]⟩)) w := fun w => run_string_add_sum w a _ (by show a.size + 1 ≤ _; omega)
  have p2 : ∀ w, (Op.stringOp .add (a ++ ⟨#[47]⟩) b).run Try.prog w = .ok (.string (a ++ ⟨#[47]⟩ ++ b)) w := fun w => run_string_add_sum w _ b (by rw [ByteArray.size_append]; show a.size + 1 + b.size ≤ _; omega)
  have p3 : ∀ w, (Op.stringOp .add a ⟨#[47, 35]⟩).run Try.prog w = .ok (.string (a ++ ⟨#[47, 35]⟩)) w := fun w => run_string_add_sum w a _ (by show a.size + 2 ≤ _; omega)
  replace N := Lib.hid N
  replace N2 := Lib.hid N2
  clear ha hb hsz
  go_enter Try.func6, Try.ntmps6
  go_wp2_with fail
  refine (N.out _).mono ?_
  rintro e w1 ⟨rfl, b1⟩
  replace b1 := Lib.hid b1
  go_wp2_with fail
  refine (N2.out _).mono ?_
  rintro e w2 ⟨rfl, b2⟩
  replace b2 := Lib.hid (ext_trans b1.out b2)
  go_wp2_with fail
  refine (F.out _).mono ?_
  rintro e w3 ⟨rfl, b3⟩
  replace b3 := Lib.hid (ext_trans b2.out b3)
  go_wp2_with fail
  refine (awake18_any _).mono ?_
  rintro e w4 ⟨rfl, b4⟩
  go_wp2_with fail
  go_ret
  exact ⟨rfl, ext_trans b3.out b4⟩
set_option maxHeartbeats 4000000 in
set_option maxRecDepth 100000 in
theorem walk4 (a b : ByteArray) (w : World) (ha : a.size ≤ 1048576) (hb : b.size ≤ 1048576) (hA : nameB a = true) (hN : nameB (a ++ ⟨#[47]⟩ ++ b) = true) (hF : filterB (a ++ ⟨#[47, 35]⟩) = true) : Calls Try.prog 6 #[.string a, .string b] w (Yes w) := by
  have hsz : ((a ++ ⟨#[47]⟩ : ByteArray) ++ b).size = a.size + 1 + b.size := by rw [ByteArray.size_append, ByteArray.size_append]; rfl
  have N := fun w => nam_any a w ha
  have N2 := fun w => nam_all ((a ++ ⟨#[47]⟩ : ByteArray) ++ b) w (by omega)
  have h96 : a.size ≤ 96 := ((fits_iff _).1 ((name_iff _).1 hA).1).2.1
  have F := fun w => fil_any (a ++ ⟨#[47, 35]⟩) w (by rw [ByteArray.size_append]; show a.size + 2 ≤ _; omega)
  rw [hA] at N
  rw [hN] at N2
  rw [hF] at F
  replace F := Lib.hid F
  have hbs : b.size ≤ 96 := by have := ((fits_iff _).1 ((name_iff _).1 hN).1).2.1; omega
  have s1 : (a ++ ⟨#[47, 35]⟩ : ByteArray).size ≤ 1048576 := by rw [ByteArray.size_append]; show a.size + 2 ≤ _; omega
  have s2 : (a ++ ⟨#[47, 43]⟩ : ByteArray).size ≤ 1048576 := by rw [ByteArray.size_append]; show a.size + 2 ≤ _; omega
  have s3 : (⟨#[43, 47]⟩ ++ b : ByteArray).size ≤ 1048576 := by rw [ByteArray.size_append]; show 2 + b.size ≤ _; omega
  have s4 : ((a ++ ⟨#[47]⟩ : ByteArray) ++ b).size ≤ 1048576 := by omega
  have D1 : ∀ w, Calls Try.prog 7 #[.string (a ++ ⟨#[47, 35]⟩), .string a] w (BoolIs true w) := fun w => deep1 hA hF ▸ match_any _ _ w s1 ha
  have D2 : ∀ w, Calls Try.prog 7 #[.string (a ++ ⟨#[47, 35]⟩), .string (a ++ ⟨#[47]⟩ ++ b)] w (BoolIs true w) := fun w => deep2 hA hN hF ▸ match_any _ _ w s1 s4
  have D3 : ∀ w, Calls Try.prog 7 #[.string (a ++ ⟨#[47, 43]⟩), .string (a ++ ⟨#[47]⟩ ++ b)] w (BoolIs (decide ((spS b).length = 1)) w) := fun w => deep3 hA hN hF ▸ match_any _ _ w s2 s4
  have D4 : ∀ w, Calls Try.prog 7 #[.string (a ++ ⟨#[47, 43]⟩), .string a] w (BoolIs false w) := fun w => deep4 hA ▸ match_any _ _ w s2 ha
  have D5 : ∀ w, Calls Try.prog 7 #[.string ⟨#[35]⟩, .string (a ++ ⟨#[47]⟩ ++ b)] w (BoolIs (!hidB a) w) := fun w => deep5 hN ▸ match_any _ _ w (by decide) s4
  have D6 : ∀ w, Calls Try.prog 7 #[.string (⟨#[43, 47]⟩ ++ b), .string (a ++ ⟨#[47]⟩ ++ b)] w (BoolIs (!hidB a && decide ((spS a).length = 1)) w) := fun w => deep6 hA hN ▸ match_any _ _ w s3 s4
  have HD := fun w => hidden_any a w
  have SA := fun w => split_any a w ha
  have SB := fun w => split_any b w hb
  have p4 : ∀ w, (Op.stringOp .add a ⟨#[47, 43]⟩).run Try.prog w = .ok (.string (a ++ ⟨#[47, 43]⟩)) w := fun w => run_string_add_sum w a _ (by show a.size + 2 ≤ _; omega)
  have p5 : ∀ w, (Op.stringOp .add ⟨#[43, 47]⟩ b).run Try.prog w = .ok (.string (⟨#[43, 47]⟩ ++ b)) w := fun w => run_string_add_sum w _ b (by show 2 + b.size ≤ _; omega)
  have ka : (((spS a).length : Int) == 1) = decide ((spS a).length = 1) := by
    by_cases h : (spS a).length = 1
    · simp [h]
    · rw [decide_eq_false h, beq_eq_false_iff_ne]; omega
  have kb : (((spS b).length : Int) == 1) = decide ((spS b).length = 1) := by
    by_cases h : (spS b).length = 1
    · simp [h]
    · rw [decide_eq_false h, beq_eq_false_iff_ne]; omega
  have na := spS_pos a
  have nb := spS_pos b
  have la : ((spS a).length : Int) ≤ 1048577 := by have := spS_le a; omega
  have lb : ((spS b).length : Int) ≤ 1048577 := by have := spS_le b; omega
  generalize decide ((spS a).length = 1) = oa at *
  generalize decide ((spS b).length = 1) = ob at *
  generalize hidB a = h at *
  replace D1 := Lib.hid D1
  replace D2 := Lib.hid D2
  replace D3 := Lib.hid D3
  replace D4 := Lib.hid D4
  replace D5 := Lib.hid D5
  replace D6 := Lib.hid D6
  replace HD := Lib.hid HD
  replace SA := Lib.hid SA
  replace SB := Lib.hid SB
  clear hA hN hF h96 hbs s1 s2 s3 s4
  have p1 : ∀ w, (Op.stringOp .add a ⟨#[47]⟩).run Try.prog w = .ok (.string (a ++ ⟨#[47]⟩)) w := fun w => run_string_add_sum w a _ (by show a.size + 1 ≤ _; omega)
  have p2 : ∀ w, (Op.stringOp .add (a ++ ⟨#[47]⟩) b).run Try.prog w = .ok (.string (a ++ ⟨#[47]⟩ ++ b)) w := fun w => run_string_add_sum w _ b (by rw [ByteArray.size_append]; show a.size + 1 + b.size ≤ _; omega)
  have p3 : ∀ w, (Op.stringOp .add a ⟨#[47, 35]⟩).run Try.prog w = .ok (.string (a ++ ⟨#[47, 35]⟩)) w := fun w => run_string_add_sum w a _ (by show a.size + 2 ≤ _; omega)
  replace N := Lib.hid N
  replace N2 := Lib.hid N2
  clear ha hb hsz
  go_enter Try.func6, Try.ntmps6
  go_wp2_with fail
  refine (N.out _).mono ?_
  rintro e w1 ⟨rfl, b1⟩
  replace b1 := Lib.hid b1
  go_wp2_with fail
  refine (N2.out _).mono ?_
  rintro e w2 ⟨rfl, b2⟩
  replace b2 := Lib.hid (ext_trans b1.out b2)
  go_wp2_with fail
  refine (F.out _).mono ?_
  rintro e w3 ⟨rfl, b3⟩
  replace b3 := Lib.hid (ext_trans b2.out b3)
  go_wp2_with fail
  refine (SB.out _).mono ?_
  rintro e w4 ⟨v, rfl, hown, b4⟩
  replace b4 := Lib.hid (ext_trans b3.out b4)
  obtain ⟨g, cap, rfl, -, -, -, -⟩ := own_cells hown (by omega)
  clear hown
  go_wp2_with fail
  refine (HD.out _).mono ?_
  rintro e w5 ⟨rfl, b5⟩
  replace b5 := Lib.hid (ext_trans b4.out b5)
  go_wp2_with fail
  refine (D1.out _).mono ?_
  rintro e w6 ⟨rfl, b6⟩
  replace b6 := Lib.hid (ext_trans b5.out b6)
  go_wp2_with fail
  refine (D2.out _).mono ?_
  rintro e w7 ⟨rfl, b7⟩
  replace b7 := Lib.hid (ext_trans b6.out b7)
  go_wp2_with fail
  refine (D3.out _).mono ?_
  rintro e w8 ⟨rfl, b8⟩
  replace b8 := Lib.hid (ext_trans b7.out b8)
  go_wp2_with fail
  refine (D4.out _).mono ?_
  rintro e w9 ⟨rfl, b9⟩
  replace b9 := Lib.hid (ext_trans b8.out b9)
  go_wp2_with fail
  refine (D5.out _).mono ?_
  rintro e w10 ⟨rfl, b10⟩
  replace b10 := Lib.hid (ext_trans b9.out b10)
  go_wp2_with fail
  refine (D6.out _).mono ?_
  rintro e w11 ⟨rfl, b11⟩
  replace b11 := Lib.hid (ext_trans b10.out b11)
  cases h with
  | true =>
    go_wp2_with fail
    refine (awake18_any _).mono ?_
    rintro e w12 ⟨rfl, b12⟩
    go_wp2_with fail
    go_ret
    exact ⟨rfl, ext_trans b11.out b12⟩
  | false =>
    go_wp2_with fail
    refine (SA.out _).mono ?_
    rintro e w12 ⟨v2, rfl, hown2, b12⟩
    replace b12 := Lib.hid (ext_trans b11.out b12)
    obtain ⟨g2, cap2, rfl, -, -, -, -⟩ := own_cells hown2 (by omega)
    clear hown2
    go_wp2_with fail
    refine (awake18_any _).mono ?_
    rintro e w13 ⟨rfl, b13⟩
    go_wp2_with fail
    go_ret
    exact ⟨rfl, ext_trans b12.out b13⟩
theorem walk (a b : ByteArray) (w : World) (ha : a.size ≤ 1048576) (hb : b.size ≤ 1048576) : Calls Try.prog 6 #[.string a, .string b] w (Yes w) := by
  cases hA : nameB a with
  | false => exact walk1 a b w ha hb hA
  | true =>
    cases hN : nameB (a ++ ⟨#[47]⟩ ++ b) with
    | false => exact walk2 a b w ha hb hA hN
    | true =>
      cases hF : filterB (a ++ ⟨#[47, 35]⟩) with
      | false => exact walk3 a b w ha hb hA hN hF
      | true => exact walk4 a b w ha hb hA hN hF

set_option maxRecDepth 100000 in
theorem lifted (os : Os) (started : os.Started) (H : Type) (enc : TypeId × Value → H) (F : Stop.Interp) :
    ReturnsInHanded {} Try.checked os 6 .any ((Rows.OpenSpec.upto Rows.matchDeepSpec).pre6 enc Try.prog Try.f6 Rows.matchDeepUptoRow.domain false) (((Rows.OpenSpec.upto Rows.matchDeepSpec).at F).post enc Try.prog Try.f6 false true false false) := by
  refine returnsInHanded_of_cond (C := Try.checked) (s := Rows.OpenSpec.upto Rows.matchDeepSpec) (k := Rows.uptoSmall) rfl own started (by kernel_rfl) Try.func6
    (OpenSpec.witness (enc := enc) (C := Try.checked) (s := Rows.OpenSpec.upto Rows.matchDeepSpec) (k := Rows.uptoSmall) rfl false ⟨#[], #[.string ByteArray.empty, .string ByteArray.empty], []⟩ 8 (by kernel_rfl) (by kernel_rfl) (by kernel_rfl)
      (x := ([.lit (.string []), .lit (.string [])], [], [])) (by kernel_rfl) rfl (by kernel_rfl)) ?_
  intro W base args ds gs before hval0 hW hcnd hk _
  have hval : ∀ (j : Nat) t v, Try.f6.params[j]? = some t → args[j]? = some v → Value.okWide Try.prog W .any base t v := hval0
  have hW' := hW
  obtain ⟨p, q, hA0, hV, rfl, hfz, hnd⟩ := hW
  have hA : DataW.TrodAll enc Try.prog W 0 (fun _ => true) true Try.f6.params.toList args.toList ds p := hA0
  rw [Try.params6] at hA hval
  obtain ⟨v0, vs0, d0, ds0, p0, q0, hargs, rfl, rfl, h0, r0⟩ := trodAll_cons hA
  obtain ⟨v1, vs1, d1, ds1, p1, q1, rfl, rfl, rfl, h1, r1⟩ := trodAll_cons r0
  obtain ⟨rfl, rfl, rfl⟩ := trodAll_nil r1
  obtain rfl : args = #[v0, v1] := by cases args; simp_all
  obtain ⟨rfl, rfl⟩ := trodVars_none hV
  have hb0 : Rows.uptoBulk d0 ≤ 1048576 := bulks.le hk (by simp)
  have hb1 : Rows.uptoBulk d1 ≤ 1048576 := bulks.le hk (by simp)
  have k0 := h0
  have lt0 : ∀ x ∈ p0, x.block < W.heap.size := by obtain ⟨m, hm⟩ := k0; exact DataW.trod_lt m _ _ _ hm
  have k1 := h1
  have lt1 : ∀ x ∈ p1, x.block < W.heap.size := by obtain ⟨m, hm⟩ := k1; exact DataW.trod_lt m _ _ _ hm
  obtain ⟨a0, rfl, rfl, rfl, w0⟩ := open_string Try.underlying9 (hval 0 9 v0 rfl rfl) h0
  have s0 : a0.size ≤ 1048576 := by
    have := bulks.string_len hb0
    simp only [Array.length_toList] at this
    exact this
  obtain ⟨a1, rfl, rfl, rfl, w1⟩ := open_string Try.underlying9 (hval 1 9 v1 rfl rfl) h1
  have s1 : a1.size ≤ 1048576 := by
    have := bulks.string_len hb1
    simp only [Array.length_toList] at this
    exact this
  clear hA0 hval0
  refine (walk a0 a1 W s0 s1).mono fun e W' ⟨he, bel⟩ => ?_
  subst he
  exact ⟨_, rfl, _, _, _, [], _, [], hW', trodAll_mk1 (shut_bool Try.underlying4 _), (trodAll_cons_mk (Below.trod laidOut (by kernel_rfl) (of_decide_eq_true (by kernel_rfl)) k0 bel lt0) (trodAll_cons_mk (Below.trod laidOut (by kernel_rfl) (of_decide_eq_true (by kernel_rfl)) k1 bel lt1) trodAll_mk0)), rfl, bel.frame _, fun h => by cases h⟩

theorem over : Rows.matchDeepUptoRow.holds Try.pinned (Rows.OpenSpec.upto Rows.matchDeepSpec) :=
  OpenClaim.holds_of_cond 6 Try.f6 rfl rfl rfl rfl rfl rfl rfl ⟨rfl, rfl, rfl, rfl, rfl⟩ rfl rfl rfl rfl rfl (by kernel_rfl) Try.func6 (by kernel_rfl)
    (of_decide_eq_true (by kernel_rfl)) (by unfold Func.isWrapper; first | (rw [if_pos (by decide +kernel)]; kernel_rfl) | (rw [if_neg (by decide +kernel)]; exact ⟨rfl, rfl⟩))
    (fun os started H enc _ F => lifted os started H enc F)

theorem proved : Rows.MatchDeepUptoSaid := over
end Go.Proofs.Ytbmelmmefgehoaa.matchDeep
