/-
  SpaceWords: FOR EVERY INPUT the law returns true and leaves its arguments as they were; the package's tables are laid (a card).
-/
import Derived.Test.YtbmelmmefgehoaaDoorWk
import Derived.Test.YtbmelmmefgehoaaDoorTb
import Derived.Test.YtbmelmmefgehoaaDoorCards
import Derived.Test.YtbmelmmefgehoaaDoorTie
import Derived.Test.YtbmelmmefgehoaaDoorBulk
import Derived.JoinedCond
import Derived.WalkKit
import Derived.ProofKit
import Derived.OpenShut
import Derived.ChangeOld
import Derived.Below
import Derived.SizedLaws
import Derived.Lib.SmallJoins
import Derived.Deep.DeepHandedRow
import Derived.Lib.LaidTab
namespace Go.Proofs.YtbmelmmefgehoaaDoor.spaceWords
open Go.ChangeShapes Go.WideShapes Go.ChangeAt Go.RowKit
open Go.ChangeMaps (open_string shut_string)
set_option linter.unusedVariables false

theorem own : ownKnob Tryd.prog.godebug = none := by kernel_rfl
theorem laidOut : laidOutB Tryd.prog = true := by kernel_rfl

set_option maxHeartbeats 2000000 in
set_option maxRecDepth 100000 in
theorem walk (k : Int) (s : ByteArray) (w : World) (ht : Tabs w) (bk : -9223372036854775808 ≤ k ∧ k ≤ 9223372036854775807) (hs : s.size ≤ 1048576) : Calls Tryd.prog 5 #[.int .i64 k, .string s] w (Yes w) := by
  have W1 := Lib.hid fun w h => word_any k w h
  have W2 := Lib.hid fun w => rword_any k w
  have K1 := Lib.hid fun w h => kind_any s w h
  have K2 := Lib.hid fun w => rkind_any s w
  have AW := Lib.hid fun w h => awake_any w h
  have t0 := Lib.hid ht
  clear hs ht
  cases hk : isk k with
  | true =>
    have h : 1 ≤ k ∧ k ≤ 9 := by unfold isk at hk; simp at hk; omega
    obtain ⟨n, rfl⟩ : ∃ n : Nat, k = n := ⟨k.toNat, by omega⟩
    have K3 := fun w h => kind_any (wordI n) w h
    rw [kind_word n hk] at K3
    replace K3 := Lib.hid K3
    have hq := ne_empty (word_ne n hk)
    have h1 := h.1
    have h2 := h.2
    replace hk := Lib.hid hk
    clear h
    generalize wordI (n : Int) = x at *
    generalize kindB s = c at *
    go_enter Tryd.func5, Tryd.ntmps5
    go_wp2_with fail
    refine (W1.out _ t0.out).mono ?_
    rintro e w1 ⟨rfl, rfl⟩
    go_wp2_with fail
    refine (W2.out _).mono ?_
    rintro e w1 ⟨rfl, rfl⟩
    go_wp2_with fail
    refine (K1.out _ t0.out).mono ?_
    rintro e w1 ⟨rfl, b1⟩
    have t1 := Lib.hid (t0.out.keep b1)
    replace b1 := Lib.hid b1
    go_wp2_with fail
    refine (K2.out _).mono ?_
    rintro e w2 ⟨rfl, b2⟩
    have t2 := Lib.hid (t1.out.keep b2)
    have B2 := Lib.hid (ext_trans b1.out b2)
    clear b2
    go_wp2_with fail
    refine (K3.out _ t2.out).mono ?_
    rintro e w3 ⟨rfl, b3⟩
    have t3 := Lib.hid (t2.out.keep b3)
    have B3 := Lib.hid (ext_trans B2.out b3)
    clear b3
    go_wp2_with fail
    refine (AW.out _ t3.out).mono ?_
    rintro e w4 ⟨rfl, b4⟩
    go_wp2_with fail
    go_ret
    exact ⟨rfl, ext_trans B3.out b4⟩
  | false =>
    have h : ¬ (1 ≤ k ∧ k ≤ 9) := by unfold isk at hk; simp at hk; omega
    have hwk : wordI k = ⟨#[]⟩ := by unfold wordI; rw [hk]; rfl
    rw [hwk] at W1 W2
    have hkw := fun h => (word_kind s h).2
    have W3 := Lib.hid fun w h => word_any (kindB s : Nat) w h
    generalize kindB s = c at *
    have hor : ∀ (P : Prop), (¬ (1 ≤ k) → P) → (1 ≤ k → ¬ k ≤ 9 → P) → P := fun P a b => by
      by_cases h1 : 1 ≤ k
      · exact b h1 (fun h2 => h ⟨h1, h2⟩)
      · exact a h1
    replace hk := Lib.hid hk
    replace hwk := Lib.hid hwk
    replace hkw := Lib.hid hkw
    replace h := Lib.hid h
    have rest : ∀ (hc : (1 ≤ k ∧ ¬ k ≤ 9) ∨ ¬ 1 ≤ k), Calls Tryd.prog 5 #[.int .i64 k, .string s] w (Yes w) := by
      intro hc
      by_cases h0 : c = 0
      · subst h0
        rcases hc with ⟨h1, h2⟩ | h1
        all_goals
          go_enter Tryd.func5, Tryd.ntmps5
          go_wp2_with fail
          refine (W1.out _ t0.out).mono ?_
          rintro e w1 ⟨rfl, rfl⟩
          go_wp2_with fail
          refine (W2.out _).mono ?_
          rintro e w1 ⟨rfl, rfl⟩
          go_wp2_with fail
          refine (K1.out _ t0.out).mono ?_
          rintro e w1 ⟨rfl, b1⟩
          have t1 := Lib.hid (t0.out.keep b1)
          replace b1 := Lib.hid b1
          go_wp2_with fail
          refine (K2.out _).mono ?_
          rintro e w2 ⟨rfl, b2⟩
          have t2 := Lib.hid (t1.out.keep b2)
          have B2 := Lib.hid (ext_trans b1.out b2)
          clear b2
          go_wp2_with fail
          refine (K1.out _ t2.out).mono ?_
          rintro e w3 ⟨rfl, b3⟩
          have t3 := Lib.hid (t2.out.keep b3)
          have B3 := Lib.hid (ext_trans B2.out b3)
          clear b3
          go_wp2_with fail
          refine (AW.out _ t3.out).mono ?_
          rintro e w4 ⟨rfl, b4⟩
          go_wp2_with fail
          go_ret
          exact ⟨rfl, ext_trans B3.out b4⟩
      · have hc0 : ((c : Int) == 0) = false := by rw [beq_eq_false_iff_ne]; omega
        have hkw' := hkw.out h0
        rw [hkw'] at W3
        replace h0 := Lib.hid h0
        replace hkw' := Lib.hid hkw'
        rcases hc with ⟨h1, h2⟩ | h1
        all_goals
          go_enter Tryd.func5, Tryd.ntmps5
          go_wp2_with fail
          refine (W1.out _ t0.out).mono ?_
          rintro e w1 ⟨rfl, rfl⟩
          go_wp2_with fail
          refine (W2.out _).mono ?_
          rintro e w1 ⟨rfl, rfl⟩
          go_wp2_with fail
          refine (K1.out _ t0.out).mono ?_
          rintro e w1 ⟨rfl, b1⟩
          have t1 := Lib.hid (t0.out.keep b1)
          replace b1 := Lib.hid b1
          go_wp2_with fail
          refine (K2.out _).mono ?_
          rintro e w2 ⟨rfl, b2⟩
          have t2 := Lib.hid (t1.out.keep b2)
          have B2 := Lib.hid (ext_trans b1.out b2)
          clear b2
          go_wp2_with fail
          refine (K1.out _ t2.out).mono ?_
          rintro e w3 ⟨rfl, b3⟩
          have t3 := Lib.hid (t2.out.keep b3)
          have B3 := Lib.hid (ext_trans B2.out b3)
          clear b3
          go_wp2_with fail
          refine (W3.out _ t3.out).mono ?_
          rintro e w5 ⟨rfl, rfl⟩
          go_wp2_with fail
          refine (AW.out _ t3.out).mono ?_
          rintro e w4 ⟨rfl, b4⟩
          go_wp2_with fail
          go_ret
          exact ⟨rfl, ext_trans B3.out b4⟩
    exact hor _ (fun a => rest (.inr a)) (fun a b => rest (.inl ⟨a, b⟩))

theorem contract (F : Stop.Interp) (H : Type) (enc : TypeId × Value → H) (W : World) (base : Nat) (args : Array Value) (ds gs : List (DataW H)) (before : List MemPlace)
    (hval : ∀ (j : Nat) t v, Tryd.f5.params[j]? = some t → args[j]? = some v → Value.okWide Tryd.prog W .any base t v)
    (hW : DataW.Whole enc Tryd.prog Tryd.f5.params.toList Rows.spaceWordsSpec.vars false W args.toList ds gs before)
    (hk : Rows.uptoSmall H (ds ++ gs) = true)
    (hsz : (DataW.weightsEach Tryd.prog (Tryd.f5.params.toList ++ (Rows.OpenSpec.upto Rows.spaceWordsSpec).bare.plain.varTypes Tryd.prog) (ds ++ gs)).all (· ≤ reachBytes) = true) (hL : laidMetH Tryd.prog Rows.spaceWordsUptoRow.laid W) :
    Calls Tryd.prog 5 args W fun e W' => ∃ v, e = .returned v ∧ ((Rows.OpenSpec.upto Rows.spaceWordsSpec).at F).post enc Tryd.prog Tryd.f5 false true false false W args v W' := by
  have hW' := hW
  obtain ⟨p, q, hA0, hV, rfl, hfz, hnd⟩ := hW
  have hA : DataW.TrodAll enc Tryd.prog W 0 (fun _ => true) true Tryd.f5.params.toList args.toList ds p := hA0
  rw [Tryd.params5] at hA hval hsz
  obtain ⟨v0, vs0, d0, ds0, p0, q0, hargs, rfl, rfl, h0, r0⟩ := trodAll_cons hA
  obtain ⟨v1, vs1, d1, ds1, p1, q1, rfl, rfl, rfl, h1, r1⟩ := trodAll_cons r0
  obtain ⟨rfl, rfl, rfl⟩ := trodAll_nil r1
  obtain rfl : args = #[v0, v1] := by cases args; simp_all
  obtain ⟨rfl, rfl⟩ := trodVars_none hV
  have hb0 : Rows.uptoBulk d0 ≤ 1048576 := bulks.le hk (by simp)
  have hb1 : Rows.uptoBulk d1 ≤ 1048576 := bulks.le hk (by simp)
  have k0 := h0
  have lt0 : ∀ x ∈ p0, x.block < W.heap.size := by obtain ⟨m, hm⟩ := k0; exact DataW.trod_lt m _ _ _ hm
  have k1 := h1
  have lt1 : ∀ x ∈ p1, x.block < W.heap.size := by obtain ⟨m, hm⟩ := k1; exact DataW.trod_lt m _ _ _ hm
  obtain ⟨a0, rfl, rfl, rfl, w0⟩ := open_int Tryd.underlying3 (hval 0 3 v0 rfl rfl) h0
  have b0 := wf_i64 w0
  obtain ⟨a1, rfl, rfl, rfl, w1⟩ := open_string Tryd.underlying9 (hval 1 9 v1 rfl rfl) h1
  have s1 : a1.size ≤ 1048576 := by
    have := bulks.string_len hb1
    simp only [Array.length_toList] at this
    exact this
  clear hA0
  refine (walk a0 a1 W (tabs_of hL) b0 s1).mono fun e W' ⟨he, bel⟩ => ?_
  subst he
  exact ⟨_, rfl, _, _, _, [], _, [], hW', trodAll_mk1 (shut_bool Tryd.underlying4 _), (trodAll_cons_mk (Below.trod laidOut (by kernel_rfl) (of_decide_eq_true (by kernel_rfl)) k0 bel lt0) (trodAll_cons_mk (Below.trod laidOut (by kernel_rfl) (of_decide_eq_true (by kernel_rfl)) k1 bel lt1) trodAll_mk0)), rfl, bel.frame _, fun h => by cases h⟩

/-- A world for the witness: the settled one, the tables holding what their initialisers lay. -/
noncomputable def laidWorld (os : Os) : World :=
  { World.holding Tryd.prog os ⟨#[], #[], []⟩ with heap := ((World.holding Tryd.prog os ⟨#[], #[], []⟩).heap.modify 0 (fun
      | .cells _ t frozen => .cells #[.string ⟨#[]⟩, .int .i64 0, .string ⟨#[78, 66, 73, 82, 84, 72]⟩, .int .i64 1, .string ⟨#[78, 68, 69, 65, 84, 72]⟩, .int .i64 1, .string ⟨#[78, 68, 65, 84, 65]⟩, .int .i64 1, .string ⟨#[78, 67, 77, 68]⟩, .int .i64 1, .string ⟨#[68, 66, 73, 82, 84, 72]⟩, .int .i64 3, .string ⟨#[68, 68, 69, 65, 84, 72]⟩, .int .i64 3, .string ⟨#[68, 68, 65, 84, 65]⟩, .int .i64 3, .string ⟨#[68, 67, 77, 68]⟩, .int .i64 3, .string ⟨#[83, 84, 65, 84, 69]⟩, .int .i64 0] t frozen
      | o => o)) }
theorem laid_met (os : Os) : laidMet Tryd.prog Rows.spaceWordsUptoRow.laid ((laidWorld os).forCall (fun _ _ => 0) ⟨#[], #[.int .i64 0, .string ByteArray.empty], []⟩).memory :=
  laidMet_of_run' 8 (by kernel_rfl) (by kernel_rfl)
theorem reads (os : Os) {H : Type} (enc : TypeId × Value → H) : ∃ places, DataW.whole enc Tryd.prog ((laidWorld os).forCall (fun _ _ => 0) ⟨#[], #[.int .i64 0, .string ByteArray.empty], []⟩).memory Tryd.f5.params.toList Rows.spaceWordsSpec.vars false #[Value.int .i64 0, .string ByteArray.empty].toList 8 = some ([.lit (.int .i64 0), .lit (.string [])], [], places) :=
  ⟨[], by kernel_rfl⟩

set_option maxRecDepth 100000 in
theorem lifted (os : Os) (started : os.Started) (H : Type) (enc : TypeId × Value → H) (F : Stop.Interp) :
    ReturnsInHanded {} Tryd.checked os 5 .any ((Rows.OpenSpec.upto Rows.spaceWordsSpec).preRow enc Tryd.prog Tryd.f5 Rows.spaceWordsUptoRow.domain false Rows.spaceWordsUptoRow.laid) (((Rows.OpenSpec.upto Rows.spaceWordsSpec).at F).post enc Tryd.prog Tryd.f5 false true false false) := by
  obtain ⟨places, hx⟩ := reads os enc
  refine returnsInHanded_of_row (C := Tryd.checked) (s := (Rows.OpenSpec.upto Rows.spaceWordsSpec)) own started (by kernel_rfl) Tryd.func5
    (witness_row_at (enc := enc) (C := Tryd.checked) false (laidWorld os) #[.int .i64 0, .string ByteArray.empty] rfl (by kernel_rfl) (by kernel_rfl) (by kernel_rfl)
      (OpenSpec.preRow_of_cond 8 hx (by kernel_rfl) (fun k hk => by cases hk; kernel_rfl) (by kernel_rfl) (laid_met os))) ?_
  intro W base args ds gs before hval hW _ hcnd hsz hL _ _
  exact contract F H enc W base args ds gs before hval hW (hcnd _ rfl) hsz hL

theorem said : Rows.SpaceWordsUptoSaid :=
  OpenClaim.holds_of_cond 5 Tryd.f5 rfl rfl rfl rfl rfl rfl rfl ⟨rfl, rfl, rfl, rfl, rfl⟩ rfl rfl rfl rfl rfl (by kernel_rfl) Tryd.func5 (by kernel_rfl)
    (of_decide_eq_true (by kernel_rfl)) (by unfold Func.isWrapper; first | (rw [if_pos (by decide +kernel)]; kernel_rfl) | (rw [if_neg (by decide +kernel)]; exact ⟨rfl, rfl⟩))
    (fun os started H enc _ F => by rw [OpenClaim.pre_eq_preRow]; exact lifted os started H enc F)

theorem plain (f : FuncId) (fn : Func) (hf : Tryd.pinned.checked.prog.funcNamed "crier/crierlaw20.SpaceWords" = some f) (hfn : Tryd.pinned.checked.prog.funcs[f]? = some fn) :
    false = Tryd.pinned.checked.prog.looks [] ∧ ∀ (j : Nat) t, fn.params[j]? = some t → Tryd.pinned.checked.prog.wantsStandIn t = false := by
  obtain rfl : f = 5 := Option.some.inj ((show Tryd.prog.funcNamed "crier/crierlaw20.SpaceWords" = some 5 by kernel_rfl).symm.trans hf) |>.symm
  obtain rfl : fn = Tryd.f5 := (Option.some.inj (Tryd.func5.symm.trans hfn)).symm
  refine ⟨by kernel_rfl, fun j t ht => ?_⟩
  rw [Tryd.params5] at ht
  have : t = 3 ∨ t = 9 := by have := Array.mem_of_getElem? ht; simp at this; first | exact this | omega | grind
  rcases this with rfl | rfl
  · exact (show Tryd.prog.wantsStandIn 3 = false by kernel_rfl)
  · exact (show Tryd.prog.wantsStandIn 9 = false by kernel_rfl)

/-- THE CARD. -/
theorem proved : Rows.SpaceWordsUptoCardSaid :=
  Claim7.holds_tied_plain_at .later [] _ _ _ _ said (fun _ h => by cases h) (by kernel_rfl) (fun _ h => by cases h) spaceWordsUpto_row_tie rfl ⟨rfl, rfl⟩ (by kernel_rfl) rfl plain (by kernel_rfl)
end Go.Proofs.YtbmelmmefgehoaaDoor.spaceWords
