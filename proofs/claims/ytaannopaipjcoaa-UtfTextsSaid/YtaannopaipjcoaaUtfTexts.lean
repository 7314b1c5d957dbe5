/-
  UtfTexts: FOR EVERY INPUT the law returns true and leaves its arguments as they were.
-/
import Derived.Test.YtaannopaipjcoaaUl
import Derived.Test.YtaannopaipjcoaaRows
import Derived.WalkKit
import Derived.ProofKit
import Derived.OpenShut
import Derived.ShutString
import Derived.ChangeOld
import Derived.Below
import Derived.SizedLaws
namespace Go.Proofs.Ytaannopaipjcoaa.utfTexts
open Go.ChangeShapes Go.WideShapes Go.ChangeAt Go.RowKit
open Go.ChangeMaps (open_string shut_string)
set_option linter.unusedVariables false

theorem own : ownKnob Try.prog.godebug = none := by kernel_rfl
theorem laidOut : laidOutB Try.prog = true := by kernel_rfl

/-- What comes of a text that is laid: an error, or its bytes. -/
def Made (l : Option (List Nat)) (err : Int) (w : World) (e : Ending) (w' : World) : Prop :=
  ∃ v, e = .returned (.tuple #[v, .int .i64 err]) ∧ BytesAt w' v (l.getD []) ∧ Below w.heap.size w w'
theorem made_nil {P : Program} {f : FuncId} {args : Array Value} {w : World} {err : Int} (h : Calls P f args w fun e w' => e = .returned (.tuple #[.slice none 0 0, .int .i64 err]) ∧ w = w') : Calls P f args w (Made none err w) :=
  h.mono fun e w' ⟨he, hw⟩ => ⟨_, he, ⟨none, 0, rfl, ⟨by simp, fun _ => rfl⟩, .inl rfl⟩, by subst hw; exact Below.refl _ _⟩
theorem made_nilb {P : Program} {f : FuncId} {args : Array Value} {w : World} {err : Int} (h : Calls P f args w fun e w' => e = .returned (.tuple #[.slice none 0 0, .int .i64 err]) ∧ Below w.heap.size w w') : Calls P f args w (Made none err w) :=
  h.mono fun e w' ⟨he, hw⟩ => ⟨_, he, ⟨none, 0, rfl, ⟨by simp, fun _ => rfl⟩, .inl rfl⟩, hw⟩
theorem made_ok {P : Program} {f : FuncId} {args : Array Value} {w : World} {s : ByteArray} (h : Calls P f args w (PutPost s w)) : Calls P f args w (Made (some (rawL s)) 0 w) :=
  h.mono fun e w' ⟨v, he, ho, hw⟩ => ⟨v, he, BytesAt.of_own ho, hw⟩
def laidL (s : ByteArray) : Option (List Nat) := if 65535 < s.size then none else some (rawL s)
def laidE (s : ByteArray) : Int := if 65535 < s.size then 3 else 0
def textL (s : ByteArray) : Option (List Nat) := if 65535 < s.size then none else if rightB s = true then some (rawL s) else none
def textE (s : ByteArray) : Int := if 65535 < s.size then 3 else if rightB s = true then 0 else 9
theorem m_put (s : ByteArray) (w : World) : Calls Try.prog 11 #[.string s] w (Made (textL s) (textE s) w) := by
  unfold textL textE
  by_cases h : 65535 < s.size
  · rw [if_pos h, if_pos h]; exact made_nil (put_long s w h)
  · rw [if_neg h, if_neg h]
    cases hr : rightB s
    · exact made_nilb (put_bad s w (by omega) hr)
    · exact made_ok (put_ok s w (by omega) hr)
theorem m_rput (s : ByteArray) (w : World) : Calls Try.prog 12 #[.string s] w (Made (textL s) (textE s) w) := by
  unfold textL textE
  by_cases h : 65535 < s.size
  · rw [if_pos h, if_pos h]; exact made_nil (rput_long s w h)
  · rw [if_neg h, if_neg h]
    cases hr : rightB s
    · exact made_nilb (rput_bad s w (by omega) hr)
    · exact made_ok (rput_ok s w (by omega) hr)
theorem m_raw (s : ByteArray) (w : World) : Calls Try.prog 13 #[.string s] w (Made (laidL s) (laidE s) w) := by
  unfold laidL laidE
  by_cases h : 65535 < s.size
  · rw [if_pos h, if_pos h]; exact made_nil (putraw_long s w h)
  · rw [if_neg h, if_neg h]; exact made_ok (putraw_any s w (by omega))
theorem m_rraw (s : ByteArray) (w : World) (hs : s.size ≤ 140737488355328) : Calls Try.prog 14 #[.string s] w (Made (laidL s) (laidE s) w) := by
  unfold laidL laidE
  by_cases h : 65535 < s.size
  · rw [if_pos h, if_pos h]; exact made_nil (rputraw_long s w h hs)
  · rw [if_neg h, if_neg h]; exact made_ok (rputraw_any s w (by omega))
set_option maxHeartbeats 4000000 in
set_option maxRecDepth 100000 in
theorem walk (s : ByteArray) (w : World) (s0 : s.size ≤ 140737488351232) : Calls Try.prog 3 #[.string s] w (Yes w) := by
  have P1 := m_put s
  have P2 := m_rput s
  have P3 := m_raw s
  have P4 := fun w => m_rraw s w (by omega)
  have R1 := right_any s
  have R2 := rright_any s
  unfold Made at P1 P2 P3 P4
  generalize (textL s).getD [] = lt at *
  generalize (laidL s).getD [] = ll at *
  generalize textE s = et at *
  generalize laidE s = el at *
  generalize rightB s = br at *
  replace P1 := Lib.hid P1
  replace P2 := Lib.hid P2
  replace P3 := Lib.hid P3
  replace P4 := Lib.hid P4
  replace R1 := Lib.hid R1
  replace R2 := Lib.hid R2
  go_enter Try.func3, Try.ntmps3
  go_wp2_with fail
  refine (P1.out _).mono ?_
  rintro e w1 ⟨v1, rfl, a1, b1⟩
  go_wp2_with fail
  refine (P2.out _).mono ?_
  rintro e w2 ⟨v2, rfl, a2, b2⟩
  have a1 := a1.keep b2 (Nat.le_refl _)
  go_wp2_with fail
  refine (P3.out _).mono ?_
  rintro e w3 ⟨v3, rfl, a3, b3⟩
  have a1 := a1.keep b3 (Nat.le_refl _)
  have a2 := a2.keep b3 (Nat.le_refl _)
  go_wp2_with fail
  refine (P4.out _).mono ?_
  rintro e w4 ⟨v4, rfl, a4, b4⟩
  have a1 := a1.keep b4 (Nat.le_refl _)
  have a2 := a2.keep b4 (Nat.le_refl _)
  have a3 := a3.keep b4 (Nat.le_refl _)
  have b4 := ext_trans (ext_trans (ext_trans b1 b2) b3) b4
  go_wp2_with fail
  refine (R1.out _).mono ?_
  rintro e w5 ⟨rfl, b5⟩
  go_wp2_with fail
  refine (R2.out _).mono ?_
  rintro e w6 ⟨rfl, n6, rfl⟩
  have b6 := (ext_trans b4 b5)
  have k1 := ((a1.keep b5 (Nat.le_refl _)).drewN n6).conv (P := Try.prog) Try.underlying22 Try.underlying5 Try.underlying9
  have k2 := ((a2.keep b5 (Nat.le_refl _)).drewN n6).conv (P := Try.prog) Try.underlying22 Try.underlying5 Try.underlying9
  have k3 := ((a3.keep b5 (Nat.le_refl _)).drewN n6).conv (P := Try.prog) Try.underlying22 Try.underlying5 Try.underlying9
  have k4 := ((a4.keep b5 (Nat.le_refl _)).drewN n6).conv (P := Try.prog) Try.underlying22 Try.underlying5 Try.underlying9
  replace b6 := Lib.hid (below_drewN b6 n6)
  generalize w5.drewN n6 = w7 at *
  generalize strB lt = st at *
  generalize strB ll = sl at *
  obtain ⟨x1, n1, rfl, -, -⟩ := a1
  obtain ⟨x2, n2, rfl, -, -⟩ := a2
  obtain ⟨x3, n3, rfl, -, -⟩ := a3
  obtain ⟨x4, n4, rfl, -, -⟩ := a4
  clear b1 b2 b3 b4 b5
  go_wp2_with fail
  refine (awake_any _).mono ?_
  rintro e w8 ⟨rfl, b8⟩
  go_wp2_with fail
  go_ret
  exact ⟨rfl, ext_trans b6.out b8⟩

set_option maxRecDepth 100000 in
theorem lifted (os : Os) (started : os.Started) (H : Type) (enc : TypeId × Value → H) :
    ReturnsInHanded {} Try.checked os 3 .any (Rows.utfTextsSpec.pre6 enc Try.prog Try.f3 Rows.utfTextsRow.domain false) (Rows.utfTextsSpec.post enc Try.prog Try.f3 false true false false) := by
  refine returnsInHanded_of_change_sized (C := Try.checked) own started (by kernel_rfl) Try.func3
    (ChangeSpec.witness6 (enc := enc) (C := Try.checked) false ⟨#[], #[.string ByteArray.empty], []⟩ 8 (by kernel_rfl) (by kernel_rfl) (by kernel_rfl) (by kernel_rfl)) ?_
  intro W base args ds gs before hval0 hW hcnd hsz0 _
  have hsz : (DataW.weightsEach Try.prog (Try.f3.params.toList ++ Rows.utfTextsSpec.plain.varTypes Try.prog) (ds ++ gs)).all (· ≤ reachBytes) = true := hsz0
  have hval : ∀ (j : Nat) t v, Try.f3.params[j]? = some t → args[j]? = some v → Value.okWide Try.prog W .any base t v := hval0
  have hW' := hW
  obtain ⟨p, q, hA0, hV, rfl, hfz, hnd⟩ := hW
  have hA : DataW.TrodAll enc Try.prog W 0 (fun _ => true) true Try.f3.params.toList args.toList ds p := hA0
  rw [Try.params3] at hA hval hsz
  obtain ⟨v0, vs0, d0, ds0, p0, q0, hargs, rfl, rfl, h0, r0⟩ := trodAll_cons hA
  obtain ⟨rfl, rfl, rfl⟩ := trodAll_nil r0
  obtain rfl : args = #[v0] := by cases args; simp_all
  obtain ⟨rfl, rfl⟩ := trodVars_none hV
  have k0 := h0
  have lt0 : ∀ x ∈ p0, x.block < W.heap.size := by obtain ⟨m, hm⟩ := k0; exact DataW.trod_lt m _ _ _ hm
  obtain ⟨a0, rfl, rfl, rfl, w0⟩ := open_string Try.underlying9 (hval 0 9 v0 rfl rfl) h0
  have s0 : a0.size ≤ 140737488351232 := by
    have := sized_string hsz (j := 0) (t := 9) rfl rfl
    simp only [Array.length_toList, reachBytes] at this
    exact this
  clear hA0 hval0 hsz0
  refine (walk a0 W s0).mono fun e W' ⟨he, bel⟩ => ?_
  subst he
  exact ⟨_, rfl, _, _, _, [], _, [], hW', trodAll_mk1 (shut_bool Try.underlying4 _), (trodAll_cons_mk (Below.trod laidOut (by kernel_rfl) (of_decide_eq_true (by kernel_rfl)) k0 bel lt0) trodAll_mk0), rfl, bel.frame _, fun h => by cases h⟩

theorem over : Rows.utfTextsRow.holds Try.pinned (OpenSpec.ofChange Rows.utfTextsSpec) :=
  OpenClaim.holds_of_wide 3 Try.f3 rfl rfl rfl rfl rfl rfl rfl ⟨rfl, rfl, rfl, rfl, rfl⟩ rfl rfl rfl rfl rfl (by kernel_rfl) Try.func3 (by kernel_rfl)
    (of_decide_eq_true (by kernel_rfl)) (by unfold Func.isWrapper; first | (rw [if_pos (by decide +kernel)]; kernel_rfl) | (rw [if_neg (by decide +kernel)]; exact ⟨rfl, rfl⟩))
    (fun os started H enc _ => lifted os started H enc)

theorem proved : Rows.UtfTextsSaid := over
end Go.Proofs.Ytaannopaipjcoaa.utfTexts
