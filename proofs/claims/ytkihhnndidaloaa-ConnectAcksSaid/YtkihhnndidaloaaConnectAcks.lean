/-
  ConnectAcks: FOR EVERY INPUT the law returns true and leaves its arguments as they were.
-/
import Derived.Test.YtkihhnndidaloaaCi
import Derived.Test.YtkihhnndidaloaaRows
import Derived.WalkKit
import Derived.ProofKit
import Derived.OpenShut
import Derived.ShutString
import Derived.ChangeOld
import Derived.Below
import Derived.SizedLaws
import Derived.Lib.SmallJoins
namespace Go.Proofs.Ytkihhnndidaloaa.connectAcks
open Go.ChangeShapes Go.WideShapes Go.ChangeAt Go.RowKit
open Go.ChangeMaps (open_string shut_string)
set_option linter.unusedVariables false

theorem own : ownKnob Try.prog.godebug = none := by kernel_rfl
theorem laidOut : laidOutB Try.prog = true := by kernel_rfl

set_option maxHeartbeats 4000000 in
set_option maxRecDepth 100000 in
theorem acks_walk (p : Bool) (c : Int) (s : ByteArray) (w : World) (l : List Nat) (E : Int) (x : Bool) (k i : Int)
    (P : ∀ w, Calls Try.prog 28 #[.bool p, .int .i64 c] w (Numb l E w)) (Q : ∀ w, Calls Try.prog 29 #[.bool p, .int .i64 c] w (Numb l E w)) (ho : ackF (strB l) = (x, k, i))
    (hx : (E = 0 ∧ x = p ∧ k = c ∧ i = 0) ∨ E ≠ 0) :
    Calls Try.prog 10 #[.bool p, .int .i64 c, .string s] w (Yes w) := by
  have A := fun w => (ofacks s w).1
  have B := fun w => (ofacks s w).2
  have C := fun w => (ofacks (strB l) w).1
  rw [ho] at C
  unfold Numb at P Q
  unfold AckPost at A B C
  generalize ackF s = r at *
  obtain ⟨r1, r2, r3⟩ := r
  simp only at A B C
  replace P := Lib.hid P
  replace Q := Lib.hid Q
  replace A := Lib.hid A
  replace B := Lib.hid B
  clear ho
  rcases hx with ⟨rfl, rfl, rfl, rfl⟩ | hE
  · replace C := Lib.hid C
    cases x
    all_goals
      go_enter Try.func10, Try.ntmps10
      go_wp2_with fail
      refine (P.out _).mono ?_
      rintro e w1 ⟨v1, rfl, a1, b1⟩
      go_wp2_with fail
      refine (Q.out _).mono ?_
      rintro e w2 ⟨v2, rfl, a2, b2⟩
      have a1 := a1.keep b2 (Nat.le_refl _)
      have k1 := a1.conv (P := Try.prog) Try.underlying24 Try.underlying5 Try.underlying9
      have k2 := a2.conv (P := Try.prog) Try.underlying24 Try.underlying5 Try.underlying9
      have hA := Lib.hid a1
      obtain ⟨x1, n1, rfl, -, -⟩ := a1
      obtain ⟨x2, n2, rfl, -, -⟩ := a2
      have b3 := Lib.hid (ext_trans b1 b2)
      clear b1 b2
      go_wp2_with fail
      refine (A.out _).mono ?_
      rintro e w3 ⟨rfl, b4⟩
      go_wp2_with fail
      refine (B.out _).mono ?_
      rintro e w4 ⟨rfl, b5⟩
      have b6 := ext_trans b4 b5
      have k3 := (hA.out.keep b6 (Nat.le_refl _)).conv (P := Try.prog) Try.underlying24 Try.underlying5 Try.underlying9
      have b7 := Lib.hid (ext_trans b3.out b6)
      clear b4 b5 b6 k1 k2
      go_wp2_with fail
      refine (C.out _).mono ?_
      rintro e w5 ⟨rfl, b8⟩
      replace b8 := Lib.hid b8
      go_wp2_with fail
      refine (awake13_any _).mono ?_
      rintro e w6 ⟨rfl, b9⟩
      go_wp2_with fail
      go_ret
      exact ⟨rfl, ext_trans (ext_trans b7.out b8.out) b9⟩
  · have hE' : (E != 0) = true := by simpa using hE
    replace hE := Lib.hid hE
    replace C := Lib.hid C
    go_enter Try.func10, Try.ntmps10
    go_wp2_with fail
    refine (P.out _).mono ?_
    rintro e w1 ⟨v1, rfl, a1, b1⟩
    go_wp2_with fail
    refine (Q.out _).mono ?_
    rintro e w2 ⟨v2, rfl, a2, b2⟩
    have a1 := a1.keep b2 (Nat.le_refl _)
    have k1 := a1.conv (P := Try.prog) Try.underlying24 Try.underlying5 Try.underlying9
    have k2 := a2.conv (P := Try.prog) Try.underlying24 Try.underlying5 Try.underlying9
    have hA := Lib.hid a1
    obtain ⟨x1, n1, rfl, -, -⟩ := a1
    obtain ⟨x2, n2, rfl, -, -⟩ := a2
    have b3 := Lib.hid (ext_trans b1 b2)
    clear b1 b2
    go_wp2_with fail
    refine (A.out _).mono ?_
    rintro e w3 ⟨rfl, b4⟩
    go_wp2_with fail
    refine (B.out _).mono ?_
    rintro e w4 ⟨rfl, b5⟩
    have b6 := ext_trans b4 b5
    have k3 := (hA.out.keep b6 (Nat.le_refl _)).conv (P := Try.prog) Try.underlying24 Try.underlying5 Try.underlying9
    have b7 := Lib.hid (ext_trans b3.out b6)
    clear b4 b5 b6 k1 k2
    go_wp2_with fail
    refine (C.out _).mono ?_
    rintro e w5 ⟨rfl, b8⟩
    replace b8 := Lib.hid b8
    go_wp2_with fail
    refine (awake13_any _).mono ?_
    rintro e w6 ⟨rfl, b9⟩
    go_wp2_with fail
    go_ret
    exact ⟨rfl, ext_trans (ext_trans b7.out b8.out) b9⟩
theorem ack_made (p : Bool) (c : Nat) (h : ackE p c = 0) : ackF (strB (ackL p c)) = (p, (c : Int), 0) := by
  have h5 : c ≤ 5 := by
    unfold ackE at h
    split at h
    · cases h
    · omega
  have g0 : gB (strB (ackL p c)) 0 = if p then 1 else 0 := by
    unfold gB strB ackL ByteArray.get!
    cases p <;> rfl
  have g1 : gB (strB (ackL p c)) 1 = c := by
    unfold gB strB ackL ByteArray.get!
    simp
    omega
  unfold ackF
  rw [if_pos (by rw [strB_size]; rfl), g0, g1]
  cases p
  · simp [h]
  · simp [h]
theorem walk (p : Bool) (c : Int) (s : ByteArray) (w : World) (b : -9223372036854775808 ≤ c ∧ c ≤ 9223372036854775807) (s1 : s.size ≤ 140737488351232) :
    Calls Try.prog 10 #[.bool p, .int .i64 c, .string s] w (Yes w) := by
  have Q := fun w => rputack p c w b
  by_cases h : ackE p c = 0
  · obtain ⟨n, rfl⟩ : ∃ n : Nat, c = n := by
      refine Int.eq_ofNat_of_zero_le ?_
      unfold ackE at h
      split at h
      · cases h
      · omega
    rw [if_pos h, h, Int.toNat_natCast] at Q
    exact acks_walk p n s w (ackL p n) 0 p n 0 (fun w => putack_ok p n w h) Q (ack_made p n h) (.inl ⟨rfl, rfl, rfl, rfl⟩)
  · rw [if_neg h] at Q
    exact acks_walk p c s w [] (ackE p c) false 0 4 (fun w => putack_err p c _ w rfl h) Q (by unfold ackF; rw [if_neg (by rw [strB_size]; simp)]) (.inr h)

set_option maxRecDepth 100000 in
theorem lifted (os : Os) (started : os.Started) (H : Type) (enc : TypeId × Value → H) :
    ReturnsInHanded {} Try.checked os 10 .any (Rows.connectAcksSpec.pre6 enc Try.prog Try.f10 Rows.connectAcksRow.domain false) (Rows.connectAcksSpec.post enc Try.prog Try.f10 false true false false) := by
  refine returnsInHanded_of_change_sized (C := Try.checked) own started (by kernel_rfl) Try.func10
    (ChangeSpec.witness6 (enc := enc) (C := Try.checked) false ⟨#[], #[.bool false, .int .i64 0, .string ByteArray.empty], []⟩ 8 (by kernel_rfl) (by kernel_rfl) (by kernel_rfl) (by kernel_rfl)) ?_
  intro W base args ds gs before hval0 hW hcnd hsz0 _
  have hsz : (DataW.weightsEach Try.prog (Try.f10.params.toList ++ Rows.connectAcksSpec.plain.varTypes Try.prog) (ds ++ gs)).all (· ≤ reachBytes) = true := hsz0
  have hval : ∀ (j : Nat) t v, Try.f10.params[j]? = some t → args[j]? = some v → Value.okWide Try.prog W .any base t v := hval0
  have hW' := hW
  obtain ⟨p, q, hA0, hV, rfl, hfz, hnd⟩ := hW
  have hA : DataW.TrodAll enc Try.prog W 0 (fun _ => true) true Try.f10.params.toList args.toList ds p := hA0
  rw [Try.params10] at hA hval hsz
  obtain ⟨v0, vs0, d0, ds0, p0, q0, hargs, rfl, rfl, h0, r0⟩ := trodAll_cons hA
  obtain ⟨v1, vs1, d1, ds1, p1, q1, rfl, rfl, rfl, h1, r1⟩ := trodAll_cons r0
  obtain ⟨v2, vs2, d2, ds2, p2, q2, rfl, rfl, rfl, h2, r2⟩ := trodAll_cons r1
  obtain ⟨rfl, rfl, rfl⟩ := trodAll_nil r2
  obtain rfl : args = #[v0, v1, v2] := by cases args; simp_all
  obtain ⟨rfl, rfl⟩ := trodVars_none hV
  have k0 := h0
  have lt0 : ∀ x ∈ p0, x.block < W.heap.size := by obtain ⟨m, hm⟩ := k0; exact DataW.trod_lt m _ _ _ hm
  have k1 := h1
  have lt1 : ∀ x ∈ p1, x.block < W.heap.size := by obtain ⟨m, hm⟩ := k1; exact DataW.trod_lt m _ _ _ hm
  have k2 := h2
  have lt2 : ∀ x ∈ p2, x.block < W.heap.size := by obtain ⟨m, hm⟩ := k2; exact DataW.trod_lt m _ _ _ hm
  obtain ⟨a0, rfl, rfl, rfl⟩ := open_bool Try.underlying4 (hval 0 4 v0 rfl rfl) h0
  obtain ⟨a1, rfl, rfl, rfl, w1⟩ := open_int Try.underlying3 (hval 1 3 v1 rfl rfl) h1
  have b1 := wf_i64 w1
  obtain ⟨a2, rfl, rfl, rfl, w2⟩ := open_string Try.underlying9 (hval 2 9 v2 rfl rfl) h2
  have s2 : a2.size ≤ 140737488351232 := by
    have := sized_string hsz (j := 2) (t := 9) rfl rfl
    simp only [Array.length_toList, reachBytes] at this
    exact this
  clear hA0 hval0 hsz0
  refine (walk a0 a1 a2 W b1 s2).mono fun e W' ⟨he, bel⟩ => ?_
  subst he
  exact ⟨_, rfl, _, _, _, [], _, [], hW', trodAll_mk1 (shut_bool Try.underlying4 _), (trodAll_cons_mk (Below.trod laidOut (by kernel_rfl) (of_decide_eq_true (by kernel_rfl)) k0 bel lt0) (trodAll_cons_mk (Below.trod laidOut (by kernel_rfl) (of_decide_eq_true (by kernel_rfl)) k1 bel lt1) (trodAll_cons_mk (Below.trod laidOut (by kernel_rfl) (of_decide_eq_true (by kernel_rfl)) k2 bel lt2) trodAll_mk0))), rfl, bel.frame _, fun h => by cases h⟩

theorem over : Rows.connectAcksRow.holds Try.pinned (OpenSpec.ofChange Rows.connectAcksSpec) :=
  OpenClaim.holds_of_wide 10 Try.f10 rfl rfl rfl rfl rfl rfl rfl ⟨rfl, rfl, rfl, rfl, rfl⟩ rfl rfl rfl rfl rfl (by kernel_rfl) Try.func10 (by kernel_rfl)
    (of_decide_eq_true (by kernel_rfl)) (by unfold Func.isWrapper; first | (rw [if_pos (by decide +kernel)]; kernel_rfl) | (rw [if_neg (by decide +kernel)]; exact ⟨rfl, rfl⟩))
    (fun os started H enc _ => lifted os started H enc)

theorem proved : Rows.ConnectAcksSaid := over
end Go.Proofs.Ytkihhnndidaloaa.connectAcks
