/-
  PublishIds: FOR EVERY INPUT the law returns true and leaves its arguments as they were.
-/
import Derived.Test.YtkihhnndidaloaaPd
import Derived.Test.YtkihhnndidaloaaRows
import Derived.WalkKit
import Derived.ProofKit
import Derived.OpenShut
import Derived.ShutString
import Derived.ChangeOld
import Derived.Below
import Derived.SizedLaws
namespace Go.Proofs.Ytkihhnndidaloaa.publishIds
open Go.ChangeShapes Go.WideShapes Go.ChangeAt Go.RowKit
open Go.ChangeMaps (open_string shut_string)
set_option linter.unusedVariables false

theorem own : ownKnob Try.prog.godebug = none := by kernel_rfl
theorem laidOut : laidOutB Try.prog = true := by kernel_rfl

set_option maxHeartbeats 4000000 in
set_option maxRecDepth 100000 in
theorem ids_walk (n : Int) (s : ByteArray) (w : World) (l : List Nat) (x : Int) (o : Int × Int) (hs : s.size ≤ 140737488355328) (hl : l.length ≤ 2)
    (P : ∀ w, Calls Try.prog 19 #[.int .i64 n] w (Numb l x w)) (Q : ∀ w, Calls Try.prog 20 #[.int .i64 n] w (Numb l x w)) (ho : ofF (strB l) = o)
    (hx : (x = 0 ∧ o = (n, 0)) ∨ (x = 1 ∧ o = (0, 4))) :
    Calls Try.prog 6 #[.int .i64 n, .string s] w (Yes w) := by
  have A := fun w => ofid_any s w hs
  have B := fun w => rofid_any s w hs
  have C := fun w => ofid_any (strB l) w (by rw [strB_size]; omega)
  rw [ho] at C
  unfold Numb at P Q
  unfold Of2 at A B C
  generalize ofF s = r at *
  obtain ⟨r1, r2⟩ := r
  simp only at A B
  replace P := Lib.hid P
  replace Q := Lib.hid Q
  replace A := Lib.hid A
  replace B := Lib.hid B
  rcases hx with ⟨rfl, rfl⟩ | ⟨rfl, rfl⟩
  all_goals
    simp only at C
    replace C := Lib.hid C
    clear ho hs hl
    go_enter Try.func6, Try.ntmps6
    go_wp2_with fail
    refine (P.out _).mono ?_
    rintro e w1 ⟨v1, rfl, a1, b1⟩
    go_wp2_with fail
    refine (Q.out _).mono ?_
    rintro e w2 ⟨v2, rfl, a2, b2⟩
    have a1 := a1.keep b2 (Nat.le_refl _)
    have k1 := a1.conv (P := Try.prog) Try.underlying24 Try.underlying5 Try.underlying9
    have k2 := a2.conv (P := Try.prog) Try.underlying24 Try.underlying5 Try.underlying9
    have hA := Lib.hid a1
    obtain ⟨x1, n1, rfl, -, -⟩ := a1
    obtain ⟨x2, n2, rfl, -, -⟩ := a2
    have b3 := Lib.hid (ext_trans b1 b2)
    clear b1 b2
    go_wp2_with fail
    refine (A.out _).mono ?_
    rintro e w3 ⟨rfl, b4⟩
    go_wp2_with fail
    refine (B.out _).mono ?_
    rintro e w4 ⟨rfl, b5⟩
    have b6 := ext_trans b4 b5
    have k3 := (hA.out.keep b6 (Nat.le_refl _)).conv (P := Try.prog) Try.underlying24 Try.underlying5 Try.underlying9
    have b7 := Lib.hid (ext_trans b3.out b6)
    clear b4 b5 b6 k1 k2
    go_wp2_with fail
    refine (C.out _).mono ?_
    rintro e w5 ⟨rfl, b8⟩
    replace b8 := Lib.hid b8
    go_wp2_with fail
    refine (awake14_any _).mono ?_
    rintro e w6 ⟨rfl, b9⟩
    go_wp2_with fail
    go_ret
    exact ⟨rfl, ext_trans (ext_trans b7.out b8.out) b9⟩
theorem walk (n : Int) (s : ByteArray) (w : World) (b0 : -9223372036854775808 ≤ n ∧ n ≤ 9223372036854775807) (s1 : s.size ≤ 140737488351232) :
    Calls Try.prog 6 #[.int .i64 n, .string s] w (Yes w) := by
  by_cases h : n < 1 ∨ 65535 < n
  · exact ids_walk n s w [] 1 (0, 4) (by omega) (by simp) (fun w => pid_err2 19 (.inl rfl) n h w) (fun w => pid_err2 20 (.inr rfl) n h w) (by unfold ofF; rw [if_neg (by rw [strB_size]; simp)]) (.inr ⟨rfl, rfl⟩)
  · obtain ⟨k, rfl⟩ := Int.eq_ofNat_of_zero_le (show 0 ≤ n by omega)
    exact ids_walk k s w [k / 256, k % 256] 0 ((k : Int), 0) (by omega) (by simp) (fun w => pid_ok2 19 (.inl rfl) k (by omega) (by omega) w) (fun w => pid_ok2 20 (.inr rfl) k (by omega) (by omega) w) (of_made k (by omega) (by omega)) (.inl ⟨rfl, rfl⟩)

set_option maxRecDepth 100000 in
theorem lifted (os : Os) (started : os.Started) (H : Type) (enc : TypeId × Value → H) :
    ReturnsInHanded {} Try.checked os 6 .any (Rows.publishIdsSpec.pre6 enc Try.prog Try.f6 Rows.publishIdsRow.domain false) (Rows.publishIdsSpec.post enc Try.prog Try.f6 false true false false) := by
  refine returnsInHanded_of_change_sized (C := Try.checked) own started (by kernel_rfl) Try.func6
    (ChangeSpec.witness6 (enc := enc) (C := Try.checked) false ⟨#[], #[.int .i64 0, .string ByteArray.empty], []⟩ 8 (by kernel_rfl) (by kernel_rfl) (by kernel_rfl) (by kernel_rfl)) ?_
  intro W base args ds gs before hval0 hW hcnd hsz0 _
  have hsz : (DataW.weightsEach Try.prog (Try.f6.params.toList ++ Rows.publishIdsSpec.plain.varTypes Try.prog) (ds ++ gs)).all (· ≤ reachBytes) = true := hsz0
  have hval : ∀ (j : Nat) t v, Try.f6.params[j]? = some t → args[j]? = some v → Value.okWide Try.prog W .any base t v := hval0
  have hW' := hW
  obtain ⟨p, q, hA0, hV, rfl, hfz, hnd⟩ := hW
  have hA : DataW.TrodAll enc Try.prog W 0 (fun _ => true) true Try.f6.params.toList args.toList ds p := hA0
  rw [Try.params6] at hA hval hsz
  obtain ⟨v0, vs0, d0, ds0, p0, q0, hargs, rfl, rfl, h0, r0⟩ := trodAll_cons hA
  obtain ⟨v1, vs1, d1, ds1, p1, q1, rfl, rfl, rfl, h1, r1⟩ := trodAll_cons r0
  obtain ⟨rfl, rfl, rfl⟩ := trodAll_nil r1
  obtain rfl : args = #[v0, v1] := by cases args; simp_all
  obtain ⟨rfl, rfl⟩ := trodVars_none hV
  have k0 := h0
  have lt0 : ∀ x ∈ p0, x.block < W.heap.size := by obtain ⟨m, hm⟩ := k0; exact DataW.trod_lt m _ _ _ hm
  have k1 := h1
  have lt1 : ∀ x ∈ p1, x.block < W.heap.size := by obtain ⟨m, hm⟩ := k1; exact DataW.trod_lt m _ _ _ hm
  obtain ⟨a0, rfl, rfl, rfl, w0⟩ := open_int Try.underlying3 (hval 0 3 v0 rfl rfl) h0
  have b0 := wf_i64 w0
  obtain ⟨a1, rfl, rfl, rfl, w1⟩ := open_string Try.underlying9 (hval 1 9 v1 rfl rfl) h1
  have s1 : a1.size ≤ 140737488351232 := by
    have := sized_string hsz (j := 1) (t := 9) rfl rfl
    simp only [Array.length_toList, reachBytes] at this
    exact this
  clear hA0 hval0 hsz0
  refine (walk a0 a1 W b0 s1).mono fun e W' ⟨he, bel⟩ => ?_
  subst he
  exact ⟨_, rfl, _, _, _, [], _, [], hW', trodAll_mk1 (shut_bool Try.underlying4 _), (trodAll_cons_mk (Below.trod laidOut (by kernel_rfl) (of_decide_eq_true (by kernel_rfl)) k0 bel lt0) (trodAll_cons_mk (Below.trod laidOut (by kernel_rfl) (of_decide_eq_true (by kernel_rfl)) k1 bel lt1) trodAll_mk0)), rfl, bel.frame _, fun h => by cases h⟩

theorem over : Rows.publishIdsRow.holds Try.pinned (OpenSpec.ofChange Rows.publishIdsSpec) :=
  OpenClaim.holds_of_wide 6 Try.f6 rfl rfl rfl rfl rfl rfl rfl ⟨rfl, rfl, rfl, rfl, rfl⟩ rfl rfl rfl rfl rfl (by kernel_rfl) Try.func6 (by kernel_rfl)
    (of_decide_eq_true (by kernel_rfl)) (by unfold Func.isWrapper; first | (rw [if_pos (by decide +kernel)]; kernel_rfl) | (rw [if_neg (by decide +kernel)]; exact ⟨rfl, rfl⟩))
    (fun os started H enc _ => lifted os started H enc)

theorem proved : Rows.PublishIdsSaid := over
end Go.Proofs.Ytkihhnndidaloaa.publishIds
