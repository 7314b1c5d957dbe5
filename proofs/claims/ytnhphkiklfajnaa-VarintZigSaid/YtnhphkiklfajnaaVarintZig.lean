/-
  VarintZig: FOR EVERY INPUT the law returns true and leaves its arguments as they were.
-/
import Derived.Test.YtnhphkiklfajnaaVb
import Derived.Test.YtnhphkiklfajnaaRows
import Derived.WalkKit
import Derived.ProofKit
import Derived.OpenShut
import Derived.ShutString
import Derived.ChangeOld
import Derived.Below
namespace Go.Proofs.Ytnhphkiklfajnaa.varintZig
open Go.ChangeShapes Go.WideShapes Go.ChangeAt Go.RowKit
open Go.ChangeMaps (open_string shut_string)
set_option linter.unusedVariables false

theorem own : ownKnob Try.prog.godebug = none := by kernel_rfl
theorem laidOut : laidOutB Try.prog = true := by kernel_rfl

theorem zigSmall (n : Int) (h : -64 ≤ n ∧ n ≤ 63) : sz (zigF n).toNat = 1 := by
  apply sz_small
  unfold zigF; split <;> omega
theorem odd (n : Int) : (!(zigF n % 2 == 1) == decide (n < 0)) = false := by
  unfold zigF
  split
  · rename_i h
    rw [show ((2 * n) % 2 == 1) = false from by rw [beq_eq_false_iff_ne]; omega, show decide (n < 0) = false from by simpa using h]; rfl
  · rename_i h
    rw [show ((-2 * n - 1) % 2 == 1) = true from by rw [beq_iff_eq]; omega, show decide (n < 0) = true from by simp; omega]; rfl
theorem size_int (n : Int) (w : World) (h0 : 0 ≤ n) (h1 : n ≤ 18446744073709551615) (hs : sz n.toNat = 1) :
    Calls Try.prog 16 #[.int .u64 n] w fun e w' => e = .returned (.int .i64 1) ∧ w = w' := by
  have h := size_any n.toNat w (by omega)
  rw [hs, Int.toNat_of_nonneg h0] at h
  exact h

set_option maxRecDepth 100000 in
theorem walk (n u : Int) (w : World) (hn : -9223372036854775808 ≤ n ∧ n ≤ 9223372036854775807) (hu : 0 ≤ u ∧ u ≤ 18446744073709551615) :
    Calls Try.prog 6 #[.int .i64 n, .int .u64 u] w (Yes w) := by
  have h1 := zigF_range n hn.1 hn.2
  have h2 := zagF_range u hu.1 hu.2
  have H1 := Lib.hid h1
  have H2 := Lib.hid h2
  have Hn := Lib.hid hn
  have Hu := Lib.hid hu
  clear h1 h2 hn hu
  have ho := odd n
  have hp : 0 ≤ zigF n := H1.out.1
  go_enter Try.func6, Try.ntmps6
  go_wp2_with fail
  refine (zig_any n _ Hn.out.1 Hn.out.2).mono ?_
  rintro e w' ⟨rfl, rfl⟩
  go_wp2_with fail
  refine (zag_any (zigF n) _ H1.out.1 H1.out.2).mono ?_
  rintro e w' ⟨rfl, rfl⟩
  rw [zag_zig n]
  go_wp2_with fail
  refine (zag_any u _ Hu.out.1 Hu.out.2).mono ?_
  rintro e w' ⟨rfl, rfl⟩
  go_wp2_with fail
  refine (zig_any (zagF u) _ H2.out.1 H2.out.2).mono ?_
  rintro e w' ⟨rfl, rfl⟩
  rw [zig_zag u Hu.out.1]
  go_wp2_with (first
    | (go_at_call 21; refine (awake_any _).mono ?_; rintro e w' ⟨rfl, hb⟩)
    | (go_at_call 16; refine (size_int (zigF n) _ H1.out.1 H1.out.2 (zigSmall n ⟨by assumption, by assumption⟩)).mono ?_; rintro e w' ⟨rfl, rfl⟩))
  all_goals go_ret
  all_goals exact ⟨rfl, by assumption⟩

set_option maxRecDepth 100000 in
theorem lifted (os : Os) (started : os.Started) (H : Type) (enc : TypeId × Value → H) :
    ReturnsInHanded {} Try.checked os 6 .any (Rows.varintZigSpec.pre6 enc Try.prog Try.f6 Rows.varintZigRow.domain false) (Rows.varintZigSpec.post enc Try.prog Try.f6 false true false false) := by
  refine returnsInHanded_of_change (C := Try.checked) own started (by kernel_rfl) Try.func6
    (ChangeSpec.witness6 (enc := enc) (C := Try.checked) false ⟨#[], #[.int .i64 0, .int .u64 0], []⟩ 8 (by kernel_rfl) (by kernel_rfl) (by kernel_rfl) (by kernel_rfl)) ?_
  intro W base args ds gs before hval0 hW hcnd _
  have hval : ∀ (j : Nat) t v, Try.f6.params[j]? = some t → args[j]? = some v → Value.okWide Try.prog W .any base t v := hval0
  have hW' := hW
  obtain ⟨p, q, hA0, hV, rfl, hfz, hnd⟩ := hW
  have hA : DataW.TrodAll enc Try.prog W 0 (fun _ => true) true Try.f6.params.toList args.toList ds p := hA0
  rw [Try.params6] at hA hval
  obtain ⟨v0, vs0, d0, ds0, p0, q0, hargs, rfl, rfl, h0, r0⟩ := trodAll_cons hA
  obtain ⟨v1, vs1, d1, ds1, p1, q1, rfl, rfl, rfl, h1, r1⟩ := trodAll_cons r0
  obtain ⟨rfl, rfl, rfl⟩ := trodAll_nil r1
  obtain rfl : args = #[v0, v1] := by cases args; simp_all
  obtain ⟨rfl, rfl⟩ := trodVars_none hV
  have k0 := h0
  have lt0 : ∀ x ∈ p0, x.block < W.heap.size := by obtain ⟨m, hm⟩ := k0; exact DataW.trod_lt m _ _ _ hm
  have k1 := h1
  have lt1 : ∀ x ∈ p1, x.block < W.heap.size := by obtain ⟨m, hm⟩ := k1; exact DataW.trod_lt m _ _ _ hm
  obtain ⟨a0, rfl, rfl, rfl, w0⟩ := open_int Try.underlying2 (hval 0 2 v0 rfl rfl) h0
  have b0 := wf_i64 w0
  obtain ⟨a1, rfl, rfl, rfl, w1⟩ := open_int Try.underlying22 (hval 1 22 v1 rfl rfl) h1
  have b1 := wf_u64 w1
  clear hA0 hval0
  refine (walk a0 a1 W b0 b1).mono fun e W' ⟨he, bel⟩ => ?_
  subst he
  exact ⟨_, rfl, _, _, _, [], _, [], hW', trodAll_mk1 (shut_bool Try.underlying4 _), (trodAll_cons_mk (Below.trod laidOut (by kernel_rfl) (of_decide_eq_true (by kernel_rfl)) k0 bel lt0) (trodAll_cons_mk (Below.trod laidOut (by kernel_rfl) (of_decide_eq_true (by kernel_rfl)) k1 bel lt1) trodAll_mk0)), rfl, bel.frame _, fun h => by cases h⟩

theorem over : Rows.varintZigRow.holds Try.pinned (OpenSpec.ofChange Rows.varintZigSpec) :=
  OpenClaim.holds_of_wide 6 Try.f6 rfl rfl rfl rfl rfl rfl rfl ⟨rfl, rfl, rfl, rfl, rfl⟩ rfl rfl rfl rfl rfl (by kernel_rfl) Try.func6 (by kernel_rfl)
    (of_decide_eq_true (by kernel_rfl)) (by unfold Func.isWrapper; first | (rw [if_pos (by decide +kernel)]; kernel_rfl) | (rw [if_neg (by decide +kernel)]; exact ⟨rfl, rfl⟩))
    (fun os started H enc _ => lifted os started H enc)

theorem proved : Rows.VarintZigSaid := over
end Go.Proofs.Ytnhphkiklfajnaa.varintZig
