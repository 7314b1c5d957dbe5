/-
  WireBack: FOR EVERY INPUT the law returns true and leaves its arguments as they were.
-/
import Derived.Test.YtgegphmfdcninaaWo
import Derived.Test.YtgegphmfdcninaaWt
import Derived.Test.YtgegphmfdcninaaRows
import Derived.WalkKit
import Derived.ProofKit
import Derived.OpenShut
import Derived.ShutString
import Derived.ChangeOld
import Derived.Below
import Derived.SizedLaws
import Derived.Lib.SmallJoins
namespace Go.Proofs.Ytgegphmfdcninaa.wireBack
open Go.ChangeShapes Go.WideShapes Go.ChangeAt Go.RowKit
open Go.ChangeMaps (open_string shut_string)
set_option linter.unusedVariables false

theorem own : ownKnob Try.prog.godebug = none := by kernel_rfl
theorem laidOut : laidOutB Try.prog = true := by kernel_rfl

set_option maxHeartbeats 4000000 in
set_option maxRecDepth 100000 in
theorem walk (a : Option Addr) (len cap : Nat) (l : List Fd) (num : Int) (w : World) (hs : FdsAt w (.slice a len cap) l) (hok : ∀ f ∈ l, f.ok) (bn : -9223372036854775808 ≤ num ∧ num ≤ 9223372036854775807) :
    Calls Try.prog 5 #[.slice a len cap, .int .i64 num] w (Yes w) := by
  obtain rfl : len = l.length := by
    obtain ⟨a', c', hv, -⟩ := hs
    simp only [Value.slice.injEq] at hv
    exact hv.2.1
  have P := Lib.hid (puts3 _ l w hs hok).1
  by_cases hE : putsE l = 0
  · obtain ⟨hO, h4, hlt⟩ := of_join l hok hE
    have hl6 : l.length ≤ 256 := by have := ofR_le (putsL l); rw [hO] at this; exact this
    rw [hE] at P
    generalize putsL l = L at *
    have hl6' : (l.length : Int) ≤ 256 := by omega
    have h4' : (L.length : Int) ≤ 4096 := by omega
    replace hs := Lib.hid hs
    replace hok := Lib.hid hok
    replace hE := Lib.hid hE
    replace hO := Lib.hid hO
    replace hlt := Lib.hid hlt
    go_enter Try.func5, Try.ntmps5
    go_wp2_with fail
    refine (P.out).mono ?_
    rintro e w1 ⟨v1, rfl, s1, b1⟩
    replace s1 := Lib.hid s1
    obtain ⟨a1, c1, rfl, -⟩ := s1.out
    replace b1 := Lib.hid b1
    go_wp2_with fail
    refine (of_any _ L w1 s1.out hlt.out (by omega)).mono ?_
    rw [hO.out]
    rintro e w2 ⟨v2, rfl, s2, b2⟩
    have B2 := Lib.hid (ext_trans b1.out b2)
    replace s2 := Lib.hid s2
    obtain ⟨a2, c2, rfl, -⟩ := s2.out
    clear b2
    go_wp2_with fail
    refine (same_eq _ _ l w2 (hs.out.keep B2.out (Nat.le_refl _)) s2.out).mono ?_
    rintro e w3 ⟨rfl, b3⟩
    have s3 := Lib.hid (s2.out.keep b3 (Nat.le_refl _))
    have B3 := Lib.hid (ext_trans B2.out b3)
    clear b3 s2
    go_wp2_with fail
    refine (last_any _ l num w3 s3.out (by omega)).mono ?_
    rintro e w4 ⟨rfl, b4⟩
    have s4 := Lib.hid (s3.out.keep b4 (Nat.le_refl _))
    have B4 := Lib.hid (ext_trans B3.out b4)
    clear b4 s3
    have RL := Lib.hid fun w' (hb : Below w.heap.size w w') => rlast_any _ l num w' (hs.out.keep hb (Nat.le_refl _)) (by omega)
    unfold LastIs at RL
    generalize lastD num l = X at *
    obtain ⟨⟨fn, fk, fv, ft⟩, fd⟩ := X
    simp only [Fd.cells] at RL ⊢
    have kx := Lib.hid (Blk.new w4 39 #[.int .i64 fn, .int .i64 fk, .int .u64 (fv : Nat), .string ft])
    have B5 := Lib.hid (ext_trans B4.out (ext_alloc w4 (.cells #[.int .i64 fn, .int .i64 fk, .int .u64 (fv : Nat), .string ft] 39)))
    have s5 := Lib.hid (s4.out.keep (ext_alloc w4 (.cells #[.int .i64 fn, .int .i64 fk, .int .u64 (fv : Nat), .string ft] 39)) (Nat.le_refl _))
    go_wp2_with fail
    refine (RL.out _ B5.out).mono ?_
    rintro e w6 ⟨rfl, b6⟩
    have s6 := Lib.hid ((s5.out.keep b6 (Nat.le_refl _)).keep (ext_alloc w6 (.cells #[.int .i64 fn, .int .i64 fk, .int .u64 (fv : Nat), .string ft] 39)) (Nat.le_refl _))
    have B6 := Lib.hid (ext_trans (ext_trans B5.out b6) (ext_alloc w6 (.cells #[.int .i64 fn, .int .i64 fk, .int .u64 (fv : Nat), .string ft] 39)))
    have kx6 := Lib.hid ((kx.out.ext b6).alloc (.cells #[.int .i64 fn, .int .i64 fk, .int .u64 (fv : Nat), .string ft] 39))
    have ky := Lib.hid (Blk.new w6 39 #[.int .i64 fn, .int .i64 fk, .int .u64 (fv : Nat), .string ft])
    clear b6 s4 s5 kx
    go_wp2_with fail
    refine (all_any _ l num _ s6.out (by omega)).mono ?_
    rintro e w7 ⟨v7, rfl, s7, b7⟩
    have B7 := Lib.hid (ext_trans B6.out b7)
    have kx7 := Lib.hid (kx6.out.ext b7)
    have ky7 := Lib.hid (ky.out.ext b7)
    replace s7 := Lib.hid s7
    clear b7 s6 kx6 ky
    go_wp2_with fail
    refine (rall_any _ l num _ (hs.out.keep B7.out (Nat.le_refl _)) (by omega)).mono ?_
    rintro e w8 ⟨v8, rfl, s8, b8⟩
    have B8 := Lib.hid (ext_trans B7.out b8)
    have kx8 := Lib.hid (kx7.out.ext b8)
    have ky8 := Lib.hid (ky7.out.ext b8)
    have s9 := Lib.hid (s7.out.keep b8 (Nat.le_refl _))
    replace s8 := Lib.hid s8
    clear b8 s7 kx7 ky7
    go_wp2_with fail
    refine (same_eq _ _ (filt num l) _ s9.out s8.out).mono ?_
    rintro e w9 ⟨rfl, b9⟩
    have B9 := Lib.hid (ext_trans B8.out b9)
    obtain ⟨x0, x1, x2, x3⟩ := blk4 (f := ⟨fn, fk, fv, ft⟩) (kx8.out.ext b9)
    obtain ⟨y0, y1, y2, y3⟩ := blk4 (f := ⟨fn, fk, fv, ft⟩) (ky8.out.ext b9)
    simp only at x0 x1 x2 x3 y0 y1 y2 y3
    clear b9 s8 s9 kx8 ky8
    go_wp2_with fail
    refine (awake_any _).mono ?_
    rintro e w10 ⟨rfl, b10⟩
    go_wp2_with fail
    go_ret
    exact ⟨rfl, ext_trans B9.out b10⟩
  · have hL : putsL l = [] := by unfold putsL; rw [if_neg hE]
    rw [hL] at P
    have d1 : ((putsE l : Int) != 0) = true := by simpa using hE
    replace hE := Lib.hid hE
    replace hs := Lib.hid hs
    go_enter Try.func5, Try.ntmps5
    go_wp2_with fail
    refine (P.out).mono ?_
    rintro e w1 ⟨v1, rfl, s1, b1⟩
    obtain ⟨a1, c1, rfl, -⟩ := s1
    go_wp2_with fail
    refine (awake_any _).mono ?_
    rintro e w10 ⟨rfl, b10⟩
    go_wp2_with fail
    go_ret
    exact ⟨rfl, ext_trans b1 b10⟩

set_option maxRecDepth 100000 in
theorem lifted (os : Os) (started : os.Started) (H : Type) (enc : TypeId × Value → H) :
    ReturnsInHanded {} Try.checked os 5 .any (Rows.wireBackSpec.pre6 enc Try.prog Try.f5 Rows.wireBackRow.domain false) (Rows.wireBackSpec.post enc Try.prog Try.f5 false true false false) := by
  refine returnsInHanded_of_change_sized (C := Try.checked) own started (by kernel_rfl) Try.func5
    (ChangeSpec.witness6 (enc := enc) (C := Try.checked) false ⟨#[], #[.slice none 0 0, .int .i64 0], []⟩ 8 (by kernel_rfl) (by kernel_rfl) (by kernel_rfl) (by kernel_rfl)) ?_
  intro W base args ds gs before hval0 hW hcnd hsz0 _
  have hsz : (DataW.weightsEach Try.prog (Try.f5.params.toList ++ Rows.wireBackSpec.plain.varTypes Try.prog) (ds ++ gs)).all (· ≤ reachBytes) = true := hsz0
  have hval : ∀ (j : Nat) t v, Try.f5.params[j]? = some t → args[j]? = some v → Value.okWide Try.prog W .any base t v := hval0
  have hW' := hW
  obtain ⟨p, q, hA0, hV, rfl, hfz, hnd⟩ := hW
  have hA : DataW.TrodAll enc Try.prog W 0 (fun _ => true) true Try.f5.params.toList args.toList ds p := hA0
  rw [Try.params5] at hA hval hsz
  obtain ⟨v0, vs0, d0, ds0, p0, q0, hargs, rfl, rfl, h0, r0⟩ := trodAll_cons hA
  obtain ⟨v1, vs1, d1, ds1, p1, q1, rfl, rfl, rfl, h1, r1⟩ := trodAll_cons r0
  obtain ⟨rfl, rfl, rfl⟩ := trodAll_nil r1
  obtain rfl : args = #[v0, v1] := by cases args; simp_all
  obtain ⟨rfl, rfl⟩ := trodVars_none hV
  have k0 := h0
  have lt0 : ∀ x ∈ p0, x.block < W.heap.size := by obtain ⟨m, hm⟩ := k0; exact DataW.trod_lt m _ _ _ hm
  have k1 := h1
  have lt1 : ∀ x ∈ p1, x.block < W.heap.size := by obtain ⟨m, hm⟩ := k1; exact DataW.trod_lt m _ _ _ hm
  obtain ⟨a0, len0, cap0, rfl⟩ := okWide_slice Try.underlying22 (hval 0 22 v0 rfl rfl)
  obtain ⟨z0, w0, s0⟩ : ∃ l : List Fd, FdsAt W (.slice a0 len0 cap0) l ∧ ∀ f ∈ l, f.ok := by
    obtain ⟨fuel, hf⟩ := h0
    exact open_fds hf (fun n hn => by
      have hm := List.all_eq_true.1 hsz n (DataW.weights_mem_each (j := 0) (t := 22) rfl rfl _ hn)
      simpa [reachBytes] using of_decide_eq_true hm)
  obtain ⟨a1, rfl, rfl, rfl, w1⟩ := open_int Try.underlying3 (hval 1 3 v1 rfl rfl) h1
  have b1 := wf_i64 w1
  clear hA0 hval0 hsz0
  refine (walk a0 len0 cap0 z0 a1 W w0 s0 b1).mono fun e W' ⟨he, bel⟩ => ?_
  subst he
  exact ⟨_, rfl, _, _, _, [], _, [], hW', trodAll_mk1 (shut_bool Try.underlying4 _), (trodAll_cons_mk (Below.trod laidOut (by kernel_rfl) (of_decide_eq_true (by kernel_rfl)) k0 bel lt0) (trodAll_cons_mk (Below.trod laidOut (by kernel_rfl) (of_decide_eq_true (by kernel_rfl)) k1 bel lt1) trodAll_mk0)), rfl, bel.frame _, fun h => by cases h⟩

theorem over : Rows.wireBackRow.holds Try.pinned (OpenSpec.ofChange Rows.wireBackSpec) :=
  OpenClaim.holds_of_wide 5 Try.f5 rfl rfl rfl rfl rfl rfl rfl ⟨rfl, rfl, rfl, rfl, rfl⟩ rfl rfl rfl rfl rfl (by kernel_rfl) Try.func5 (by kernel_rfl)
    (of_decide_eq_true (by kernel_rfl)) (by unfold Func.isWrapper; first | (rw [if_pos (by decide +kernel)]; kernel_rfl) | (rw [if_neg (by decide +kernel)]; exact ⟨rfl, rfl⟩))
    (fun os started H enc _ => lifted os started H enc)

theorem proved : Rows.WireBackSaid := over
end Go.Proofs.Ytgegphmfdcninaa.wireBack
