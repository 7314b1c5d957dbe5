/-
  SessionRoom: FOR EVERY INPUT the law returns true and leaves its arguments as they were.
-/
import Derived.Test.YtceiipcdkonnlaaXh
import Derived.Test.YtceiipcdkonnlaaRows
import Derived.WalkKit
import Derived.ProofKit
import Derived.OpenShut
import Derived.ShutString
import Derived.ChangeOld
import Derived.Below
import Derived.SizedLaws
import Derived.Lib.SmallJoins
namespace Go.Proofs.Ytceiipcdkonnlaa.sessionRoom
set_option linter.unusedSimpArgs false
set_option linter.unusedVariables false
open Go.ChangeShapes Go.WideShapes Go.ChangeAt Go.RowKit
open Go.ChangeMaps (open_string shut_string)
set_option linter.unusedVariables false

theorem own : ownKnob Try.prog.godebug = none := by kernel_rfl
theorem laidOut : laidOutB Try.prog = true := by kernel_rfl

open Que Hp Ids Fli Ses
set_option maxHeartbeats 16000000 in
set_option maxRecDepth 100000 in
theorem walk (n : Int) (w : World) (b0 : 0 ≤ n ∧ n ≤ 255) : Calls Try.prog 4 #[.int .u8 n] w (Yes w) := by
  have x0 : 0 ≤ n := b0.1
  have x1 : n ≤ 255 := b0.2
  clear b0
  obtain ⟨k, hk⟩ : ∃ k : Nat, (k : Int) = n % 40 := ⟨(n % 40).toNat, by omega⟩
  have k40 : k < 40 := by omega
  have k0 : 0 ≤ n % 40 := by omega
  have k1 : n % 40 ≤ 39 := by omega
  have NW : Hid (Calls Try.prog 8 #[.string ⟨#[99]⟩, .bool true] w fun e w' => ∃ a, e = .returned (.tuple #[.pointer (some ⟨a.s, 0, none⟩), .int .i64 0]) ∧ Ss (fun k => k < w.heap.size) w' a tC true false [] [] [] 0 ∧ Below w.heap.size w w') := Lib.hid (new_ok tC true w (by decide) tC_ne tC_right)
  replace hk := Lib.hid hk
  go_enter Try.func4, Try.ntmps4
  go_wp2_with fail
  refine NW.out.mono ?_
  rintro e w1 ⟨a, rfl, s1, b1⟩
  have I1 : Hid (Rm w w1 a 0) := Lib.hid ⟨by simpa using s1, b1⟩
  clear s1 b1 NW
  go_wp2_with fail
  rw [← hk.out]
  clear x0 x1 k0 k1
  go_loopw [6] (fun iv wr => ∃ i : Nat, iv = .int .i64 (i : Int) ∧ i ≤ k ∧ Rm w wr a i) (fun iv _ => k - (intOf iv).toNat)
  case atStart => exact ⟨0, rfl, by omega, I1.out⟩
  case round =>
    obtain ⟨i, rfl, hi, h⟩ := hrel
    by_cases hlt : i < k
    · have hlt' : (i : Int) < (k : Int) := by omega
      have ST := Lib.hid (h.step (by omega))
      clear h
      by_cases h16 : i < 16
      · have h16' : (i : Int) < 16 := by omega
        have hd : decide (i < 16) = true := decide_eq_true h16
        rw [hd] at ST
        go_wp2_with fail
        refine ST.out.mono ?_
        rintro e w3 ⟨va, vc, rfl, h3⟩
        replace h3 := Lib.hid h3
        clear ST
        go_wp2_with fail
        go_roundw
        case rel => exact ⟨i + 1, by simp, by omega, h3.out⟩
        case measure => simp [intOf]; omega
      · have h16' : ¬ (i : Int) < 16 := by omega
        have hd : decide (i < 16) = false := decide_eq_false h16
        rw [hd] at ST
        go_wp2_with fail
        refine ST.out.mono ?_
        rintro e w3 ⟨va, vc, rfl, h3⟩
        replace h3 := Lib.hid h3
        clear ST
        go_wp2_with fail
        go_roundw
        case rel => exact ⟨i + 1, by simp, by omega, h3.out⟩
        case measure => simp [intOf]; omega
    · obtain rfl : i = k := by omega
      have hi40 : (i : Int) ≤ 39 := by omega
      by_cases hc : i ≤ 16
      · have hc' : (i : Int) ≤ 16 := by omega
        have q0 : Rq w wr a i 0 := by
          have s0 := h.ss
          rw [show min i 16 = i by omega, show (i : Int) - (i : Nat) = 0 by omega] at s0
          exact ⟨s0, h.bw⟩
        have QU := Lib.hid (rq_queue q0)
        clear h hlt q0
        by_cases h8 : i ≤ 8
        · have h8' : (i : Int) ≤ 8 := by omega
          go_wp2_with fail
          refine QU.out.mono ?_
          rintro e w2 ⟨va2, vc2, rfl, h2⟩
          have LO := Lib.hid (rq_lost h2)
          have AT := Lib.hid (rq_att (S := i) (R := 0) h2 (by omega) (by omega))
          clear QU h2
          go_wp2_with fail
          refine LO.out.mono ?_
          rintro e w3 ⟨rfl, rfl⟩
          clear LO
          go_wp2_with fail
          refine AT.out.mono ?_
          rintro e w4 ⟨va4, vc4, rfl, h4⟩
          have AT2 := Lib.hid (rt_att h4 (by omega))
          clear AT h4
          go_wp2_with fail
          refine AT2.out.mono ?_
          rintro e w5 ⟨va5, vc5, rfl, h5⟩
          have FL := Lib.hid (rt_flight h5)
          clear AT2 h5
          go_wp2_with fail
          refine FL.out.mono ?_
          rintro e w6 ⟨va6, vc6, rfl, h6⟩
          have Q2 := Lib.hid (rt_queue h6)
          clear FL h6
          go_wp2_with fail
          refine Q2.out.mono ?_
          rintro e w7 ⟨va7, vc7, rfl, h7⟩
          obtain ⟨T, L, l, lost, -, -, -, b7⟩ := h7
          replace b7 := Lib.hid b7
          clear Q2
          go_wp2_with fail
          refine (awake25_any _).mono ?_
          rintro e w8 ⟨rfl, b8⟩
          go_wp2_with fail
          go_ret
          exact ⟨rfl, b7.out.trans (b8.mono b7.out.size)⟩
        · have h8' : ¬ (i : Int) ≤ 8 := by omega
          have h8'' : (8 : Int) < (i : Int) := by omega
          obtain ⟨R, hR⟩ : ∃ R : Nat, R = i - 8 := ⟨_, rfl⟩
          have hRi : ((R : Int) == (i : Int) - 8) = true := by simp; omega
          go_wp2_with fail
          refine QU.out.mono ?_
          rintro e w2 ⟨va2, vc2, rfl, h2⟩
          have LO := Lib.hid (rq_lost h2)
          have AT := Lib.hid (rq_att (S := 8) (R := R) h2 (by omega) (by omega))
          clear QU h2
          go_wp2_with fail
          refine LO.out.mono ?_
          rintro e w3 ⟨rfl, rfl⟩
          clear LO
          go_wp2_with fail
          refine AT.out.mono ?_
          rintro e w4 ⟨va4, vc4, rfl, h4⟩
          have AT2 := Lib.hid (rt_att h4 (by omega))
          clear AT h4
          go_wp2_with fail
          refine AT2.out.mono ?_
          rintro e w5 ⟨va5, vc5, rfl, h5⟩
          have FL := Lib.hid (rt_flight h5)
          clear AT2 h5
          go_wp2_with fail
          refine FL.out.mono ?_
          rintro e w6 ⟨va6, vc6, rfl, h6⟩
          have Q2 := Lib.hid (rt_queue h6)
          clear FL h6
          go_wp2_with fail
          refine Q2.out.mono ?_
          rintro e w7 ⟨va7, vc7, rfl, h7⟩
          obtain ⟨T, L, l, lost, -, -, -, b7⟩ := h7
          replace b7 := Lib.hid b7
          clear Q2
          go_wp2_with fail
          refine (awake25_any _).mono ?_
          rintro e w8 ⟨rfl, b8⟩
          go_wp2_with fail
          go_ret
          exact ⟨rfl, b7.out.trans (b8.mono b7.out.size)⟩
      · have hc' : ¬ (i : Int) ≤ 16 := by omega
        have hc'' : (16 : Int) < (i : Int) := by omega
        have q0 : Rq w wr a 16 ((i : Int) - 16) := by
          have s0 := h.ss
          rw [show min i 16 = 16 by omega] at s0
          exact ⟨s0, h.bw⟩
        have QU := Lib.hid (rq_queue q0)
        clear h hlt q0
        · skip
          go_wp2_with fail
          refine QU.out.mono ?_
          rintro e w2 ⟨va2, vc2, rfl, h2⟩
          have LO := Lib.hid (rq_lost h2)
          have AT := Lib.hid (rq_att (S := 8) (R := 8) h2 (by omega) (by omega))
          clear QU h2
          go_wp2_with fail
          refine LO.out.mono ?_
          rintro e w3 ⟨rfl, rfl⟩
          clear LO
          go_wp2_with fail
          refine AT.out.mono ?_
          rintro e w4 ⟨va4, vc4, rfl, h4⟩
          have AT2 := Lib.hid (rt_att h4 (by omega))
          clear AT h4
          go_wp2_with fail
          refine AT2.out.mono ?_
          rintro e w5 ⟨va5, vc5, rfl, h5⟩
          have FL := Lib.hid (rt_flight h5)
          clear AT2 h5
          go_wp2_with fail
          refine FL.out.mono ?_
          rintro e w6 ⟨va6, vc6, rfl, h6⟩
          have Q2 := Lib.hid (rt_queue h6)
          clear FL h6
          go_wp2_with fail
          refine Q2.out.mono ?_
          rintro e w7 ⟨va7, vc7, rfl, h7⟩
          obtain ⟨T, L, l, lost, -, -, -, b7⟩ := h7
          replace b7 := Lib.hid b7
          clear Q2
          go_wp2_with fail
          refine (awake25_any _).mono ?_
          rintro e w8 ⟨rfl, b8⟩
          go_wp2_with fail
          go_ret
          exact ⟨rfl, b7.out.trans (b8.mono b7.out.size)⟩

set_option maxRecDepth 100000 in
theorem lifted (os : Os) (started : os.Started) (H : Type) (enc : TypeId × Value → H) :
    ReturnsInHanded {} Try.checked os 4 .any (Rows.sessionRoomSpec.pre6 enc Try.prog Try.f4 Rows.sessionRoomRow.domain false) (Rows.sessionRoomSpec.post enc Try.prog Try.f4 false true false false) := by
  refine returnsInHanded_of_change_sized (C := Try.checked) own started (by kernel_rfl) Try.func4
    (ChangeSpec.witness6 (enc := enc) (C := Try.checked) false ⟨#[], #[.int .u8 0], []⟩ 8 (by kernel_rfl) (by kernel_rfl) (by kernel_rfl) (by kernel_rfl)) ?_
  intro W base args ds gs before hval0 hW hcnd hsz0 _
  have hsz : (DataW.weightsEach Try.prog (Try.f4.params.toList ++ Rows.sessionRoomSpec.plain.varTypes Try.prog) (ds ++ gs)).all (· ≤ reachBytes) = true := hsz0
  have hval : ∀ (j : Nat) t v, Try.f4.params[j]? = some t → args[j]? = some v → Value.okWide Try.prog W .any base t v := hval0
  have hW' := hW
  obtain ⟨p, q, hA0, hV, rfl, hfz, hnd⟩ := hW
  have hA : DataW.TrodAll enc Try.prog W 0 (fun _ => true) true Try.f4.params.toList args.toList ds p := hA0
  rw [Try.params4] at hA hval hsz
  obtain ⟨v0, vs0, d0, ds0, p0, q0, hargs, rfl, rfl, h0, r0⟩ := trodAll_cons hA
  obtain ⟨rfl, rfl, rfl⟩ := trodAll_nil r0
  obtain rfl : args = #[v0] := by cases args; simp_all
  obtain ⟨rfl, rfl⟩ := trodVars_none hV
  have k0 := h0
  have lt0 : ∀ x ∈ p0, x.block < W.heap.size := by obtain ⟨m, hm⟩ := k0; exact DataW.trod_lt m _ _ _ hm
  obtain ⟨a0, rfl, rfl, rfl, w0⟩ := open_int Try.underlying5 (hval 0 5 v0 rfl rfl) h0
  have b0 := wf_u8 w0
  clear hA0 hval0 hsz0
  refine (walk a0 W b0).mono fun e W' ⟨he, bel⟩ => ?_
  subst he
  exact ⟨_, rfl, _, _, _, [], _, [], hW', trodAll_mk1 (shut_bool Try.underlying4 _), (trodAll_cons_mk (Below.trod laidOut (by kernel_rfl) (of_decide_eq_true (by kernel_rfl)) k0 bel lt0) trodAll_mk0), rfl, bel.frame _, fun h => by cases h⟩

theorem over : Rows.sessionRoomRow.holds Try.pinned (OpenSpec.ofChange Rows.sessionRoomSpec) :=
  OpenClaim.holds_of_wide 4 Try.f4 rfl rfl rfl rfl rfl rfl rfl ⟨rfl, rfl, rfl, rfl, rfl⟩ rfl rfl rfl rfl rfl (by kernel_rfl) Try.func4 (by kernel_rfl)
    (of_decide_eq_true (by kernel_rfl)) (by unfold Func.isWrapper; first | (rw [if_pos (by decide +kernel)]; kernel_rfl) | (rw [if_neg (by decide +kernel)]; exact ⟨rfl, rfl⟩))
    (fun os started H enc _ => lifted os started H enc)

theorem proved : Rows.SessionRoomSaid := over
end Go.Proofs.Ytceiipcdkonnlaa.sessionRoom
