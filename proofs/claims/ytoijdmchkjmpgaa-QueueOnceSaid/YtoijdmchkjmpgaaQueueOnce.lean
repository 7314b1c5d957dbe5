/-
  QueueOnce: FOR EVERY INPUT the law returns true and leaves its arguments as they were.
-/
import Derived.Test.YtoijdmchkjmpgaaQf
import Derived.Test.YtoijdmchkjmpgaaByt
import Derived.Test.YtoijdmchkjmpgaaRows
import Derived.WalkKit
import Derived.ProofKit
import Derived.OpenShut
import Derived.ShutString
import Derived.ChangeOld
import Derived.Below
import Derived.SizedLaws
import Derived.Lib.SmallJoins
namespace Go.Proofs.Ytoijdmchkjmpgaa.queueOnce
open Go.ChangeShapes Go.WideShapes Go.ChangeAt Go.RowKit
open Go.ChangeMaps (open_string shut_string)
set_option linter.unusedVariables false

theorem own : ownKnob Try.prog.godebug = none := by kernel_rfl
theorem laidOut : laidOutB Try.prog = true := by kernel_rfl

open Que
set_option maxHeartbeats 16000000 in
set_option maxRecDepth 100000 in
theorem walk (m : Int) (a : Option Addr) (len cap : Nat) (z : Nat → Bool) (w : World) (b0 : 0 ≤ m ∧ m ≤ 255) (h1 : IsBools w a len z) :
    Calls Try.prog 7 #[.int .u8 m, .slice a len cap] w (Yes w) := by
  obtain ⟨hlm, hc⟩ := h1
  have C1 := Lib.hid hc
  clear hc
  have hlen' : (len : Int) ≤ 9223372036854775807 := by unfold maxLen at hlm; omega
  obtain ⟨i3, hi3, hz30, hz31, hz32⟩ := info_parts info3
  have m0 : 0 ≤ m := b0.1
  have m1 : m ≤ 255 := b0.2
  obtain ⟨n, hn⟩ : ∃ n : Nat, (n : Int) = 1 + m % 20 := ⟨(1 + m % 20).toNat, by omega⟩
  have n1 : 1 ≤ n := by omega
  have n2 : n ≤ 20 := by omega
  have NW := Lib.hid (new_any n w n1 (by omega))
  have r0 : 0 ≤ m % 20 := by omega
  have r1 : m % 20 ≤ 19 := by omega
  replace hn := Lib.hid hn
  clear b0
  go_enter Try.func7, Try.ntmps7
  go_wp2_with fail
  rw [show 1 + m % 20 = (n : Int) from hn.out.symm]
  clear r0 r1 m0 m1 hn
  refine NW.out.mono ?_
  rintro e w1 ⟨rfl, q1, b1, z1⟩
  have L1 := Lib.hid (Lo.mk (w := w) (len := len) (k := 0) (n := n) (W := []) (next := 0) (lost := 0) (v := .slice none 0 0) (by omega) (by omega) (by simp) (by simp) (by simp) (World.ownsRow_nil _ _ _ _) q1 b1)
  clear q1 b1 z1 NW
  go_wp2_with fail
  go_loopw [8, 9, 10, 11, 12] (fun pv nv lv vv iv wr => ∃ (k : Nat) (W : List Int) (next lost : Nat), iv = .int .i64 (k : Int) ∧ pv = .int .i64 ((W.length + lost : Nat) : Int) ∧ nv = .int .i64 (next : Int) ∧ lv = .int .i64 (lost : Int) ∧ Lo w wr len k n W next lost vv) (fun _ _ _ _ iv _ => len - (intOf iv).toNat)
  case atStart => exact ⟨0, [], 0, 0, rfl, rfl, rfl, rfl, L1.out⟩
  case round =>
    obtain ⟨k, W, next, lost, rfl, rfl, rfl, rfl, h⟩ := hrel
    obtain ⟨va, vc, rfl⟩ := own_slice h.ow
    have hkl := h.kl
    have hk6 := h.k6
    have hnw := h.nw
    have hwk := h.wk
    by_cases hlt : k < len ∧ k < 120
    · obtain ⟨hlt0, hlt1⟩ := hlt
      obtain ⟨b0, o0, rfl, hb0, hcell⟩ : ∃ b0 o, a = some ⟨b0, o, none⟩ ∧ b0 < w.heap.size ∧ wr.cell? ⟨b0, o + k, none⟩ = some (.bool (z k)) := by
        rcases C1.out with h0 | ⟨b0, o, ha, hb, hh⟩
        · omega
        · exact ⟨b0, o, ha, hb, (h.bw.cell (by simpa using hb)).trans (hh k hlt0)⟩
      have hlt0' : (k : Int) < len := by omega
      have hlt1' : (k : Int) < 120 := by omega
      cases hz : z k
      · rw [hz] at hcell
        replace hz := Lib.hid hz
        have hput : (0 : Int) ≤ ((W.length + lost : Nat) : Int) ∧ ((W.length + lost : Nat) : Int) ≤ 120 := by omega
        obtain ⟨hp0, hp1⟩ := hput
        obtain ⟨p, hp⟩ : ∃ p : Nat, p = W.length + lost := ⟨_, rfl⟩
        rw [← hp] at hp0 hp1 ⊢
        by_cases hroom : ((W.drop next).map mq).length < n
        · have P1 := Lib.hid (put_yes h.qu (mq ((p : Int) + 1)) hroom)
          have H := Lib.hid h
          replace hp := Lib.hid hp
          replace hroom := Lib.hid hroom
          clear h
          go_wp2_with fail
          refine P1.out.mono ?_
          rintro e w2 ⟨rfl, q2, g2⟩
          have o2 := Lib.hid (own_chan H.out.ow H.out.qu.ch.choose_spec.choose_spec g2)
          have q2 := Lib.hid q2
          have bw2 := H.out.bw.grown g2 H.out.bw.size (fun k hk => by cases hk; exact Nat.le_refl _)
          have sz2 := bw2.size
          replace bw2 := Lib.hid bw2
          have oA := Lib.hid (own_keep o2.out (ext_alloc w2 (.cells #[.int .i64 ((p : Int) + 1)] 3)))
          have hnew : Hid (∀ j u, ([Value.int .i64 ((p : Int) + 1)] : List Value)[j]? = some u → (w2.alloc (.cells #[.int .i64 ((p : Int) + 1)] 3)).cell? ((⟨w2.heap.size, 0, none⟩ : Addr).add j) = some u) := Lib.hid (by
            intro j u hj
            cases j with
            | zero =>
              simp only [List.getElem?_cons_zero, Option.some.injEq] at hj
              subst hj
              simp [Addr.add]
            | succ j => simp at hj)
          clear g2 P1
          go_wp2_with (first
            | (at_builtin; go_must (refine wpList_append_own _ rfl (.tmp 76) (.tmp 78) 22 rfl w.heap.size 3 i3 (.int .i64 0) 1 8 Try.underlying22 hi3 hz30 hz31 hz32 rfl (by decide) (.slice va W.length vc) W.length (il W) rfl oA.out ⟨w2.heap.size, 0, none⟩ 1 1 [.int .i64 ((p : Int) + 1)] rfl rfl hnew.out (by intro u hu; simp at hu; subst hu; rfl) (by unfold maxLen; omega) (by omega) (by simp; omega) ?_); intro v3 w3 o3 g3 _))
          go_roundw
          case rel => exact ⟨k + 1, W ++ [(p : Int) + 1], next, lost, by simp, by rw [hp.out]; simp; omega, rfl, rfl, put_new H.out hlt0 hlt1 hroom.out q2.out bw2.out o3 g3 (oA.out)⟩
          case measure => simp [intOf]; omega
        · have P1 := Lib.hid (put_no h.qu (mq ((p : Int) + 1)) (by omega) (by omega) (by omega))
          have H := Lib.hid h
          replace hp := Lib.hid hp
          clear h hroom
          go_wp2_with fail
          refine P1.out.mono ?_
          rintro e w2 ⟨rfl, q2, g2⟩
          have L2 := Lib.hid (H.out.lose hlt0 hlt1 q2 g2)
          clear q2 g2 P1
          go_wp2_with fail
          go_roundw
          case rel => exact ⟨k + 1, W, next, lost + 1, by simp, by rw [hp.out]; simp; omega, rfl, by simp, L2.out⟩
          case measure => simp [intOf]; omega
      · rw [hz] at hcell
        replace hz := Lib.hid hz
        by_cases hnx : next < W.length
        · obtain ⟨x, R, hd⟩ : ∃ x R, W.drop next = x :: R := ⟨_, _, List.drop_eq_getElem_cons hnx⟩
          have hget : (il W)[next]? = some (.int .i64 x) := by
            have : W[next]? = some x := by
              have := congrArg (fun l => l[0]?) hd
              simpa using this
            simp [il, this]
          have q1 := h.qu
          rw [hd] at q1
          have T1 : Hid (Calls Try.prog 30 #[.pointer (some ⟨w.heap.size + 1, 0, none⟩)] wr fun e w' => e = .returned (.tuple #[.agg #[.string { data := #[] }, .string { data := #[] }, .int .i64 x, .bool false], .bool true]) ∧ Qu w' (w.heap.size + 1) w.heap.size n (R.map mq) lost ∧ wr.grownBy w' (some w.heap.size)) := Lib.hid (take_yes q1)
          have H := Lib.hid h
          obtain ⟨gw, cw, hv⟩ := own_slice' h.ow (by omega)
          simp only [Value.slice.injEq] at hv
          obtain ⟨rfl, -, rfl⟩ := hv
          replace hd := Lib.hid hd
          replace hget := Lib.hid hget
          have hnx' : (next : Int) < (W.length : Int) := by omega
          clear h q1
          go_wp2_with fail
          refine T1.out.mono ?_
          rintro e w2 ⟨rfl, q2, g2⟩
          have o2 := own_chan H.out.ow H.out.qu.ch.choose_spec.choose_spec g2
          have cw2 := own_get (own_keep o2 (ext_alloc w2 (.cells #[.string { data := #[] }, .string { data := #[] }, .int .i64 x, .bool false] 53))) hget.out
          have L2 := Lib.hid (H.out.took hd.out hlt0 hlt1 q2 g2 (.cells #[.string { data := #[] }, .string { data := #[] }, .int .i64 x, .bool false] 53))
          clear o2 q2 g2 T1
          go_wp2_with fail
          go_quiet (fail)
          go_wp2_with fail
          go_roundw
          case rel => exact ⟨k + 1, W, next + 1, lost, by simp, rfl, by simp, rfl, L2.out.drewN _⟩
          case measure => simp [intOf]; omega
        · have hd : W.drop next = [] := List.drop_eq_nil_of_le (by omega)
          have q1 := h.qu
          rw [hd] at q1
          have T1 : Hid (Calls Try.prog 30 #[.pointer (some ⟨w.heap.size + 1, 0, none⟩)] wr fun e w' => e = .returned (.tuple #[.agg #[.string { data := #[] }, .string { data := #[] }, .int .i64 0, .bool false], .bool false]) ∧ Qu w' (w.heap.size + 1) w.heap.size n [] lost ∧ Below wr.heap.size wr w') := Lib.hid (take_no q1)
          have H := Lib.hid h
          replace hd := Lib.hid hd
          have hnx' : ¬ (next : Int) < (W.length : Int) := by omega
          clear h q1
          go_wp2_with fail
          refine T1.out.mono ?_
          rintro e w2 ⟨rfl, -, b2⟩
          have L2 := Lib.hid (H.out.none hlt0 hlt1 b2 (.cells #[.string { data := #[] }, .string { data := #[] }, .int .i64 0, .bool false] 53))
          clear b2 T1
          go_wp2_with fail
          go_quiet (fail)
          go_wp2_with fail
          go_roundw
          case rel => exact ⟨k + 1, W, next, lost, by simp, rfl, rfl, rfl, L2.out.drewN _⟩
          case measure => simp [intOf]; omega
    · have NL : Hid (Calls Try.prog 36 #[.pointer (some ⟨w.heap.size + 1, 0, none⟩)] wr fun e w' => e = .returned (.int .i64 ((W.length : Int) - (next : Int))) ∧ wr = w') := Lib.hid ((len_any h.qu (by simp; omega)).mono fun e w' ⟨h1, h2⟩ => ⟨h1.trans (ret_int (by simp; omega)), h2⟩)
      have LL := Lib.hid (lost_any h.qu)
      have BW := Lib.hid h.bw
      have hcn := h.cn
      have hcn' : (W.length : Int) - (next : Int) ≤ (n : Int) := by omega
      have hpq : ((W.length + lost : Nat) : Int) = (W.length : Int) + (lost : Int) := by simp
      rw [hpq]
      clear h hpq
      by_cases c1 : k < len
      all_goals
        have c2 : ¬ (k < len ∧ k < 120) := hlt
        clear hlt
        first
          | (have c3 : ¬ (k : Int) < 120 := by omega
             have c4 : (k : Int) < (len : Int) := by omega)
          | (have c4 : ¬ (k : Int) < (len : Int) := by omega)
        clear c1 c2
        go_wp2_with fail
        refine NL.out.mono ?_
        rintro e w2 ⟨rfl, rfl⟩
        go_wp2_with fail
        refine LL.out.mono ?_
        rintro e w2 ⟨rfl, rfl⟩
        go_wp2_with fail
        refine NL.out.mono ?_
        rintro e w2 ⟨rfl, rfl⟩
        go_wp2_with fail
        refine (awake22_any _).mono ?_
        rintro e w2 ⟨rfl, b2⟩
        go_wp2
        go_ret
        exact ⟨rfl, ext_trans BW.out b2⟩

set_option maxRecDepth 100000 in
theorem lifted (os : Os) (started : os.Started) (H : Type) (enc : TypeId × Value → H) :
    ReturnsInHanded {} Try.checked os 7 .any (Rows.queueOnceSpec.pre6 enc Try.prog Try.f7 Rows.queueOnceRow.domain false) (Rows.queueOnceSpec.post enc Try.prog Try.f7 false true false false) := by
  refine returnsInHanded_of_change_sized (C := Try.checked) own started (by kernel_rfl) Try.func7
    (ChangeSpec.witness6 (enc := enc) (C := Try.checked) false ⟨#[], #[.int .u8 0, .slice none 0 0], []⟩ 8 (by kernel_rfl) (by kernel_rfl) (by kernel_rfl) (by kernel_rfl)) ?_
  intro W base args ds gs before hval0 hW hcnd hsz0 _
  have hsz : (DataW.weightsEach Try.prog (Try.f7.params.toList ++ Rows.queueOnceSpec.plain.varTypes Try.prog) (ds ++ gs)).all (· ≤ reachBytes) = true := hsz0
  have hval : ∀ (j : Nat) t v, Try.f7.params[j]? = some t → args[j]? = some v → Value.okWide Try.prog W .any base t v := hval0
  have hW' := hW
  obtain ⟨p, q, hA0, hV, rfl, hfz, hnd⟩ := hW
  have hA : DataW.TrodAll enc Try.prog W 0 (fun _ => true) true Try.f7.params.toList args.toList ds p := hA0
  rw [Try.params7] at hA hval hsz
  obtain ⟨v0, vs0, d0, ds0, p0, q0, hargs, rfl, rfl, h0, r0⟩ := trodAll_cons hA
  obtain ⟨v1, vs1, d1, ds1, p1, q1, rfl, rfl, rfl, h1, r1⟩ := trodAll_cons r0
  obtain ⟨rfl, rfl, rfl⟩ := trodAll_nil r1
  obtain rfl : args = #[v0, v1] := by cases args; simp_all
  obtain ⟨rfl, rfl⟩ := trodVars_none hV
  have k0 := h0
  have lt0 : ∀ x ∈ p0, x.block < W.heap.size := by obtain ⟨m, hm⟩ := k0; exact DataW.trod_lt m _ _ _ hm
  have k1 := h1
  have lt1 : ∀ x ∈ p1, x.block < W.heap.size := by obtain ⟨m, hm⟩ := k1; exact DataW.trod_lt m _ _ _ hm
  obtain ⟨a0, rfl, rfl, rfl, w0⟩ := open_int Try.underlying5 (hval 0 5 v0 rfl rfl) h0
  have b0 := wf_u8 w0
  obtain ⟨a1, len1, cap1, rfl⟩ := okWide_slice Try.underlying66 (hval 1 66 v1 rfl rfl)
  obtain ⟨z1, w1⟩ : ∃ B, IsBools W a1 len1 B := by
    obtain ⟨fuel, hf⟩ := h1
    exact open_bools_arg Try.underlying66 Try.underlying4 (by kernel_rfl) hf
  clear hA0 hval0 hsz0
  refine (walk a0 a1 len1 cap1 z1 W b0 w1).mono fun e W' ⟨he, bel⟩ => ?_
  subst he
  exact ⟨_, rfl, _, _, _, [], _, [], hW', trodAll_mk1 (shut_bool Try.underlying4 _), (trodAll_cons_mk (Below.trod laidOut (by kernel_rfl) (of_decide_eq_true (by kernel_rfl)) k0 bel lt0) (trodAll_cons_mk (Below.trod laidOut (by kernel_rfl) (of_decide_eq_true (by kernel_rfl)) k1 bel lt1) trodAll_mk0)), rfl, bel.frame _, fun h => by cases h⟩

theorem over : Rows.queueOnceRow.holds Try.pinned (OpenSpec.ofChange Rows.queueOnceSpec) :=
  OpenClaim.holds_of_wide 7 Try.f7 rfl rfl rfl rfl rfl rfl rfl ⟨rfl, rfl, rfl, rfl, rfl⟩ rfl rfl rfl rfl rfl (by kernel_rfl) Try.func7 (by kernel_rfl)
    (of_decide_eq_true (by kernel_rfl)) (by unfold Func.isWrapper; first | (rw [if_pos (by decide +kernel)]; kernel_rfl) | (rw [if_neg (by decide +kernel)]; exact ⟨rfl, rfl⟩))
    (fun os started H enc _ => lifted os started H enc)

theorem proved : Rows.QueueOnceSaid := over
end Go.Proofs.Ytoijdmchkjmpgaa.queueOnce
