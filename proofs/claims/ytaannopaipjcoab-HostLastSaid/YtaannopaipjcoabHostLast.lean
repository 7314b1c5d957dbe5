/-
  HostLast: FOR EVERY INPUT the law returns true and leaves its arguments as they were.
-/
import Derived.Test.YtaannopaipjcoabHf
import Derived.Test.YtaannopaipjcoabRows
import Derived.WalkKit
import Derived.StillTailTactics
import Derived.ProofKit
import Derived.OpenShut
import Derived.ShutString
import Derived.ChangeOld
import Derived.Below
import Derived.SizedLaws
namespace Go.Proofs.Ytaannopaipjcoab.hostLast
open Go.ChangeShapes Go.WideShapes Go.ChangeAt Go.RowKit
open Go.ChangeMaps (open_string shut_string)
set_option linter.unusedVariables false

theorem own : ownKnob Try.prog.godebug = none := by kernel_rfl
theorem laidOut : laidOutB Try.prog = true := by kernel_rfl

def LastRel (w : World) (len0 len1 : Nat) (q : ByteArray) (known on i : Value) (wr : World) : Prop :=
  ∃ (k n : Nat) (kn : List Host) (D : DataW Unit), i = .int .i64 k ∧ k ≤ 60 ∧ k ≤ len0 ∧ k ≤ len1 ∧ Hs wr (w.heap.size + 1) w.heap.size n kn D ∧ Below w.heap.size w wr ∧
    known = .bool (lk q (kn.take n)).isSome ∧ on = .bool ((lk q (kn.take n)).getD false)
set_option maxHeartbeats 2000000 in
set_option maxRecDepth 100000 in
theorem walk (a0 : Option Addr) (len0 cap0 : Nat) (z0 : List ByteArray) (a1 : Option Addr) (len1 cap1 : Nat) (z1 : List ByteArray) (q : ByteArray) (w : World) (h0 : StrRow w a0 len0 z0) (h1 : StrRow w a1 len1 z1) (s2 : q.size ≤ 140737488351232) :
    Calls Try.prog 8 #[.slice a0 len0 cap0, .slice a1 len1 cap1, .string q] w (Yes w) := by
  obtain ⟨e0, m0, c0⟩ := h0
  obtain ⟨e1, m1, c1⟩ := h1
  unfold maxLen at m0 m1
  have hq : q.size ≤ maxLen := by unfold maxLen; omega
  have HQ := Lib.hid hq
  have HC0 := Lib.hid c0
  have HC1 := Lib.hid c1
  clear e0 e1 c0 c1 hq s2
  go_enter Try.func8, Try.ntmps8
  go_wp2_with fail
  refine (new_any w).mono ?_
  rintro e w0 ⟨rfl, hh, hb⟩
  have H0 := Lib.hid hh
  have HB0 := Lib.hid hb
  clear hh hb
  go_wp2_with fail
  go_loopw [8, 9, 10] (fun known on i wr => LastRel w len0 len1 q known on i wr) (fun _ _ i _ => 60 - (intOf i).toNat)
  case atStart => exact ⟨0, 0, kn0, D00, rfl, by omega, by omega, by omega, H0.out, HB0.out, rfl, rfl⟩
  case round =>
    obtain ⟨k, n, kn, D, rfl, hk, hk0, hk1, hh, hb, rfl, rfl⟩ := hrel
    have H := Lib.hid hh
    have HB := Lib.hid hb
    clear hh hb
    by_cases hlt : k < len0 ∧ k < len1 ∧ k < 60
    · obtain ⟨l0, l1, l2⟩ := hlt
      have hc0 := HC0.out
      have hc1 := HC1.out
      rcases hc0 with h | ⟨b0, o0, rfl, hb0, hc0⟩
      · omega
      rcases hc1 with h | ⟨b1, o1, rfl, hb1, hc1⟩
      · omega
      obtain ⟨hc0, hs0⟩ := hc0 k l0
      obtain ⟨hc1, hs1⟩ := hc1 k l1
      obtain ⟨name, hname⟩ : ∃ name, name = z0.getD k ByteArray.empty := ⟨_, rfl⟩
      obtain ⟨text, htext⟩ : ∃ text, text = z1.getD k ByteArray.empty := ⟨_, rfl⟩
      rw [← hname] at hc0 hs0
      rw [← htext] at hc1
      clear hname htext hs1
      have d0 : wr.cell? ⟨b0, o0 + k, none⟩ = some (.string name) := (HB.out.cell (p := ⟨b0, o0 + k, none⟩) hb0).trans hc0
      have d1 : wr.cell? ⟨b1, o1 + k, none⟩ = some (.string text) := (HB.out.cell (p := ⟨b1, o1 + k, none⟩) hb1).trans hc1
      have HC0' := Lib.hid hc0
      have HC1' := Lib.hid hc1
      clear hc0 hc1
      have H' : Hid (Hs wr.drew (w.heap.size + 1) w.heap.size n kn D) := Lib.hid ⟨H.out.row, H.out.len, H.out.le, H.out.map.drew, H.out.size, H.out.ne, H.out.rd⟩
      have T := Lib.hid (take_any w.heap.size (w.heap.size + 1) w.heap.size n kn D name text q wr.drew H'.out (by omega) (Nat.le_refl _) hs0)
      have k00 : (0 : Int) ≤ k := by omega
      go_wp2_with fail
      go_still_tail 9, (by kernel_rfl)
      go_wp2_with fail
      refine T.out.mono ?_
      rintro e w2 ⟨c, n', kn', D', rfl, hh', hb', hcase⟩
      have HB' : Hid (Below w.heap.size w w2) := Lib.hid (HB.out.drew.trans hb')
      have H2 := Lib.hid hh'
      have d0' : w2.cell? ⟨b0, o0 + k, none⟩ = some (.string name) := (HB'.out.cell (p := ⟨b0, o0 + k, none⟩) hb0).trans HC0'.out
      have d1' : w2.cell? ⟨b1, o1 + k, none⟩ = some (.string text) := (HB'.out.cell (p := ⟨b1, o1 + k, none⟩) hb1).trans HC1'.out
      clear hh' hb' d0 d1 T HC0' HC1'
      have hnq : ((name.toList == q.toList) = true ∧ name.data.toList = q.data.toList) ∨ ((name.toList == q.toList) = false ∧ ¬ name.data.toList = q.data.toList) := by
        rw [ByteArray.toList_eq, ByteArray.toList_eq]
        by_cases h : name.data.toList = q.data.toList
        · exact .inl ⟨beq_iff_eq.2 h, h⟩
        · exact .inr ⟨beq_eq_false_iff_ne.2 h, h⟩
      rcases hcase with ⟨rfl, on, rfl, hlk⟩ | ⟨hc1, hlk⟩
      · rcases hnq with ⟨t1, t2⟩ | ⟨t1, t2⟩
        · rw [if_pos t2] at hlk
          have HLK := Lib.hid hlk
          clear hlk t2
          cases on
          all_goals
            unfold tOf tON tOFF at d1'
            simp only [if_true, Bool.false_eq_true, if_false] at d1'
            go_wp2
            go_roundw
            case rel => exact ⟨k + 1, n', kn', D', by go_num, by omega, by omega, by omega, H2.out, HB'.out, by rw [HLK.out]; rfl, by rw [HLK.out]; rfl⟩
            case measure => simp [intOf]; omega
        · rw [if_neg t2] at hlk
          have HLK := Lib.hid hlk
          clear hlk t2
          go_wp2
          go_roundw
          case rel => exact ⟨k + 1, n', kn', D', by go_num, by omega, by omega, by omega, H2.out, HB'.out, by rw [HLK.out], by rw [HLK.out]⟩
          case measure => simp [intOf]; omega
      · have HLK := Lib.hid hlk
        clear hlk
        rcases hnq with ⟨t1, t2⟩ | ⟨t1, t2⟩
        all_goals
          clear t2
          go_wp2
          go_roundw
          case rel => exact ⟨k + 1, n', kn', D', by go_num, by omega, by omega, by omega, H2.out, HB'.out, by rw [HLK.out], by rw [HLK.out]⟩
          case measure => simp [intOf]; omega
    · have hx : ¬ k < len0 ∨ ¬ k < len1 ∨ ¬ k < 60 := by omega
      have O := Lib.hid (online_any (w.heap.size + 1) w.heap.size n kn D q wr H.out HQ.out)
      go_wp2_with fail
      all_goals
        refine O.out.mono ?_
        rintro e w' ⟨rfl, rfl⟩
        go_wp2_with (go_at_call 29; refine (awake34_any _).mono ?_; rintro e w' ⟨rfl, hba⟩)
        go_ret
        exact ⟨rfl, ext_trans HB.out hba⟩

set_option maxRecDepth 100000 in
theorem lifted (os : Os) (started : os.Started) (H : Type) (enc : TypeId × Value → H) :
    ReturnsInHanded {} Try.checked os 8 .any (Rows.hostLastSpec.pre6 enc Try.prog Try.f8 Rows.hostLastRow.domain false) (Rows.hostLastSpec.post enc Try.prog Try.f8 false true false false) := by
  refine returnsInHanded_of_change_sized (C := Try.checked) own started (by kernel_rfl) Try.func8
    (ChangeSpec.witness6 (enc := enc) (C := Try.checked) false ⟨#[], #[.slice none 0 0, .slice none 0 0, .string ByteArray.empty], []⟩ 8 (by kernel_rfl) (by kernel_rfl) (by kernel_rfl) (by kernel_rfl)) ?_
  intro W base args ds gs before hval0 hW hcnd hsz0 _
  have hsz : (DataW.weightsEach Try.prog (Try.f8.params.toList ++ Rows.hostLastSpec.plain.varTypes Try.prog) (ds ++ gs)).all (· ≤ reachBytes) = true := hsz0
  have hval : ∀ (j : Nat) t v, Try.f8.params[j]? = some t → args[j]? = some v → Value.okWide Try.prog W .any base t v := hval0
  have hW' := hW
  obtain ⟨p, q, hA0, hV, rfl, hfz, hnd⟩ := hW
  have hA : DataW.TrodAll enc Try.prog W 0 (fun _ => true) true Try.f8.params.toList args.toList ds p := hA0
  rw [Try.params8] at hA hval hsz
  obtain ⟨v0, vs0, d0, ds0, p0, q0, hargs, rfl, rfl, h0, r0⟩ := trodAll_cons hA
  obtain ⟨v1, vs1, d1, ds1, p1, q1, rfl, rfl, rfl, h1, r1⟩ := trodAll_cons r0
  obtain ⟨v2, vs2, d2, ds2, p2, q2, rfl, rfl, rfl, h2, r2⟩ := trodAll_cons r1
  obtain ⟨rfl, rfl, rfl⟩ := trodAll_nil r2
  obtain rfl : args = #[v0, v1, v2] := by cases args; simp_all
  obtain ⟨rfl, rfl⟩ := trodVars_none hV
  have k0 := h0
  have lt0 : ∀ x ∈ p0, x.block < W.heap.size := by obtain ⟨m, hm⟩ := k0; exact DataW.trod_lt m _ _ _ hm
  have k1 := h1
  have lt1 : ∀ x ∈ p1, x.block < W.heap.size := by obtain ⟨m, hm⟩ := k1; exact DataW.trod_lt m _ _ _ hm
  have k2 := h2
  have lt2 : ∀ x ∈ p2, x.block < W.heap.size := by obtain ⟨m, hm⟩ := k2; exact DataW.trod_lt m _ _ _ hm
  obtain ⟨a0, len0, cap0, rfl⟩ := okWide_slice Try.underlying44 (hval 0 44 v0 rfl rfl)
  obtain ⟨z0, w0⟩ : ∃ ss, StrRow W a0 len0 ss := by
    obtain ⟨fuel, hf⟩ := h0
    exact open_str_arg Try.underlying44 Try.underlying9 (by kernel_rfl) hf
  obtain ⟨a1, len1, cap1, rfl⟩ := okWide_slice Try.underlying44 (hval 1 44 v1 rfl rfl)
  obtain ⟨z1, w1⟩ : ∃ ss, StrRow W a1 len1 ss := by
    obtain ⟨fuel, hf⟩ := h1
    exact open_str_arg Try.underlying44 Try.underlying9 (by kernel_rfl) hf
  obtain ⟨a2, rfl, rfl, rfl, w2⟩ := open_string Try.underlying9 (hval 2 9 v2 rfl rfl) h2
  have s2 : a2.size ≤ 140737488351232 := by
    have := sized_string hsz (j := 2) (t := 9) rfl rfl
    simp only [Array.length_toList, reachBytes] at this
    exact this
  clear hA0 hval0 hsz0
  refine (walk a0 len0 cap0 z0 a1 len1 cap1 z1 a2 W w0 w1 s2).mono fun e W' ⟨he, bel⟩ => ?_
  subst he
  exact ⟨_, rfl, _, _, _, [], _, [], hW', trodAll_mk1 (shut_bool Try.underlying4 _), (trodAll_cons_mk (Below.trod laidOut (by kernel_rfl) (of_decide_eq_true (by kernel_rfl)) k0 bel lt0) (trodAll_cons_mk (Below.trod laidOut (by kernel_rfl) (of_decide_eq_true (by kernel_rfl)) k1 bel lt1) (trodAll_cons_mk (Below.trod laidOut (by kernel_rfl) (of_decide_eq_true (by kernel_rfl)) k2 bel lt2) trodAll_mk0))), rfl, bel.frame _, fun h => by cases h⟩

theorem over : Rows.hostLastRow.holds Try.pinned (OpenSpec.ofChange Rows.hostLastSpec) :=
  OpenClaim.holds_of_wide 8 Try.f8 rfl rfl rfl rfl rfl rfl rfl ⟨rfl, rfl, rfl, rfl, rfl⟩ rfl rfl rfl rfl rfl (by kernel_rfl) Try.func8 (by kernel_rfl)
    (of_decide_eq_true (by kernel_rfl)) (by unfold Func.isWrapper; first | (rw [if_pos (by decide +kernel)]; kernel_rfl) | (rw [if_neg (by decide +kernel)]; exact ⟨rfl, rfl⟩))
    (fun os started H enc _ => lifted os started H enc)

theorem proved : Rows.HostLastSaid := over
end Go.Proofs.Ytaannopaipjcoab.hostLast
