/-
  SessionPlays: FOR EVERY INPUT the law returns true and leaves its arguments as they were.
-/
import Derived.Test.YtceiipcdkonnlaaGreatZh
import Derived.Test.YtceiipcdkonnlaaGreatXf
import Derived.Test.YtceiipcdkonnlaaGreatAs
import Derived.Test.YtceiipcdkonnlaaGreatRows
import Derived.WalkKit
import Derived.ProofKit
import Derived.OpenShut
import Derived.ShutString
import Derived.ChangeOld
import Derived.Below
import Derived.SizedLaws
import Derived.Lib.SmallJoins
namespace Go.Proofs.YtceiipcdkonnlaaGreat.sessionPlays
set_option linter.unusedSimpArgs false
open Go.ChangeShapes Go.WideShapes Go.ChangeAt Go.RowKit
open Go.ChangeMaps (open_string shut_string)
set_option linter.unusedVariables false

theorem own : ownKnob Tryz.prog.godebug = none := by kernel_rfl
theorem laidOut : laidOutB Tryz.prog = true := by kernel_rfl

open Ses Fli Que Ids Hp
/-- What a round has. -/
def SPl (w wr : World) (a : Ad) (d : Ax) (cl : ByteArray) (cn : Bool) (i : Nat) : Prop :=
  ∃ vi vq vf T p cs n li, SB wr w wr a d (fun _ => False) vi vq vf cl cn T p p cs n li ∧ cs.take n = li ∧ Inb.Sorted li ∧ Inv p.L ∧ 0 ≤ p.lost ∧ p.lost ≤ i
set_option maxHeartbeats 32000000 in
set_option maxRecDepth 100000 in
theorem walk (cl : ByteArray) (cn : Bool) (ad : Option Addr) (len cap : Nat) (A : List Acs.Ac) (w : World) (s0 : cl.size ≤ 140737488351232) (h0 : Acs.AcsAt w (.slice ad len cap) A) (ok0 : ∀ f ∈ A, f.ok) :
    Calls Tryz.prog 3 #[.string cl, .bool cn, .slice ad len cap] w (Yes w) := by
  obtain ⟨x0, y0, hv0, hl0, hc⟩ := id h0
  simp only [Value.slice.injEq] at hv0
  obtain ⟨rfl, rfl, rfl⟩ := hv0
  have hl0' : (A.length : Int) ≤ 9223372036854775807 := by omega
  replace hc := Lib.hid hc
  clear h0 ok0 hl0
  rcases id_or cl with hid | hbad
  · have N1 := Lib.hid (new_ok2 cl cn w hid.1 hid.2.1 hid.2.2)
    have N2 := Lib.hid (fun W => xnew_ok cl cn W hid)
    clear s0 hid
    go_enter Tryz.func3, Tryz.ntmps3
    go_wp2_with fail
    refine N1.out.mono ?_
    rintro e w1 ⟨a, rfl, s1, b1, e1, i1⟩
    replace s1 := Lib.hid s1
    replace b1 := Lib.hid b1
    replace e1 := Lib.hid e1
    replace i1 := Lib.hid i1
    clear N1
    go_wp2_with fail
    refine (N2.out _).mono ?_
    rintro e w2 ⟨d, rfl, x2, y2, e2, hd⟩
    have S2 := Lib.hid (SB.start s1.out b1.out e1.out i1.out x2 y2 e2 (fun k => (hd k).1) (hd 0).2)
    clear x2 y2 e2 hd s1 b1 e1 i1 N2
    go_wp2_with fail
    go_loopw [11] (fun iv wr => ∃ i : Nat, iv = .int .i64 (i : Int) ∧ i ≤ A.length ∧ i ≤ 80 ∧ SPl w wr a d cl cn i) (fun iv _ => A.length - (intOf iv).toNat)
    case atStart => exact ⟨0, rfl, by omega, by omega, _, _, _, _, _, _, _, _, S2.out, rfl, (by intro i j _ hj; exact absurd hj (Nat.not_lt_zero _)), fun e he => (by cases he), by show (0 : Int) ≤ 0; omega, by show (0 : Int) ≤ 0; omega⟩
    case round =>
      obtain ⟨i, rfl, hi, hi2, HS⟩ := hrel
      obtain ⟨vi, vq, vf, T, p, cs, n, li, h, hk, so, hI, hl0, hl1⟩ := HS
      clear S2
      by_cases hlt : i < A.length ∧ i < 80
      · obtain ⟨hlt0, hlt1⟩ := hlt
        obtain ⟨y, hy⟩ : ∃ y, A[i]? = some y := ⟨_, List.getElem?_eq_getElem hlt0⟩
        obtain ⟨b', o', rfl, -, c0, c1, c2, c3, c4, c5, c6⟩ := Acs.acsAt_at hy h.bw hc.out
        obtain ⟨K, N, I, t, x, q, r⟩ := y
        simp only at c0 c1 c2 c3 c4 c5 c6
        have DO := Lib.hid (do_any h hk so hI hl0 (by omega) K N I t x q r)
        have hlt0' : (i : Int) < (A.length : Int) := by omega
        have hlt1' : (i : Int) < 80 := by omega
        have HL := Lib.hid hl1
        clear h hk so hI hl0 hl1 hy
        go_wp2_with fail
        refine DO.out.mono ?_
        rintro e w3 hD
        obtain ⟨rfl, vi, vq, vf, T, p3, cs, n, li, h3, hk, so, hI, hl0, hl1⟩ := hD
        have HL3 : Hid (p3.lost ≤ (i : Int) + 1) := Lib.hid (by have := HL.out; omega)
        replace hI := Lib.hid hI
        replace hl0 := Lib.hid hl0
        obtain ⟨on, L, l, lost⟩ := p3
        have ST := Lib.hid (stands_any h3 hk)
        replace hk := Lib.hid hk
        replace so := Lib.hid so
        clear hl1 h3 c0 c1 c2 c3 c4 c5 c6 DO HL
        go_wp2_with fail
        refine ST.out.mono ?_
        rintro e w4 ⟨rfl, vi, vq, vf, h4⟩
        have H4 := Lib.hid h4
        clear h4 ST
        go_wp2_with fail
        go_roundw
        case rel => exact ⟨i + 1, by simp, by omega, by omega, _, _, _, _, _, _, _, _, H4.out, hk.out, so.out, hI.out, hl0.out, by have := HL3.out; simpa using this⟩
        case measure => simp [intOf]; omega
      · have B := Lib.hid h.bw
        clear h hk so hI hl0 hl1
        by_cases h1 : i < A.length
        · have h2 : ¬ (i : Int) < 80 := by omega
          have h1' : (i : Int) < (A.length : Int) := by omega
          go_wp2_with fail
          refine (awake25_any _).mono ?_
          rintro e w5 ⟨rfl, b5⟩
          go_wp2_with fail
          go_ret
          exact ⟨rfl, B.out.trans (b5.mono B.out.size)⟩
        · have h1' : ¬ (i : Int) < (A.length : Int) := by omega
          go_wp2_with fail
          refine (awake25_any _).mono ?_
          rintro e w5 ⟨rfl, b5⟩
          go_wp2_with fail
          go_ret
          exact ⟨rfl, B.out.trans (b5.mono B.out.size)⟩
  · have N1 := Lib.hid (new_bad cl cn w hbad s0)
    have N2 := Lib.hid (fun W => xnew_bad cl cn W hbad s0)
    clear s0 hbad
    go_enter Tryz.func3, Tryz.ntmps3
    go_wp2_with fail
    refine N1.out.mono ?_
    rintro e w1 ⟨rfl, b1⟩
    replace b1 := Lib.hid b1
    clear N1
    go_wp2_with fail
    refine (N2.out _).mono ?_
    rintro e w2 ⟨rfl, b2⟩
    have B := Lib.hid (b1.out.trans (b2.mono b1.out.size))
    clear b1 b2 N2
    go_wp2_with fail
    refine (awake25_any _).mono ?_
    rintro e w5 ⟨rfl, b5⟩
    go_wp2_with fail
    go_ret
    exact ⟨rfl, B.out.trans (b5.mono B.out.size)⟩

set_option maxRecDepth 100000 in
theorem lifted (os : Os) (started : os.Started) (H : Type) (enc : TypeId × Value → H) :
    ReturnsInHanded {} Tryz.checked os 3 .any (Rows.sessionPlaysSpec.pre6 enc Tryz.prog Tryz.f3 Rows.sessionPlaysRow.domain false) (Rows.sessionPlaysSpec.post enc Tryz.prog Tryz.f3 false true false false) := by
  refine returnsInHanded_of_change_sized (C := Tryz.checked) own started (by kernel_rfl) Tryz.func3
    (ChangeSpec.witness6 (enc := enc) (C := Tryz.checked) false ⟨#[], #[.string ByteArray.empty, .bool false, .slice none 0 0], []⟩ 8 (by kernel_rfl) (by kernel_rfl) (by kernel_rfl) (by kernel_rfl)) ?_
  intro W base args ds gs before hval0 hW hcnd hsz0 _
  have hsz : (DataW.weightsEach Tryz.prog (Tryz.f3.params.toList ++ Rows.sessionPlaysSpec.plain.varTypes Tryz.prog) (ds ++ gs)).all (· ≤ reachBytes) = true := hsz0
  have hval : ∀ (j : Nat) t v, Tryz.f3.params[j]? = some t → args[j]? = some v → Value.okWide Tryz.prog W .any base t v := hval0
  have hW' := hW
  obtain ⟨p, q, hA0, hV, rfl, hfz, hnd⟩ := hW
  have hA : DataW.TrodAll enc Tryz.prog W 0 (fun _ => true) true Tryz.f3.params.toList args.toList ds p := hA0
  rw [Tryz.params3] at hA hval hsz
  obtain ⟨v0, vs0, d0, ds0, p0, q0, hargs, rfl, rfl, h0, r0⟩ := trodAll_cons hA
  obtain ⟨v1, vs1, d1, ds1, p1, q1, rfl, rfl, rfl, h1, r1⟩ := trodAll_cons r0
  obtain ⟨v2, vs2, d2, ds2, p2, q2, rfl, rfl, rfl, h2, r2⟩ := trodAll_cons r1
  obtain ⟨rfl, rfl, rfl⟩ := trodAll_nil r2
  obtain rfl : args = #[v0, v1, v2] := by cases args; simp_all
  obtain ⟨rfl, rfl⟩ := trodVars_none hV
  have k0 := h0
  have lt0 : ∀ x ∈ p0, x.block < W.heap.size := by obtain ⟨m, hm⟩ := k0; exact DataW.trod_lt m _ _ _ hm
  have k1 := h1
  have lt1 : ∀ x ∈ p1, x.block < W.heap.size := by obtain ⟨m, hm⟩ := k1; exact DataW.trod_lt m _ _ _ hm
  have k2 := h2
  have lt2 : ∀ x ∈ p2, x.block < W.heap.size := by obtain ⟨m, hm⟩ := k2; exact DataW.trod_lt m _ _ _ hm
  obtain ⟨a0, rfl, rfl, rfl, w0⟩ := open_string Tryz.underlying9 (hval 0 9 v0 rfl rfl) h0
  have s0 : a0.size ≤ 140737488351232 := by
    have := sized_string hsz (j := 0) (t := 9) rfl rfl
    simp only [Array.length_toList, reachBytes] at this
    exact this
  obtain ⟨a1, rfl, rfl, rfl⟩ := open_bool Tryz.underlying4 (hval 1 4 v1 rfl rfl) h1
  obtain ⟨a2, len2, cap2, rfl⟩ := okWide_slice Tryz.underlying22 (hval 2 22 v2 rfl rfl)
  obtain ⟨z2, w2, s2⟩ : ∃ l : List Acs.Ac, Acs.AcsAt W (.slice a2 len2 cap2) l ∧ ∀ f ∈ l, f.ok := by
    obtain ⟨fuel, hf⟩ := h2
    exact Acs.open_acs hf (fun n hn => by
      have hm := List.all_eq_true.1 hsz n (DataW.weights_mem_each (j := 2) (t := 22) rfl rfl _ hn)
      simpa [reachBytes] using of_decide_eq_true hm)
  clear hA0 hval0 hsz0
  refine (walk a0 a1 a2 len2 cap2 z2 W s0 w2 s2).mono fun e W' ⟨he, bel⟩ => ?_
  subst he
  exact ⟨_, rfl, _, _, _, [], _, [], hW', trodAll_mk1 (shut_bool Tryz.underlying4 _), (trodAll_cons_mk (Below.trod laidOut (by kernel_rfl) (of_decide_eq_true (by kernel_rfl)) k0 bel lt0) (trodAll_cons_mk (Below.trod laidOut (by kernel_rfl) (of_decide_eq_true (by kernel_rfl)) k1 bel lt1) (trodAll_cons_mk (Below.trod laidOut (by kernel_rfl) (of_decide_eq_true (by kernel_rfl)) k2 bel lt2) trodAll_mk0))), rfl, bel.frame _, fun h => by cases h⟩

theorem over : Rows.sessionPlaysRow.holds Tryz.pinned (OpenSpec.ofChange Rows.sessionPlaysSpec) :=
  OpenClaim.holds_of_wide 3 Tryz.f3 rfl rfl rfl rfl rfl rfl rfl ⟨rfl, rfl, rfl, rfl, rfl⟩ rfl rfl rfl rfl rfl (by kernel_rfl) Tryz.func3 (by kernel_rfl)
    (of_decide_eq_true (by kernel_rfl)) (by unfold Func.isWrapper; first | (rw [if_pos (by decide +kernel)]; kernel_rfl) | (rw [if_neg (by decide +kernel)]; exact ⟨rfl, rfl⟩))
    (fun os started H enc _ => lifted os started H enc)

theorem proved : Rows.SessionPlaysSaid := over
end Go.Proofs.YtceiipcdkonnlaaGreat.sessionPlays
