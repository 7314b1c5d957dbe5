/-
  IdsPlays: FOR EVERY INPUT the law returns true and leaves its arguments as they were.
-/
import Derived.Test.YtoijdmchkjmpgaaIp
import Derived.Test.YtoijdmchkjmpgaaByt
import Derived.Test.YtoijdmchkjmpgaaRows
import Derived.WalkKit
import Derived.Deep.RegionHeld3
import Derived.ProofKit
import Derived.OpenShut
import Derived.ShutString
import Derived.ChangeOld
import Derived.Below
import Derived.SizedLaws
import Derived.Lib.SmallJoins
namespace Go.Proofs.Ytoijdmchkjmpgaa.idsPlays
open Go.ChangeShapes Go.WideShapes Go.ChangeAt Go.RowKit
open Go.ChangeMaps (open_string shut_string)
set_option linter.unusedVariables false

theorem own : ownKnob Try.prog.godebug = none := by kernel_rfl
theorem laidOut : laidOutB Try.prog = true := by kernel_rfl

open Ids Que Hp
set_option maxHeartbeats 16000000 in
set_option maxRecDepth 100000 in
theorem walk (m : Int) (a : Option Addr) (len cap : Nat) (z : List Int) (w : World) (b0 : -9223372036854775808 ≤ m ∧ m ≤ 9223372036854775807) (h1 : IsRow .i64 w a len cap z) (s1 : cap * 8 ≤ 140737488351232) :
    Calls Try.prog 3 #[.int .i64 m, .slice a len cap] w (Yes w) := by
  obtain ⟨hl, hlc⟩ := h1.len_le
  have hl' : (len : Int) ≤ 9223372036854775807 := by omega
  have C0 := Lib.hid h1.cellAt
  clear h1
  by_cases hm1 : m > 100 ∧ m ≤ 65535
  · obtain ⟨m1, m2⟩ := hm1
    clear b0
    go_enter Try.func3, Try.ntmps3
    go_wp2_with fail
    refine (awake21_any _).mono ?_
    rintro e w2 ⟨rfl, b2⟩
    go_wp2
    go_ret
    exact ⟨rfl, b2⟩
  by_cases hm2 : m < 1 ∨ 65535 < m
  · have N1 := Lib.hid (new_bad m w hm2)
    have X1 := Lib.hid (xnew_bad m w hm2)
    by_cases hm3 : m < 1
    all_goals
      first
        | (have m1 : ¬ m > 100 := by omega)
        | (have m1 : m > 100 := by omega
           have m2 : ¬ m ≤ 65535 := by omega)
      clear b0 hm1 hm2 hm3
      go_enter Try.func3, Try.ntmps3
      go_wp2_with fail
      refine (N1.out).mono ?_
      rintro e w1 ⟨rfl, rfl⟩
      go_wp2_with fail
      refine (X1.out).mono ?_
      rintro e w1 ⟨rfl, rfl⟩
      go_wp2_with fail
      refine (awake21_any _).mono ?_
      rintro e w2 ⟨rfl, b2⟩
      go_wp2
      go_ret
      exact ⟨rfl, b2⟩
  obtain ⟨n, rfl⟩ : ∃ n : Nat, m = (n : Int) := ⟨m.toNat, by omega⟩
  have n1 : 1 ≤ n := by omega
  have n2 : n ≤ 100 := by omega
  have m1 : ¬ (n : Int) > 100 := by omega
  have NW := Lib.hid (new_ids n w n1 (by omega))
  have XW := Lib.hid (fun W => xnew_any n W n1 (by omega))
  clear b0 hm1 hm2
  go_enter Try.func3, Try.ntmps3
  go_wp2_with fail
  refine (NW.out).mono ?_
  rintro e w1 ⟨rfl, d1, b1⟩
  have D1 := Lib.hid d1
  replace b1 := Lib.hid b1
  clear d1 NW
  go_wp2_with fail
  refine (XW.out _).mono ?_
  rintro e w2 ⟨rfl, r2, b2, z2⟩
  have I2 := Lib.hid (is_new D1.out b1.out r2 b2 z2)
  clear r2 b2 z2 D1 b1 XW
  generalize w1.heap.size = t at *
  go_wp2_with fail
  go_loopw [9] (fun iv wr => ∃ (i : Nat) (T : List Bool), iv = .int .i64 (i : Int) ∧ i ≤ len ∧ i ≤ 80 ∧ IS w wr w.heap.size (t + 1) t n T (fun j => T.getD j false)) (fun iv _ => len - (intOf iv).toNat)
  case atStart => exact ⟨0, [], rfl, by omega, by omega, I2.out⟩
  case round =>
    obtain ⟨i, T, rfl, hi, hi2, h⟩ := hrel
    by_cases hlt : i < len ∧ i < 80
    · obtain ⟨hlt0, hlt1⟩ := hlt
      obtain ⟨b0, o0, rfl, hx1, hx2⟩ : ∃ b0 o, a = some ⟨b0, o, none⟩ ∧ wr.cell? ⟨b0, o + i, none⟩ = some (.int .i64 (z.getD i 0)) ∧ ∀ W, Below w.heap.size w W → W.cell? ⟨b0, o + i, none⟩ = some (.int .i64 (z.getD i 0)) := by
        rcases C0.out with h' | ⟨b0, o, ha, hb0, h'⟩
        · omega
        · exact ⟨b0, o, ha, (h.bw.cell (by simpa using hb0)).trans (h' i hlt0).1, fun W hW => (hW.cell (by simpa using hb0)).trans (h' i hlt0).1⟩
      generalize z.getD i 0 = c at *
      have hlt0' : (i : Int) < (len : Int) := by omega
      have hlt1' : (i : Int) < 80 := by omega
      replace hx2 := Lib.hid hx2
      have RST : Hid (∀ (W : World) (T' : List Bool), IS w W w.heap.size (t + 1) t n T' (fun j => T'.getD j false) → Calls Try.prog 20 #[.pointer (some ⟨t + 1, 0, none⟩)] W (AllIds T' W)) := Lib.hid fun W T' h => xall h.rf (by omega) h.ds.le
      by_cases h3 : c = 0
      · subst h3
        obtain ⟨a5, c5, T', TA, TB⟩ := take_both h
        replace TA := Lib.hid TA
        replace TB := Lib.hid TB
        clear h
        go_wp2_with fail
        refine TA.out.mono ?_
        rintro e w5 ⟨rfl, I5⟩
        replace I5 := Lib.hid I5
        go_wp2_with fail
        refine (TB.out _ I5.out).mono ?_
        rintro e w6 ⟨rfl, I6⟩
        replace I6 := Lib.hid I6
        clear TA TB I5 hx1
        go_wp2_with fail
        refine (RST.out _ _ I6.out).mono ?_
        rintro e w7 ⟨v7, rfl, o7, b7⟩
        have O7 := Lib.hid o7
        have I7 := Lib.hid (I6.out.ext b7)
        have hLt := lstF_len_trues T'
        obtain ⟨va, vc, rfl⟩ := own_slice o7
        have A8 := Lib.hid (all_ids I7.out.ds)
        obtain ⟨L, hL⟩ : ∃ L, L = lstF T' T'.length := ⟨_, rfl⟩
        have hTn := I7.out.ds.le
        have hL80 : L.length ≤ 400 := by have := trues_le T'; rw [hL]; omega
        rw [← hL] at O7 hLt ⊢
        replace hLt := Lib.hid hLt
        replace hL := Lib.hid hL
        clear o7 b7 I6 hTn
        go_wp2_with fail
        refine A8.out.mono ?_
        rintro e w8 ⟨v8, rfl, o8, b8⟩
        rw [← hL.out] at o8
        have I8 := Lib.hid (I7.out.ext b8)
        have O8 := Lib.hid (own_keep O7.out b8)
        have IE := Lib.hid (ints_any o8 O8.out hL80)
        obtain ⟨va8, vc8, rfl⟩ := own_slice o8
        clear o8 b8 A8 O7 I7
        go_wp2_with fail
        refine IE.out.mono ?_
        rintro e w9 ⟨rfl, b9⟩
        have I9 := Lib.hid (I8.out.ext b9)
        have LN : Hid (Calls Try.prog 23 #[.pointer (some ⟨w.heap.size, 0, none⟩)] w9 fun e w' => e = .returned (.int .i64 (L.length : Int)) ∧ w9 = w') := Lib.hid (by rw [hLt.out]; exact len_ds I9.out.ds)
        clear b9 I8 IE O8
        go_wp2_with fail
        refine LN.out.mono ?_
        rintro e w9 ⟨rfl, rfl⟩
        go_wp2_with fail
        go_roundw
        case rel => exact ⟨i + 1, T', by simp, by omega, by omega, I9.out⟩
        case measure => simp [intOf]; omega
      · have h3b : (c == 0) = false := by simpa using h3
        obtain ⟨c5, T', GA, GB⟩ := give_both h c
        replace GA := Lib.hid GA
        replace GB := Lib.hid GB
        have BW0 := Lib.hid h.bw
        clear h h3
        go_wp2_with fail
        go_region_held3 (fun W => W.cell? ⟨b0, o0 + i, none⟩ = some (.int .i64 c))
          (exact hx2.out _ (by first | exact BW0.out | exact BW0.out.drew | exact I5.bw | exact I5.bw.drew | exact I6.bw | exact I6.bw.drew))
          (first
            | (go_at_call 18; refine (GA.out _ (by first | exact Below.refl _ _ | exact ext_drew _)).mono ?_; rintro e w5 ⟨rfl, I5⟩)
            | (go_at_call 19; refine (GB.out _ (by first | exact I5 | exact I5.ext (ext_drew _))).mono ?_; rintro e w6 ⟨rfl, I6⟩))
        all_goals
          have I7 := Lib.hid (show IS w _ _ _ _ _ _ _ from (by first | exact I6 | exact I6.ext (ext_drew _)))
          clear I5 I6
          replace I6 := I7
          clear I7
          go_wp2_with fail
          refine (RST.out _ _ I6.out).mono ?_
          rintro e w7 ⟨v7, rfl, o7, b7⟩
          have O7 := Lib.hid o7
          have I7 := Lib.hid (I6.out.ext b7)
          have hLt := lstF_len_trues T'
          obtain ⟨va, vc, rfl⟩ := own_slice o7
          have A8 := Lib.hid (all_ids I7.out.ds)
          obtain ⟨L, hL⟩ : ∃ L, L = lstF T' T'.length := ⟨_, rfl⟩
          have hTn := I7.out.ds.le
          have hL80 : L.length ≤ 400 := by have := trues_le T'; rw [hL]; omega
          rw [← hL] at O7 hLt ⊢
          replace hLt := Lib.hid hLt
          replace hL := Lib.hid hL
          clear o7 b7 I6 hTn
          go_wp2_with fail
          refine A8.out.mono ?_
          rintro e w8 ⟨v8, rfl, o8, b8⟩
          rw [← hL.out] at o8
          have I8 := Lib.hid (I7.out.ext b8)
          have O8 := Lib.hid (own_keep O7.out b8)
          have IE := Lib.hid (ints_any o8 O8.out hL80)
          obtain ⟨va8, vc8, rfl⟩ := own_slice o8
          clear o8 b8 A8 O7 I7
          go_wp2_with fail
          refine IE.out.mono ?_
          rintro e w9 ⟨rfl, b9⟩
          have I9 := Lib.hid (I8.out.ext b9)
          have LN : Hid (Calls Try.prog 23 #[.pointer (some ⟨w.heap.size, 0, none⟩)] w9 fun e w' => e = .returned (.int .i64 (L.length : Int)) ∧ w9 = w') := Lib.hid (by rw [hLt.out]; exact len_ds I9.out.ds)
          clear b9 I8 IE O8
          go_wp2_with fail
          refine LN.out.mono ?_
          rintro e w9 ⟨rfl, rfl⟩
          go_wp2_with fail
          go_roundw
          case rel => exact ⟨i + 1, T', by simp, by omega, by omega, I9.out⟩
          case measure => simp [intOf]; omega
    · have BW := Lib.hid h.bw
      clear h
      by_cases c1 : i < len
      all_goals
        first
          | (have c3 : ¬ (i : Int) < 80 := by omega
             have c4 : (i : Int) < (len : Int) := by omega)
          | (have c4 : ¬ (i : Int) < (len : Int) := by omega)
        clear hlt c1
        go_wp2_with fail
        refine (awake21_any _).mono ?_
        rintro e w2 ⟨rfl, b2⟩
        go_wp2
        go_ret
        exact ⟨rfl, ext_trans BW.out b2⟩

set_option maxRecDepth 100000 in
theorem lifted (os : Os) (started : os.Started) (H : Type) (enc : TypeId × Value → H) :
    ReturnsInHanded {} Try.checked os 3 .any (Rows.idsPlaysSpec.pre6 enc Try.prog Try.f3 Rows.idsPlaysRow.domain false) (Rows.idsPlaysSpec.post enc Try.prog Try.f3 false true false false) := by
  refine returnsInHanded_of_change_sized (C := Try.checked) own started (by kernel_rfl) Try.func3
    (ChangeSpec.witness6 (enc := enc) (C := Try.checked) false ⟨#[], #[.int .i64 0, .slice none 0 0], []⟩ 8 (by kernel_rfl) (by kernel_rfl) (by kernel_rfl) (by kernel_rfl)) ?_
  intro W base args ds gs before hval0 hW hcnd hsz0 _
  have hsz : (DataW.weightsEach Try.prog (Try.f3.params.toList ++ Rows.idsPlaysSpec.plain.varTypes Try.prog) (ds ++ gs)).all (· ≤ reachBytes) = true := hsz0
  have hval : ∀ (j : Nat) t v, Try.f3.params[j]? = some t → args[j]? = some v → Value.okWide Try.prog W .any base t v := hval0
  have hW' := hW
  obtain ⟨p, q, hA0, hV, rfl, hfz, hnd⟩ := hW
  have hA : DataW.TrodAll enc Try.prog W 0 (fun _ => true) true Try.f3.params.toList args.toList ds p := hA0
  rw [Try.params3] at hA hval hsz
  obtain ⟨v0, vs0, d0, ds0, p0, q0, hargs, rfl, rfl, h0, r0⟩ := trodAll_cons hA
  obtain ⟨v1, vs1, d1, ds1, p1, q1, rfl, rfl, rfl, h1, r1⟩ := trodAll_cons r0
  obtain ⟨rfl, rfl, rfl⟩ := trodAll_nil r1
  obtain rfl : args = #[v0, v1] := by cases args; simp_all
  obtain ⟨rfl, rfl⟩ := trodVars_none hV
  have k0 := h0
  have lt0 : ∀ x ∈ p0, x.block < W.heap.size := by obtain ⟨m, hm⟩ := k0; exact DataW.trod_lt m _ _ _ hm
  have k1 := h1
  have lt1 : ∀ x ∈ p1, x.block < W.heap.size := by obtain ⟨m, hm⟩ := k1; exact DataW.trod_lt m _ _ _ hm
  obtain ⟨a0, rfl, rfl, rfl, w0⟩ := open_int Try.underlying3 (hval 0 3 v0 rfl rfl) h0
  have b0 := wf_i64 w0
  obtain ⟨a1, len1, cap1, rfl⟩ := okWide_slice Try.underlying22 (hval 1 22 v1 rfl rfl)
  obtain ⟨z1, w1, s1⟩ : ∃ zs, IsRow .i64 W a1 len1 cap1 zs ∧ cap1 * 8 ≤ 140737488351232 := by
    obtain ⟨fuel, hf⟩ := h1
    rcases open_ints Try.underlying22 Try.underlying3 (by kernel_rfl) hf with ⟨hcs, _⟩ | ⟨x, l, c, zs, hcs, _, hl, hm, hz, hx, hcell, hwz⟩
    · simp [Value.cells] at hcs
      obtain ⟨rfl, rfl, rfl⟩ := hcs
      exact ⟨[], .inl ⟨rfl, rfl, rfl, rfl⟩, by omega⟩
    · simp [Value.cells] at hcs
      obtain ⟨rfl, rfl, rfl⟩ := hcs
      have hz' : zs.length = cap1 := by simpa using hz
      have hd : d1 = .slice (lits .i64 (zs.take len1)) (lits .i64 (zs.drop len1)) := congrArg Prod.fst hx
      have hroom := sized_slice hsz (j := 1) (t := 22) (e := 3) rfl (by rw [hd]; rfl) Try.underlying22
      rw [show Try.prog.bytesOf 3 = 8 from by kernel_rfl] at hroom
      simp only [lits, List.length_map, List.length_take, List.length_drop, reachBytes] at hroom
      exact ⟨zs, .inr ⟨_, rfl, hl, hm, hz', hcell, hwz⟩, by omega⟩
  clear hA0 hval0 hsz0
  refine (walk a0 a1 len1 cap1 z1 W b0 w1 s1).mono fun e W' ⟨he, bel⟩ => ?_
  subst he
  exact ⟨_, rfl, _, _, _, [], _, [], hW', trodAll_mk1 (shut_bool Try.underlying4 _), (trodAll_cons_mk (Below.trod laidOut (by kernel_rfl) (of_decide_eq_true (by kernel_rfl)) k0 bel lt0) (trodAll_cons_mk (Below.trod laidOut (by kernel_rfl) (of_decide_eq_true (by kernel_rfl)) k1 bel lt1) trodAll_mk0)), rfl, bel.frame _, fun h => by cases h⟩

theorem over : Rows.idsPlaysRow.holds Try.pinned (OpenSpec.ofChange Rows.idsPlaysSpec) :=
  OpenClaim.holds_of_wide 3 Try.f3 rfl rfl rfl rfl rfl rfl rfl ⟨rfl, rfl, rfl, rfl, rfl⟩ rfl rfl rfl rfl rfl (by kernel_rfl) Try.func3 (by kernel_rfl)
    (of_decide_eq_true (by kernel_rfl)) (by unfold Func.isWrapper; first | (rw [if_pos (by decide +kernel)]; kernel_rfl) | (rw [if_neg (by decide +kernel)]; exact ⟨rfl, rfl⟩))
    (fun os started H enc _ => lifted os started H enc)

theorem proved : Rows.IdsPlaysSaid := over
end Go.Proofs.Ytoijdmchkjmpgaa.idsPlays
