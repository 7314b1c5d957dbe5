/-
  LAYER 27: the document's Get and Find.
-/
import Derived.Test.YtfdaooaooalknaaQc
import Derived.Test.YtfdaooaooalknaaVd
namespace Go.Proofs.Ytfdaooaooalknaa
set_option linter.unusedVariables false
set_option linter.unusedSimpArgs false
open Go.RowKit Go.Maps Go.WideMaps
/-- What Get answers. -/
def xg (t : ByteArray) (L : List Mg) : Mg := if thr t L then (po t L).headD default else default
set_option maxHeartbeats 4000000 in
set_option maxRecDepth 100000 in
theorem xget (w : World) (gx B : Nat) (L : List Mg) (t : ByteArray) (h : Xs w gx B L) (hu : Up L) (hl : L.length ≤ 1000) :
    Calls Try.prog 10 #[.pointer (some ⟨gx, 0, none⟩), .string t] w (Ret (.tuple #[mV (xg t L).a0 (xg t L).a1 (xg t L).a2 (xg t L).a3, .bool (thr t L)]) w) := by
  have A0 := ext_alloc w (.cells #[.string ⟨#[]⟩, .string ⟨#[]⟩, .int .i64 0, .bool false] 33)
  have M0 : MsgAt (w.alloc (.cells #[.string ⟨#[]⟩, .string ⟨#[]⟩, .int .i64 0, .bool false] 33)) w.heap.size ⟨#[]⟩ ⟨#[]⟩ 0 false := heap_alloc_new w _
  have X0 := h.kept A0
  have FD := Lib.hid (xfind _ gx B L t X0 hl)
  have hspl := pr_po t L
  replace h := Lib.hid h
  replace A0 := Lib.hid A0
  replace M0 := Lib.hid M0
  replace X0 := Lib.hid X0
  obtain ⟨Z, hZ⟩ : ∃ Z, Z = xg t L := ⟨_, rfl⟩
  rw [← hZ]
  obtain ⟨T0, hT⟩ : ∃ T0, T0 = thr t L := ⟨_, rfl⟩
  rw [← hT]
  rw [← hT] at FD
  replace hZ := Lib.hid hZ
  replace hT := Lib.hid hT
  unfold mV
  go_enter Try.func10, Try.ntmps10
  go_wp2_with fail
  refine FD.out.mono ?_
  rintro e w2 ⟨rfl, nq, e2⟩
  have Bq := below_drewN (Below.refl (w.alloc (.cells #[.string ⟨#[]⟩, .string ⟨#[]⟩, .int .i64 0, .bool false] 33)).heap.size (w.alloc (.cells #[.string ⟨#[]⟩, .string ⟨#[]⟩, .int .i64 0, .bool false] 33))) nq
  rw [← e2] at Bq
  have B2 := Lib.hid (ext_trans A0.out Bq)
  have m2 := M0.out.keep Bq M0.out.lt
  have X2 := X0.out.kept Bq
  obtain ⟨v, xr, xo⟩ := X2.blk
  have cv : w2.cell? ⟨gx, 0, none⟩ = some v := by rw [cell_of_row w2 gx 0 _ 28 (0, 0) xr]; rfl
  obtain ⟨d0, d1, d2, d3, -⟩ := m2.cells
  obtain ⟨z0, z1, z2, z3⟩ := m2.froz
  have hw2 : w.heap.size < w2.heap.size := m2.lt
  clear FD Bq e2 X2
  replace m2 := Lib.hid m2
  cases hth : T0 with
  | false =>
    have eZ : Z = default := by
      rw [hZ.out]; unfold xg; rw [← hT.out, hth]; rfl
    have e0 : Z.a0 = ⟨#[]⟩ := by rw [eZ]; rfl
    have e1 : Z.a1 = ⟨#[]⟩ := by rw [eZ]; rfl
    have e2 : Z.a2 = 0 := by rw [eZ]; rfl
    have e3 : Z.a3 = false := by rw [eZ]; rfl
    have eZZ := Lib.hid (And.intro e0 (And.intro e1 (And.intro e2 e3)))
    replace xo := Lib.hid xo
    replace hth := Lib.hid hth
    clear e0 e1 e2 e3 eZ hspl
    go_wp2_with fail
    exact bodyPost_ret (v := .tuple #[.agg #[.string ⟨#[]⟩, .string ⟨#[]⟩, .int .i64 0, .bool false], .bool false]) (by simp [results, Try.results10, go_sem, d0, d1, d2, d3]) rfl ⟨by rw [eZZ.out.1, eZZ.out.2.1, eZZ.out.2.2.1, eZZ.out.2.2.2, hth.out], by repeat (first | exact B2.out | refine Below.setCell ?_ (by simp) _)⟩
  | true =>
    have hth' : thr t L = true := by rw [← hT.out]; exact hth
    obtain ⟨f0, rr, g0, g1, g2, -⟩ := there_yes hu hth'
    have eZ : Z = f0 := by
      rw [hZ.out]; unfold xg; rw [hth', g0]; rfl
    subst eZ
    have hf : L[(pr t L).length]? = some Z := (congrArg (fun l : List Mg => l[(pr t L).length]?) g2).trans (by simp)
    obtain ⟨g, cap, rfl, hgB, hgl, y0, y1, y2, y3, -⟩ := row_at xo hf
    have hkl : (pr t L).length < L.length := (List.getElem?_eq_some_iff.1 hf).1
    have hkl' : ((pr t L).length : Int) < (L.length : Int) := by omega
    generalize (pr t L).length = k at *
    replace xo := Lib.hid xo
    replace g0 := Lib.hid g0
    replace g2 := Lib.hid g2
    replace hf := Lib.hid hf
    clear hspl
    replace g1 := Lib.hid g1
    replace hth := Lib.hid hth
    go_wp2_with fail
    exact bodyPost_ret (v := .tuple #[.agg #[.string Z.a0, .string Z.a1, .int .i64 Z.a2, .bool Z.a3], .bool true]) (by simp [results, Try.results10, go_sem, d0, d1, d2, d3]) rfl ⟨by rw [hth.out], by repeat (first | exact B2.out | refine Below.setCell ?_ (by simp) _)⟩
theorem rfil_far (s : ByteArray) (w : World) (hs : s.size ≤ 140737488351232) : Calls Try.prog 34 #[.string s] w (BoolIs (filterB s) w) := by
  by_cases h : s.size ≤ 1048576
  · exact rfilter_any s w h
  have e : filterB s = false := by
    unfold filterB fitsB
    rw [decide_eq_false (p := s.size ≤ 96) (by omega)]; simp
  rw [e]
  have F := Lib.hid (fun w => rfar_sized s w (by omega) hs)
  replace h := Lib.hid h
  clear hs e
  go_enter Try.func34, Try.ntmps34
  go_wp2_with fail
  refine (F.out _).mono ?_
  rintro e w1 ⟨rfl, b1⟩
  go_wp2_with fail
  go_ret
  exact ⟨rfl, b1⟩
theorem rmatch_far (F t : ByteArray) (w : World) (hF : F.size ≤ 140737488351232) (ht : t.size ≤ 1048576) : Calls Try.prog 23 #[.string F, .string t] w (BoolIs (matchB F t) w) := by
  by_cases h : F.size ≤ 1048576
  · exact rmatch_any F t w h ht
  have ef : filterB F = false := by
    unfold filterB fitsB
    rw [decide_eq_false (p := F.size ≤ 96) (by omega)]; simp
  have e : matchB F t = false := by unfold matchB; rw [ef]; rfl
  rw [e]
  have FF := fun W => rfil_far F W hF
  rw [ef] at FF
  replace FF := Lib.hid FF
  clear hF h ef e ht
  go_enter Try.func23, Try.ntmps23
  go_wp2_with fail
  refine (FF.out _).mono ?_
  rintro e w1 ⟨rfl, b1⟩
  go_wp2_with fail
  go_ret
  exact ⟨rfl, b1⟩
def ListIs (w : World) (L : List Mg) (e : Ending) (w' : World) : Prop := ∃ v, e = .returned v ∧ MsAt w' v L ∧ Below w.heap.size w w'
set_option maxHeartbeats 4000000 in
set_option maxRecDepth 100000 in
theorem xfilter (w : World) (gx B : Nat) (L : List Mg) (F : ByteArray) (h : Xs w gx B L) (hl : L.length ≤ 32) (hn : ∀ f ∈ L, f.a0.size ≤ 96) (hF : F.size ≤ 140737488351232) :
    Calls Try.prog 13 #[.pointer (some ⟨gx, 0, none⟩), .string F] w (ListIs w (L.filter fun f => matchB F f.a0)) := by
  obtain ⟨v, xr, xo⟩ := h.blk
  have hgl : gx < w.heap.size := (Array.getElem?_eq_some_iff.1 xr).1
  have cv : w.cell? ⟨gx, 0, none⟩ = some v := by rw [cell_of_row w gx 0 _ 28 (0, 0) xr]; rfl
  have CV := Lib.hid (fun W (hb : Below w.heap.size w W) => (hb.cell hgl).trans cv)
  have XO := Lib.hid (fun W (hb : Below w.heap.size w W) => (show W.ownsRow B 33 4 v L.length (msAtC L) from xo.kept (none_of hb) (by cases hv : v.ownBlock <;> simp)))
  obtain ⟨va, vc, hv⟩ := own_slice xo
  have hll : (L.length : Int) ≤ 32 := by omega
  replace hn := Lib.hid hn
  replace hF := Lib.hid hF
  obtain ⟨R, hR⟩ : ∃ R, R = L.filter (fun f => matchB F f.a0) := ⟨_, rfl⟩
  rw [← hR]
  replace hR := Lib.hid hR
  clear h xr xo cv
  subst hv
  go_enter Try.func13, Try.ntmps13
  go_wp2_with fail
  go_loopw [5, 6] (fun c5 iv wr => ∃ k : Nat, iv = .int .i64 (k : Int) ∧ k ≤ L.length ∧ wr.ownsRow w.heap.size 33 4 c5 ((L.take k).filter fun f => matchB F f.a0).length (msAtC ((L.take k).filter fun f => matchB F f.a0)) ∧ Below w.heap.size w wr) (fun _ iv _ => L.length - (intOf iv).toNat)
  case atStart => exact ⟨0, rfl, by omega, by simpa [msAtC] using World.ownsRow_nil _ _ _ _, Below.refl _ _⟩
  case round =>
    obtain ⟨k, rfl, hk, hO, hbw⟩ := hrel
    have cv := CV.out wr hbw
    by_cases hend : k = L.length
    · rw [hend, List.take_length] at hO
      have hlf : (L.filter fun f => matchB F f.a0).length ≤ 32 := Nat.le_trans (List.length_filter_le _ _) hl
      have hkn : ¬ (k : Int) < (L.length : Int) := by omega
      rw [← hR.out] at hO hlf
      replace hO := Lib.hid hO
      replace hbw := Lib.hid hbw
      replace hend := Lib.hid hend
      go_wp2_with fail
      go_ret
      exact ⟨_, rfl, MsAt.of_own hO.out (by omega), hbw.out⟩
    · have hkl : k < L.length := by omega
      have hkl' : (k : Int) < (L.length : Int) := by omega
      obtain ⟨f, hf⟩ : ∃ f, L[k]? = some f := ⟨_, List.getElem?_eq_getElem hkl⟩
      have hft := hn.out f (List.mem_of_getElem? hf)
      obtain ⟨g, cap, e, hgB, hgw, d0, -⟩ := row_at (XO.out wr hbw) hf
      simp only [Value.slice.injEq] at e
      obtain ⟨rfl, -, rfl⟩ := e
      have MF := Lib.hid (rmatch_far F f.a0 wr hF.out (by omega))
      replace hf := Lib.hid hf
      replace hO := Lib.hid hO
      replace hbw := Lib.hid hbw
      go_wp2_with fail
      refine MF.out.mono ?_
      rintro e w4 ⟨rfl, b4⟩
      have hb4 := hbw.out.trans (b4.mono hbw.out.size)
      have cv4 := CV.out w4 hb4
      obtain ⟨g', cap', e, -, -, q0, q1, q2, q3, -⟩ := row_at (XO.out w4 hb4) hf.out
      simp only [Value.slice.injEq, Option.some.injEq, Addr.mk.injEq, and_true, true_and] at e
      obtain ⟨rfl, rfl⟩ := e
      have hO4 := hO.out.kept (none_of b4) (by cases hv : u5.ownBlock <;> simp)
      have htk : L.take (k + 1) = L.take k ++ [f] := by
        have e := List.getElem?_eq_some_iff.1 hf.out
        rw [List.take_succ_eq_append_getElem hkl, e.2]
      have hlw : ((L.take k).filter fun f => matchB F f.a0).length ≤ 32 := by
        refine Nat.le_trans (List.length_filter_le _ _) ?_
        rw [List.length_take]; omega
      clear cv d0 b4 hbw hO MF
      cases hm : matchB F f.a0 with
      | false =>
        have hfl : (L.take (k + 1)).filter (fun f => matchB F f.a0) = (L.take k).filter (fun f => matchB F f.a0) := by
          rw [htk, List.filter_append]; simp [hm]
        replace hO4 := Lib.hid hO4
        replace hb4 := Lib.hid hb4
        replace hfl := Lib.hid hfl
        clear q0 q1 q2 q3 htk hlw
        go_wp2_with fail
        go_roundw
        case rel => exact ⟨k + 1, by simp, by omega, by rw [hfl.out]; exact hO4.out, hb4.out⟩
        case measure => simp [intOf]; omega
      | true =>
        have hfl : (L.take (k + 1)).filter (fun f => matchB F f.a0) = (L.take k).filter (fun f => matchB F f.a0) ++ [f] := by
          rw [htk, List.filter_append]; simp [hm]
        generalize (L.take k).filter (fun f => matchB F f.a0) = WL at *
        have O5 := Lib.hid (hO4.alloc (.cells #[.string f.a0, .string f.a1, .int .i64 f.a2, .bool f.a3] 33))
        have M5 : MsAt (w4.alloc (.cells #[.string f.a0, .string f.a1, .int .i64 f.a2, .bool f.a3] 33)) (.slice (some ⟨w4.heap.size, 0, none⟩) 1 1) [f] := mg_one
        replace M5 := Lib.hid M5
        have B5 := Lib.hid (hb4.alloc hb4.size (.cells #[.string f.a0, .string f.a1, .int .i64 f.a2, .bool f.a3] 33))
        replace hfl := Lib.hid hfl
        replace hlw := Lib.hid hlw
        clear hO4 hb4 htk
        go_wp2_with (at_builtin; go_must (refine wpList_append_ms _ rfl (.tmp 26) (.tmp 34) rfl w.heap.size _ WL.length (msAtC WL) [f] rfl O5.out M5.out B5.out.size (by have := hlw.out; simp; omega) ?_); intro v6 w6 o6 g6)
        go_roundw
        case rel =>
          refine ⟨k + 1, by simp, by omega, ?_, B5.out.grown g6 B5.out.size (fun j hj => (O5.out.lt j hj).1)⟩
          rw [hfl.out, List.length_append, msAtC_append]
          exact o6
        case measure => simp [intOf]; omega
end Go.Proofs.Ytfdaooaooalknaa
