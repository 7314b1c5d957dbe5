/-
  LAYER 6: Of, the document's.
-/
import Derived.Test.YtoglgdkeknojkaaMj
namespace Go.Proofs.Ytoglgdkeknojkaa
open Go.RowKit

set_option maxHeartbeats 8000000 in
set_option maxRecDepth 100000 in
theorem mrof_any (v : Value) (l : List Nat) (w : World) (hS : BytesAt w v l) (h256 : ∀ x ∈ l, x < 256) (hl : l.length ≤ 140737488355328) : Calls Try.prog 13 #[v] w (OfM (ofMR l) w) := by
  have hA := Lib.hid (ext_alloc w (.cells zeroM.cells 24))
  have hZ := Lib.hid (Blk.new w 24 zeroM.cells)
  have O := rof_any v l _ (hS.keep hA.out (Nat.le_refl _)) h256 hl
  have hnum := ofR_num l h256
  have hle := ofR_le l
  unfold ofMR
  rw [zM] at O
  obtain ⟨a, cap, rfl, -⟩ := hS
  generalize ofR l = R at *
  obtain ⟨L, E⟩ := R
  simp only at hnum hle ⊢
  replace hnum := Lib.hid hnum
  replace h256 := Lib.hid h256
  have hle' : (L.length : Int) ≤ 256 := by omega
  by_cases hE : E ≠ 0
  · rw [if_pos hE]
    have hd : ((E : Int) != 0) = true := by simpa using hE
    replace O := Lib.hid O
    replace hE := Lib.hid hE
    go_enter Try.func13, Try.ntmps13
    go_wp2_with fail
    refine O.out.mono ?_
    rintro e w1 ⟨v1, rfl, -, b1⟩
    rw [← zM] at b1
    have hZ1 := Blk.ext hZ.out b1
    rw [zM] at hZ1
    obtain ⟨y0, y1, y2, y3, y4, y5, y6, y7⟩ := box8b hZ1
    have z0 := hZ1.fz 0
    have z1 := hZ1.fz 1
    have z2 := hZ1.fz 2
    have z3 := hZ1.fz 3
    have z4 := hZ1.fz 4
    have z5 := hZ1.fz 5
    have z6 := hZ1.fz 6
    have z7 := hZ1.fz 7
    have B1 := Lib.hid (ext_trans hA.out b1)
    clear hZ1 b1
    go_wp2_with fail
    exact bodyPost_ret (v := .tuple #[zeroM.val, .int .i64 E]) (by simp [results, Try.results13, go_sem, Me.val, zM, y0, y1, y2, y3, y4, y5, y6, y7]) rfl ⟨rfl, setC8 B1.out (Nat.le_refl _) _ _ _ _ _ _ _ _⟩
  replace hE := Decidable.not_not.1 hE
  subst hE
  rw [if_neg (by simp)]
  replace O := Lib.hid O
  go_enter Try.func13, Try.ntmps13
  go_wp2_with fail
  refine O.out.mono ?_
  rintro e w2 ⟨v1, rfl, hF, b1⟩
  rw [← zM] at b1
  have hZ2 := Lib.hid (Blk.ext hZ.out b1)
  have B2 := Lib.hid (ext_trans hA.out b1)
  obtain ⟨la, lc, rfl, -, hc⟩ := hF
  replace hc := Lib.hid hc
  clear b1
  have ltz : w.heap.size < w2.heap.size := Blk.lt hZ2.out
  have hc2 : ∀ b o, b < w2.heap.size → ∀ cs, w2.rangeAt b o cs → (w2.alloc (.cells zeroM.cells 24)).rangeAt b o cs := fun b o hb cs hr => rangeAt_keep hr (ext_alloc w2 _) hb
  replace hc2 := Lib.hid hc2
  have hZ3 := Lib.hid (Blk.alloc hZ2.out (.cells zeroM.cells 24))
  have hM3 := Lib.hid (Blk.new w2 24 zeroM.cells)
  have B3 := Lib.hid (B2.out.trans ((ext_alloc w2 (.cells zeroM.cells 24)).mono B2.out.size))
  go_wp2_with fail
  go_loopw [7] (fun i wr => ∃ (k : Nat) (m : Me), i = .int .i64 k ∧ k ≤ L.length ∧ Blk wr w2.heap.size 24 m.cells ∧ FarFrom w2.heap.size (w2.alloc (.cells zeroM.cells 24)) wr ∧ ofM (L.drop k) m = ofM L zeroM ∧ Below w.heap.size w wr) (fun i _ => L.length - (intOf i).toNat)
  case atStart => exact ⟨0, zeroM, rfl, by omega, hM3.out, FarFrom.refl _ _, rfl, B3.out⟩
  case round =>
    obtain ⟨k, m, rfl, hk, hM, hf, hrec, hb1⟩ := hrel
    have hN3 := hf.blk' hZ3.out (Nat.ne_of_lt ltz)
    have ltM : w2.heap.size < wr.heap.size := Blk.lt hM
    have ltO : w.heap.size < wr.heap.size := Blk.lt hN3
    obtain ⟨a0, a1, a2, a3, a4, a5, a6, a7⟩ := Blk.m8 hM
    rw [zM] at hN3
    have z0 := hN3.fz 0
    have z1 := hN3.fz 1
    have z2 := hN3.fz 2
    have z3 := hN3.fz 3
    have z4 := hN3.fz 4
    have z5 := hN3.fz 5
    have z6 := hN3.fz 6
    have z7 := hN3.fz 7
    obtain ⟨y0, y1, y2, y3, y4, y5, y6, y7⟩ := box8b hN3
    have hFz := Lib.hid (fun j => Blk.fz hM j)
    replace hb1 := Lib.hid hb1
    replace hf := Lib.hid hf
    replace hM := Lib.hid hM
    clear hN3
    by_cases hend : k = L.length
    · subst hend
      rw [List.drop_length, ofM] at hrec
      replace hrec := Lib.hid hrec
      go_wp2_with fail
      exact bodyPost_ret (v := .tuple #[m.val, .int .i64 0]) (by simp [results, Try.results13, go_sem, Me.val, Me.cells, y0, y1, y2, y3, y4, y5, y6, y7]) rfl ⟨by rw [← hrec.out], setC8 hb1.out (Nat.le_refl _) _ _ _ _ _ _ _ _⟩
    obtain ⟨f, hfk⟩ : ∃ f, L[k]? = some f := ⟨_, List.getElem?_eq_getElem (by omega)⟩
    obtain ⟨b, o, rfl, hbl, hcell⟩ : ∃ b o, la = some ⟨b, o, none⟩ ∧ b < w2.heap.size ∧ w2.rangeAt b (o + k * 4) f.cells := by
      rcases hc.out with h | ⟨b, o, ha, hb, hc⟩
      · subst h; simp at hfk
      · exact ⟨b, o, ha, hb, hc k f hfk⟩
    have hr := hf.out.range (by have := (ext_alloc w2 (.cells zeroM.cells 24)).size; omega) (by omega) (hc2.out b _ hbl _ hcell)
    obtain ⟨q0, q1, q2, q3⟩ := rangeAt4 hr
    clear hr hcell
    obtain ⟨n1, n2, fvle⟩ := hnum.out f (List.mem_of_getElem? hfk)
    rw [mdrop_at hfk] at hrec
    replace hfk := Lib.hid hfk
    have klt : (k : Int) < (L.length : Int) := by omega
    obtain ⟨fn, fk, fv, ft⟩ := f
    simp only at q0 q1 q2 q3 n1 n2 fvle
    by_cases h8 : 8 < fn
    · rw [ofM_skip h8] at hrec
      replace hrec := Lib.hid hrec
      clear a0 a1 a2 a3 a4 a5 a6 a7 y0 y1 y2 y3 y4 y5 y6 y7 z0 z1 z2 z3 z4 z5 z6 z7
      go_wp2_with fail
      go_roundw
      case rel => exact ⟨k + 1, m, by simp, by omega, Blk.alloc hM.out _, hf.out.ext (ext_alloc _ _), hrec.out, hb1.out.alloc hb1.out.size _⟩
      case measure => simp [intOf]; omega
    have hi : fn = 1 ∨ fn = 2 ∨ fn = 3 ∨ fn = 4 ∨ fn = 5 ∨ fn = 6 ∨ fn = 7 ∨ fn = 8 := by omega
    clear n1 n2
    rcases hi with rfl | rfl | rfl | rfl | rfl | rfl | rfl | rfl
    · clear h8
      by_cases hk : fk = 0
      · subst hk
        by_cases hv : 1 < fv
        · have hd : decide ((1 : Int) < (fv : Int)) = true := decide_eq_true (by omega)
          rw [ofM_range (by simp only; omega) rfl ⟨rfl, hv⟩] at hrec
          replace hrec := Lib.hid hrec
          clear a0 a1 a2 a3 a4 a5 a6 a7
          go_wp2_with fail
          exact bodyPost_ret (v := .tuple #[zeroM.val, .int .i64 5]) (by simp [results, Try.results13, go_sem, Me.val, zM, y0, y1, y2, y3, y4, y5, y6, y7, ltO]) rfl ⟨by rw [← hrec.out], (setC8 hb1.out (Nat.le_refl _) _ _ _ _ _ _ _ _).alloc (by simp; omega) _⟩
        · have hd : decide ((1 : Int) < (fv : Int)) = false := decide_eq_false (by omega)
          rw [ofM_take (by simp only; omega) rfl (by simp only; omega)] at hrec
          have hrec' : ofM (L.drop (k + 1)) (setP 0 m fv ft) = ofM L zeroM := hrec
          have hfin : Blk ((wr.setCell ⟨w2.heap.size, 0, none⟩ (.bool ((fv : Int) == 1))).alloc (.cells #[.int .i64 1, .int .i64 0, .int .u64 (fv : Nat), .string ft] 41)) w2.heap.size 24 (setP 0 m fv ft).cells := by
            rw [← set_cells_0]; exact Blk.alloc (Blk.set hM.out 0 _) _
          have ff := Lib.hid ((hf.out.set 0 (.bool ((fv : Int) == 1))).ext (ext_alloc _ (.cells #[.int .i64 1, .int .i64 0, .int .u64 (fv : Nat), .string ft] 41)))
          have B5 := Lib.hid ((hb1.out.setCell (p := ⟨w2.heap.size, 0, none⟩) (by simp; omega) (.bool ((fv : Int) == 1))).alloc (by simp; omega) (.cells #[.int .i64 1, .int .i64 0, .int .u64 (fv : Nat), .string ft] 41))
          have zz := hFz.out 0
          replace hrec := Lib.hid hrec'
          replace hfin := Lib.hid hfin
          clear hrec' y0 y1 y2 y3 y4 y5 y6 y7 z0 z1 z2 z3 z4 z5 z6 z7
          go_wp2_with fail
          go_roundw
          case rel => exact ⟨k + 1, _, by simp, by omega, hfin.out, ff.out, hrec.out, B5.out⟩
          case measure => simp [intOf]; omega
      · have hd : (fk != 0) = true := by simpa using hk
        rw [ofM_form (by simp only; omega) (fun h => hk (h.trans rfl))] at hrec
        replace hrec := Lib.hid hrec
        clear a0 a1 a2 a3 a4 a5 a6 a7
        go_wp2_with fail
        exact bodyPost_ret (v := .tuple #[zeroM.val, .int .i64 4]) (by simp [results, Try.results13, go_sem, Me.val, zM, y0, y1, y2, y3, y4, y5, y6, y7, ltO]) rfl ⟨by rw [← hrec.out], (setC8 hb1.out (Nat.le_refl _) _ _ _ _ _ _ _ _).alloc (by simp; omega) _⟩
    · clear h8
      by_cases hk : fk = 2
      · subst hk
        rw [ofM_take (by simp only; omega) rfl (by simp only; omega)] at hrec
        have hrec' : ofM (L.drop (k + 1)) (setP 1 m fv ft) = ofM L zeroM := hrec
        have hfin : Blk ((wr.setCell ⟨w2.heap.size, 1, none⟩ (.string ft)).alloc (.cells #[.int .i64 2, .int .i64 2, .int .u64 (fv : Nat), .string ft] 41)) w2.heap.size 24 (setP 1 m fv ft).cells := by
          rw [← set_cells_1]; exact Blk.alloc (Blk.set hM.out 1 _) _
        have ff := Lib.hid ((hf.out.set 1 (.string ft)).ext (ext_alloc _ (.cells #[.int .i64 2, .int .i64 2, .int .u64 (fv : Nat), .string ft] 41)))
        have B5 := Lib.hid ((hb1.out.setCell (p := ⟨w2.heap.size, 1, none⟩) (by simp; omega) (.string ft)).alloc (by simp; omega) (.cells #[.int .i64 2, .int .i64 2, .int .u64 (fv : Nat), .string ft] 41))
        have zz := hFz.out 1
        replace hrec := Lib.hid hrec'
        replace hfin := Lib.hid hfin
        clear hrec' y0 y1 y2 y3 y4 y5 y6 y7 z0 z1 z2 z3 z4 z5 z6 z7
        go_wp2_with fail
        go_roundw
        case rel => exact ⟨k + 1, _, by simp, by omega, hfin.out, ff.out, hrec.out, B5.out⟩
        case measure => simp [intOf]; omega
      · have hd : (fk != 2) = true := by simpa using hk
        rw [ofM_form (by simp only; omega) (fun h => hk (h.trans rfl))] at hrec
        replace hrec := Lib.hid hrec
        clear a0 a1 a2 a3 a4 a5 a6 a7
        go_wp2_with fail
        exact bodyPost_ret (v := .tuple #[zeroM.val, .int .i64 4]) (by simp [results, Try.results13, go_sem, Me.val, zM, y0, y1, y2, y3, y4, y5, y6, y7, ltO]) rfl ⟨by rw [← hrec.out], (setC8 hb1.out (Nat.le_refl _) _ _ _ _ _ _ _ _).alloc (by simp; omega) _⟩
    · clear h8
      by_cases hk : fk = 0
      · subst hk
        rw [ofM_take (by simp only; omega) rfl (by simp only; omega)] at hrec
        have hrec' : ofM (L.drop (k + 1)) (setP 2 m fv ft) = ofM L zeroM := hrec
        have hfin : Blk ((wr.setCell ⟨w2.heap.size, 2, none⟩ (.int .u64 (fv : Nat))).alloc (.cells #[.int .i64 3, .int .i64 0, .int .u64 (fv : Nat), .string ft] 41)) w2.heap.size 24 (setP 2 m fv ft).cells := by
          rw [← set_cells_2]; exact Blk.alloc (Blk.set hM.out 2 _) _
        have ff := Lib.hid ((hf.out.set 2 (.int .u64 (fv : Nat))).ext (ext_alloc _ (.cells #[.int .i64 3, .int .i64 0, .int .u64 (fv : Nat), .string ft] 41)))
        have B5 := Lib.hid ((hb1.out.setCell (p := ⟨w2.heap.size, 2, none⟩) (by simp; omega) (.int .u64 (fv : Nat))).alloc (by simp; omega) (.cells #[.int .i64 3, .int .i64 0, .int .u64 (fv : Nat), .string ft] 41))
        have zz := hFz.out 2
        replace hrec := Lib.hid hrec'
        replace hfin := Lib.hid hfin
        clear hrec' y0 y1 y2 y3 y4 y5 y6 y7 z0 z1 z2 z3 z4 z5 z6 z7
        go_wp2_with fail
        go_roundw
        case rel => exact ⟨k + 1, _, by simp, by omega, hfin.out, ff.out, hrec.out, B5.out⟩
        case measure => simp [intOf]; omega
      · have hd : (fk != 0) = true := by simpa using hk
        rw [ofM_form (by simp only; omega) (fun h => hk (h.trans rfl))] at hrec
        replace hrec := Lib.hid hrec
        clear a0 a1 a2 a3 a4 a5 a6 a7
        go_wp2_with fail
        exact bodyPost_ret (v := .tuple #[zeroM.val, .int .i64 4]) (by simp [results, Try.results13, go_sem, Me.val, zM, y0, y1, y2, y3, y4, y5, y6, y7, ltO]) rfl ⟨by rw [← hrec.out], (setC8 hb1.out (Nat.le_refl _) _ _ _ _ _ _ _ _).alloc (by simp; omega) _⟩
    · clear h8
      by_cases hk : fk = 0
      · subst hk
        rw [ofM_take (by simp only; omega) rfl (by simp only; omega)] at hrec
        have hrec' : ofM (L.drop (k + 1)) (setP 3 m fv ft) = ofM L zeroM := hrec
        have hfin : Blk ((wr.setCell ⟨w2.heap.size, 3, none⟩ (.int .u64 (fv : Nat))).alloc (.cells #[.int .i64 4, .int .i64 0, .int .u64 (fv : Nat), .string ft] 41)) w2.heap.size 24 (setP 3 m fv ft).cells := by
          rw [← set_cells_3]; exact Blk.alloc (Blk.set hM.out 3 _) _
        have ff := Lib.hid ((hf.out.set 3 (.int .u64 (fv : Nat))).ext (ext_alloc _ (.cells #[.int .i64 4, .int .i64 0, .int .u64 (fv : Nat), .string ft] 41)))
        have B5 := Lib.hid ((hb1.out.setCell (p := ⟨w2.heap.size, 3, none⟩) (by simp; omega) (.int .u64 (fv : Nat))).alloc (by simp; omega) (.cells #[.int .i64 4, .int .i64 0, .int .u64 (fv : Nat), .string ft] 41))
        have zz := hFz.out 3
        replace hrec := Lib.hid hrec'
        replace hfin := Lib.hid hfin
        clear hrec' y0 y1 y2 y3 y4 y5 y6 y7 z0 z1 z2 z3 z4 z5 z6 z7
        go_wp2_with fail
        go_roundw
        case rel => exact ⟨k + 1, _, by simp, by omega, hfin.out, ff.out, hrec.out, B5.out⟩
        case measure => simp [intOf]; omega
      · have hd : (fk != 0) = true := by simpa using hk
        rw [ofM_form (by simp only; omega) (fun h => hk (h.trans rfl))] at hrec
        replace hrec := Lib.hid hrec
        clear a0 a1 a2 a3 a4 a5 a6 a7
        go_wp2_with fail
        exact bodyPost_ret (v := .tuple #[zeroM.val, .int .i64 4]) (by simp [results, Try.results13, go_sem, Me.val, zM, y0, y1, y2, y3, y4, y5, y6, y7, ltO]) rfl ⟨by rw [← hrec.out], (setC8 hb1.out (Nat.le_refl _) _ _ _ _ _ _ _ _).alloc (by simp; omega) _⟩
    · clear h8
      by_cases hk : fk = 2
      · subst hk
        rw [ofM_take (by simp only; omega) rfl (by simp only; omega)] at hrec
        have hrec' : ofM (L.drop (k + 1)) (setP 4 m fv ft) = ofM L zeroM := hrec
        have hfin : Blk ((wr.setCell ⟨w2.heap.size, 4, none⟩ (.string ft)).alloc (.cells #[.int .i64 5, .int .i64 2, .int .u64 (fv : Nat), .string ft] 41)) w2.heap.size 24 (setP 4 m fv ft).cells := by
          rw [← set_cells_4]; exact Blk.alloc (Blk.set hM.out 4 _) _
        have ff := Lib.hid ((hf.out.set 4 (.string ft)).ext (ext_alloc _ (.cells #[.int .i64 5, .int .i64 2, .int .u64 (fv : Nat), .string ft] 41)))
        have B5 := Lib.hid ((hb1.out.setCell (p := ⟨w2.heap.size, 4, none⟩) (by simp; omega) (.string ft)).alloc (by simp; omega) (.cells #[.int .i64 5, .int .i64 2, .int .u64 (fv : Nat), .string ft] 41))
        have zz := hFz.out 4
        replace hrec := Lib.hid hrec'
        replace hfin := Lib.hid hfin
        clear hrec' y0 y1 y2 y3 y4 y5 y6 y7 z0 z1 z2 z3 z4 z5 z6 z7
        go_wp2_with fail
        go_roundw
        case rel => exact ⟨k + 1, _, by simp, by omega, hfin.out, ff.out, hrec.out, B5.out⟩
        case measure => simp [intOf]; omega
      · have hd : (fk != 2) = true := by simpa using hk
        rw [ofM_form (by simp only; omega) (fun h => hk (h.trans rfl))] at hrec
        replace hrec := Lib.hid hrec
        clear a0 a1 a2 a3 a4 a5 a6 a7
        go_wp2_with fail
        exact bodyPost_ret (v := .tuple #[zeroM.val, .int .i64 4]) (by simp [results, Try.results13, go_sem, Me.val, zM, y0, y1, y2, y3, y4, y5, y6, y7, ltO]) rfl ⟨by rw [← hrec.out], (setC8 hb1.out (Nat.le_refl _) _ _ _ _ _ _ _ _).alloc (by simp; omega) _⟩
    · clear h8
      by_cases hk : fk = 2
      · subst hk
        rw [ofM_take (by simp only; omega) rfl (by simp only; omega)] at hrec
        have hrec' : ofM (L.drop (k + 1)) (setP 5 m fv ft) = ofM L zeroM := hrec
        have hfin : Blk ((wr.setCell ⟨w2.heap.size, 5, none⟩ (.string ft)).alloc (.cells #[.int .i64 6, .int .i64 2, .int .u64 (fv : Nat), .string ft] 41)) w2.heap.size 24 (setP 5 m fv ft).cells := by
          rw [← set_cells_5]; exact Blk.alloc (Blk.set hM.out 5 _) _
        have ff := Lib.hid ((hf.out.set 5 (.string ft)).ext (ext_alloc _ (.cells #[.int .i64 6, .int .i64 2, .int .u64 (fv : Nat), .string ft] 41)))
        have B5 := Lib.hid ((hb1.out.setCell (p := ⟨w2.heap.size, 5, none⟩) (by simp; omega) (.string ft)).alloc (by simp; omega) (.cells #[.int .i64 6, .int .i64 2, .int .u64 (fv : Nat), .string ft] 41))
        have zz := hFz.out 5
        replace hrec := Lib.hid hrec'
        replace hfin := Lib.hid hfin
        clear hrec' y0 y1 y2 y3 y4 y5 y6 y7 z0 z1 z2 z3 z4 z5 z6 z7
        go_wp2_with fail
        go_roundw
        case rel => exact ⟨k + 1, _, by simp, by omega, hfin.out, ff.out, hrec.out, B5.out⟩
        case measure => simp [intOf]; omega
      · have hd : (fk != 2) = true := by simpa using hk
        rw [ofM_form (by simp only; omega) (fun h => hk (h.trans rfl))] at hrec
        replace hrec := Lib.hid hrec
        clear a0 a1 a2 a3 a4 a5 a6 a7
        go_wp2_with fail
        exact bodyPost_ret (v := .tuple #[zeroM.val, .int .i64 4]) (by simp [results, Try.results13, go_sem, Me.val, zM, y0, y1, y2, y3, y4, y5, y6, y7, ltO]) rfl ⟨by rw [← hrec.out], (setC8 hb1.out (Nat.le_refl _) _ _ _ _ _ _ _ _).alloc (by simp; omega) _⟩
    · clear h8
      by_cases hk : fk = 2
      · subst hk
        rw [ofM_take (by simp only; omega) rfl (by simp only; omega)] at hrec
        have hrec' : ofM (L.drop (k + 1)) (setP 6 m fv ft) = ofM L zeroM := hrec
        have hfin : Blk ((wr.setCell ⟨w2.heap.size, 6, none⟩ (.string ft)).alloc (.cells #[.int .i64 7, .int .i64 2, .int .u64 (fv : Nat), .string ft] 41)) w2.heap.size 24 (setP 6 m fv ft).cells := by
          rw [← set_cells_6]; exact Blk.alloc (Blk.set hM.out 6 _) _
        have ff := Lib.hid ((hf.out.set 6 (.string ft)).ext (ext_alloc _ (.cells #[.int .i64 7, .int .i64 2, .int .u64 (fv : Nat), .string ft] 41)))
        have B5 := Lib.hid ((hb1.out.setCell (p := ⟨w2.heap.size, 6, none⟩) (by simp; omega) (.string ft)).alloc (by simp; omega) (.cells #[.int .i64 7, .int .i64 2, .int .u64 (fv : Nat), .string ft] 41))
        have zz := hFz.out 6
        replace hrec := Lib.hid hrec'
        replace hfin := Lib.hid hfin
        clear hrec' y0 y1 y2 y3 y4 y5 y6 y7 z0 z1 z2 z3 z4 z5 z6 z7
        go_wp2_with fail
        go_roundw
        case rel => exact ⟨k + 1, _, by simp, by omega, hfin.out, ff.out, hrec.out, B5.out⟩
        case measure => simp [intOf]; omega
      · have hd : (fk != 2) = true := by simpa using hk
        rw [ofM_form (by simp only; omega) (fun h => hk (h.trans rfl))] at hrec
        replace hrec := Lib.hid hrec
        clear a0 a1 a2 a3 a4 a5 a6 a7
        go_wp2_with fail
        exact bodyPost_ret (v := .tuple #[zeroM.val, .int .i64 4]) (by simp [results, Try.results13, go_sem, Me.val, zM, y0, y1, y2, y3, y4, y5, y6, y7, ltO]) rfl ⟨by rw [← hrec.out], (setC8 hb1.out (Nat.le_refl _) _ _ _ _ _ _ _ _).alloc (by simp; omega) _⟩
    · clear h8
      by_cases hk : fk = 2
      · subst hk
        rw [ofM_take (by simp only; omega) rfl (by simp only; omega)] at hrec
        have hrec' : ofM (L.drop (k + 1)) (setP 7 m fv ft) = ofM L zeroM := hrec
        have hfin : Blk ((wr.setCell ⟨w2.heap.size, 7, none⟩ (.string ft)).alloc (.cells #[.int .i64 8, .int .i64 2, .int .u64 (fv : Nat), .string ft] 41)) w2.heap.size 24 (setP 7 m fv ft).cells := by
          rw [← set_cells_7]; exact Blk.alloc (Blk.set hM.out 7 _) _
        have ff := Lib.hid ((hf.out.set 7 (.string ft)).ext (ext_alloc _ (.cells #[.int .i64 8, .int .i64 2, .int .u64 (fv : Nat), .string ft] 41)))
        have B5 := Lib.hid ((hb1.out.setCell (p := ⟨w2.heap.size, 7, none⟩) (by simp; omega) (.string ft)).alloc (by simp; omega) (.cells #[.int .i64 8, .int .i64 2, .int .u64 (fv : Nat), .string ft] 41))
        have zz := hFz.out 7
        replace hrec := Lib.hid hrec'
        replace hfin := Lib.hid hfin
        clear hrec' y0 y1 y2 y3 y4 y5 y6 y7 z0 z1 z2 z3 z4 z5 z6 z7
        go_wp2_with fail
        go_roundw
        case rel => exact ⟨k + 1, _, by simp, by omega, hfin.out, ff.out, hrec.out, B5.out⟩
        case measure => simp [intOf]; omega
      · have hd : (fk != 2) = true := by simpa using hk
        rw [ofM_form (by simp only; omega) (fun h => hk (h.trans rfl))] at hrec
        replace hrec := Lib.hid hrec
        clear a0 a1 a2 a3 a4 a5 a6 a7
        go_wp2_with fail
        exact bodyPost_ret (v := .tuple #[zeroM.val, .int .i64 4]) (by simp [results, Try.results13, go_sem, Me.val, zM, y0, y1, y2, y3, y4, y5, y6, y7, ltO]) rfl ⟨by rw [← hrec.out], (setC8 hb1.out (Nat.le_refl _) _ _ _ _ _ _ _ _).alloc (by simp; omega) _⟩
end Go.Proofs.Ytoglgdkeknojkaa
