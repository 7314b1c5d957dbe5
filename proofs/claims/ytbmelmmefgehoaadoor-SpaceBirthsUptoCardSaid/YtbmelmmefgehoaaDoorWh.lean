/-
  LAYER 20: Of: the program's, the other ways.
-/
import Derived.Test.YtbmelmmefgehoaaDoorWg
namespace Go.Proofs.YtbmelmmefgehoaaDoor
open Go.RowKit

set_option maxHeartbeats 4000000 in
set_option maxRecDepth 100000 in
theorem of_st (t : ByteArray) (x0 x2 : ByteArray) (w : World) (ht : Tabs w) (hs : t.size ≤ 1048576) (hl : spS t = [x0, state', x2]) : Calls Tryd.prog 8 #[.string t] w (OfIs (okB t ⟨9, ⟨#[]⟩, x2, ⟨#[]⟩⟩) w) := by
  have S := Lib.hid fun w => split_any t w hs
  have pz : ∀ x ∈ spS t, x.size ≤ 1048576 := fun x hx => Nat.le_trans (part_size hx) hs
  have b0 := ext_alloc w (.cells #[.int .i64 0, .string ⟨#[]⟩, .string ⟨#[]⟩, .string ⟨#[]⟩] 23)
  have r0 := Zero.new w
  have t0 := ht.keep b0
  have z0 : (w.alloc (.cells #[.int .i64 0, .string ⟨#[]⟩, .string ⟨#[]⟩, .string ⟨#[]⟩] 23)).heap.size = w.heap.size + 1 := by simp
  replace b0 := Lib.hid b0
  replace r0 := Lib.hid r0
  replace t0 := Lib.hid t0
  replace z0 := Lib.hid z0
  clear ht
  have PU := Lib.hid fun w h => put_all 9 ⟨#[]⟩ x2 ⟨#[]⟩ w h (by decide) (pz x2 (by rw [hl]; simp)) (by decide)
  generalize hr : okB t (⟨9, ⟨#[]⟩, x2, ⟨#[]⟩⟩ : Sp) = r
  unfold okB at hr
  simp only at hr
  change (if putB 9 ⟨#[]⟩ x2 ⟨#[]⟩ = (t, 0) then (⟨9, ⟨#[]⟩, x2, ⟨#[]⟩⟩ : Sp) else Sp.zero) = r at hr
  generalize putB 9 ⟨#[]⟩ x2 ⟨#[]⟩ = pr at *
  obtain ⟨told, err⟩ := pr
  replace hr := Lib.hid hr
  replace pz := Lib.hid pz
  go_enter Tryd.func8, Tryd.ntmps8
  go_wp2_with fail
  refine (S.out _).mono ?_
  rintro e w1 ⟨v1, rfl, own1, b1⟩
  rw [hl] at own1
  obtain ⟨g1, c1, rfl, -, hg1, hcap, hc1⟩ := own_cells own1 (by simp)
  have z1 : w.heap.size + 1 ≤ w1.heap.size := by have := b1.size; rw [z0.out] at this; exact this
  have r1 := r0.out.keep b1 (by rw [z0.out]; omega)
  have t1 := t0.out.keep b1
  have B1 := b0.out.trans (b1.mono (by rw [z0.out]; omega))
  have z1' : 0 < w1.heap.size := by omega
  have z3 : w.heap.size < w1.heap.size := by omega
  have ne1 : g1 ≠ w1.heap.size := by omega
  have d1 : w1.cell? ⟨g1, 1, none⟩ = some (.string state') := hc1 1 _ rfl
  have d2 : w1.cell? ⟨g1, 2, none⟩ = some (.string x2) := hc1 2 _ rfl
  clear own1 hc1 b1
  replace r1 := Lib.hid r1
  replace t1 := Lib.hid t1
  replace B1 := Lib.hid B1
  simp only [List.length_cons, List.length_nil, Nat.reduceAdd, Nat.zero_add] at *
  have row5 : (w1.alloc (.cells #[.int .i64 9, .string ⟨#[]⟩, .string x2, .string ⟨#[]⟩] 23)).heap[w1.heap.size]? = some (.cells #[.int .i64 9, .string ⟨#[]⟩, .string x2, .string ⟨#[]⟩] 23 (0, 0)) := heap_alloc_new w1 _
  have k5 : Below w1.heap.size w1 (w1.alloc (.cells #[.int .i64 9, .string ⟨#[]⟩, .string x2, .string ⟨#[]⟩] 23)) := ext_alloc w1 _
  have r5 := Lib.hid (r1.out.keep k5 z3)
  have t5 := Lib.hid (t1.out.keep k5)
  have B5 := Lib.hid (B1.out.trans (k5.mono (by omega)))
  have lt5 : w1.heap.size < (w1.alloc (.cells #[.int .i64 9, .string ⟨#[]⟩, .string x2, .string ⟨#[]⟩] 23)).heap.size := by simp
  replace row5 := Lib.hid row5
  replace lt5 := Lib.hid lt5
  clear k5 r1 t1 B1 r0 t0 b0 z0
  go_wp2_with fail
  generalize (w1.alloc (.cells #[.int .i64 9, .string ⟨#[]⟩, .string x2, .string ⟨#[]⟩] 23)) = w5 at *
  have lt5 := lt5.out
  have c0 : w5.cell? ⟨w1.heap.size, 0, none⟩ = some (.int .i64 9) := cell_of_row w5 w1.heap.size 0 _ 23 (0, 0) row5.out
  have c1' : w5.cell? ⟨w1.heap.size, 1, none⟩ = some (.string ⟨#[]⟩) := cell_of_row w5 w1.heap.size 1 _ 23 (0, 0) row5.out
  have c2 : w5.cell? ⟨w1.heap.size, 2, none⟩ = some (.string x2) := cell_of_row w5 w1.heap.size 2 _ 23 (0, 0) row5.out
  have c3 : w5.cell? ⟨w1.heap.size, 3, none⟩ = some (.string ⟨#[]⟩) := cell_of_row w5 w1.heap.size 3 _ 23 (0, 0) row5.out
  refine (PU.out _ t5.out).mono ?_
  rintro e w6 ⟨rfl, b6⟩
  have row6 : w6.heap[w1.heap.size]? = some (.cells #[.int .i64 9, .string ⟨#[]⟩, .string x2, .string ⟨#[]⟩] 23 (0, 0)) := by rw [b6.block _ lt5]; exact row5.out
  have e0 : w6.cell? ⟨w1.heap.size, 0, none⟩ = some (.int .i64 9) := (b6.cell (by simpa using lt5)).trans c0
  have e1 : w6.cell? ⟨w1.heap.size, 1, none⟩ = some (.string ⟨#[]⟩) := (b6.cell (by simpa using lt5)).trans c1'
  have e2 : w6.cell? ⟨w1.heap.size, 2, none⟩ = some (.string x2) := (b6.cell (by simpa using lt5)).trans c2
  have e3 : w6.cell? ⟨w1.heap.size, 3, none⟩ = some (.string ⟨#[]⟩) := (b6.cell (by simpa using lt5)).trans c3
  have r6 := r5.out.keep b6 (by omega)
  obtain ⟨y0, y1, y2, y3, f0, f1, f2, f3⟩ := r6.cells
  have lt6 : w.heap.size < w6.heap.size := by have := b6.size; omega
  have ne6 : w.heap.size ≠ w1.heap.size := by omega
  have B6 := Lib.hid (ext_trans B5.out b6)
  replace row6 := Lib.hid row6
  replace r6 := Lib.hid r6
  clear c0 c1' c2 c3 b6 row5 r5 t5 B5 lt5
  by_cases he : err = 0
  · have he1 : (err != 0) = false := by rw [he]; rfl
    by_cases hto : told = t
    · have ho : (told.toList == t.toList) = true := by rw [hto]; simp
      have hrr : (⟨9, ⟨#[]⟩, x2, ⟨#[]⟩⟩ : Sp) = r := by rw [← hr.out, if_pos (by rw [he, hto])]
      replace hrr := Lib.hid hrr
      replace he := Lib.hid he
      replace hto := Lib.hid hto
      go_wp2_with fail
      exact bodyPost_ret (v := .agg #[.int .i64 9, .string ⟨#[]⟩, .string x2, .string ⟨#[]⟩]) (results_cell_row (fn := Tryd.f8) (p := 2) (ty := 23) rfl _ _ w.heap.size 23 _ (0, 0) _ rfl (r6.out.row.set4 _ _ _ _) Tryd.underlying23 rfl (by kernel_rfl)) rfl ⟨by rw [← hrr.out]; rfl, B6.out.trans (below_set4 _ _ _ _)⟩
    · have ho := ne_bytes hto
      have hrr : Sp.zero = r := by rw [← hr.out, if_neg (fun h => hto (congrArg Prod.fst h))]
      replace hrr := Lib.hid hrr
      replace he := Lib.hid he
      replace hto := Lib.hid hto
      go_wp2_with fail
      exact bodyPost_ret (v := .agg #[.int .i64 0, .string ⟨#[]⟩, .string ⟨#[]⟩, .string ⟨#[]⟩]) (results_cell_row (fn := Tryd.f8) (p := 2) (ty := 23) rfl _ _ w.heap.size 23 _ (0, 0) _ rfl (r6.out.row.set4 _ _ _ _) Tryd.underlying23 rfl (by kernel_rfl)) rfl ⟨by rw [← hrr.out]; rfl, B6.out.trans (below_set4 _ _ _ _)⟩
  · have he1 : (err != 0) = true := by unfold bne; rw [show (err == 0) = false from by rw [beq_eq_false_iff_ne]; exact he]; rfl
    have hrr : Sp.zero = r := by rw [← hr.out, if_neg (fun h => he (congrArg Prod.snd h))]
    replace hrr := Lib.hid hrr
    replace he := Lib.hid he
    go_wp2_with fail
    exact bodyPost_ret (v := .agg #[.int .i64 0, .string ⟨#[]⟩, .string ⟨#[]⟩, .string ⟨#[]⟩]) (results_cell_row (fn := Tryd.f8) (p := 2) (ty := 23) rfl _ _ w.heap.size 23 _ (0, 0) _ rfl (r6.out.row.set4 _ _ _ _) Tryd.underlying23 rfl (by kernel_rfl)) rfl ⟨by rw [← hrr.out]; rfl, B6.out.trans (below_set4 _ _ _ _)⟩
set_option maxHeartbeats 4000000 in
set_option maxRecDepth 100000 in
theorem of_no3 (t : ByteArray) (x0 x1 x2 : ByteArray) (w : World) (ht : Tabs w) (hs : t.size ≤ 1048576) (hl : spS t = [x0, x1, x2]) (hx : x1 ≠ state') : Calls Tryd.prog 8 #[.string t] w (OfIs (okB t Sp.zero) w) := by
  have S := Lib.hid fun w => split_any t w hs
  have pz : ∀ x ∈ spS t, x.size ≤ 1048576 := fun x hx => Nat.le_trans (part_size hx) hs
  have b0 := ext_alloc w (.cells #[.int .i64 0, .string ⟨#[]⟩, .string ⟨#[]⟩, .string ⟨#[]⟩] 23)
  have r0 := Zero.new w
  have t0 := ht.keep b0
  have z0 : (w.alloc (.cells #[.int .i64 0, .string ⟨#[]⟩, .string ⟨#[]⟩, .string ⟨#[]⟩] 23)).heap.size = w.heap.size + 1 := by simp
  replace b0 := Lib.hid b0
  replace r0 := Lib.hid r0
  replace t0 := Lib.hid t0
  replace z0 := Lib.hid z0
  clear ht
  have PU := Lib.hid fun w h => put_all 0 ⟨#[]⟩ ⟨#[]⟩ ⟨#[]⟩ w h (by decide) (by decide) (by decide)
  generalize hr : okB t Sp.zero = r
  unfold okB at hr
  unfold Sp.zero at hr
  simp only at hr
  change (if putB 0 ⟨#[]⟩ ⟨#[]⟩ ⟨#[]⟩ = (t, 0) then Sp.zero else Sp.zero) = r at hr
  generalize putB 0 ⟨#[]⟩ ⟨#[]⟩ ⟨#[]⟩ = pr at *
  obtain ⟨told, err⟩ := pr
  replace hr := Lib.hid hr
  replace pz := Lib.hid pz
  have hxq : (x1.toList == [83, 84, 65, 84, 69]) = false := by
    have h := ne_bytes hx
    rw [ByteArray.toList_eq state'] at h
    exact h
  replace hx := Lib.hid hx
  go_enter Tryd.func8, Tryd.ntmps8
  go_wp2_with fail
  refine (S.out _).mono ?_
  rintro e w1 ⟨v1, rfl, own1, b1⟩
  rw [hl] at own1
  obtain ⟨g1, c1, rfl, -, hg1, hcap, hc1⟩ := own_cells own1 (by simp)
  have z1 : w.heap.size + 1 ≤ w1.heap.size := by have := b1.size; rw [z0.out] at this; exact this
  have r1 := r0.out.keep b1 (by rw [z0.out]; omega)
  have t1 := t0.out.keep b1
  have B1 := b0.out.trans (b1.mono (by rw [z0.out]; omega))
  have z1' : 0 < w1.heap.size := by omega
  have z3 : w.heap.size < w1.heap.size := by omega
  have ne1 : g1 ≠ w1.heap.size := by omega
  have d1 : w1.cell? ⟨g1, 1, none⟩ = some (.string x1) := hc1 1 _ rfl
  have d2 : w1.cell? ⟨g1, 2, none⟩ = some (.string x2) := hc1 2 _ rfl
  clear own1 hc1 b1
  replace r1 := Lib.hid r1
  replace t1 := Lib.hid t1
  replace B1 := Lib.hid B1
  simp only [List.length_cons, List.length_nil, Nat.reduceAdd, Nat.zero_add] at *
  have row5 : (w1.alloc (.cells #[.int .i64 0, .string ⟨#[]⟩, .string ⟨#[]⟩, .string ⟨#[]⟩] 23)).heap[w1.heap.size]? = some (.cells #[.int .i64 0, .string ⟨#[]⟩, .string ⟨#[]⟩, .string ⟨#[]⟩] 23 (0, 0)) := heap_alloc_new w1 _
  have k5 : Below w1.heap.size w1 (w1.alloc (.cells #[.int .i64 0, .string ⟨#[]⟩, .string ⟨#[]⟩, .string ⟨#[]⟩] 23)) := ext_alloc w1 _
  have r5 := Lib.hid (r1.out.keep k5 z3)
  have t5 := Lib.hid (t1.out.keep k5)
  have B5 := Lib.hid (B1.out.trans (k5.mono (by omega)))
  have lt5 : w1.heap.size < (w1.alloc (.cells #[.int .i64 0, .string ⟨#[]⟩, .string ⟨#[]⟩, .string ⟨#[]⟩] 23)).heap.size := by simp
  replace row5 := Lib.hid row5
  replace lt5 := Lib.hid lt5
  clear k5 r1 t1 B1 r0 t0 b0 z0
  go_wp2_with fail
  generalize (w1.alloc (.cells #[.int .i64 0, .string ⟨#[]⟩, .string ⟨#[]⟩, .string ⟨#[]⟩] 23)) = w5 at *
  have lt5 := lt5.out
  have c0 : w5.cell? ⟨w1.heap.size, 0, none⟩ = some (.int .i64 0) := cell_of_row w5 w1.heap.size 0 _ 23 (0, 0) row5.out
  have c1' : w5.cell? ⟨w1.heap.size, 1, none⟩ = some (.string ⟨#[]⟩) := cell_of_row w5 w1.heap.size 1 _ 23 (0, 0) row5.out
  have c2 : w5.cell? ⟨w1.heap.size, 2, none⟩ = some (.string ⟨#[]⟩) := cell_of_row w5 w1.heap.size 2 _ 23 (0, 0) row5.out
  have c3 : w5.cell? ⟨w1.heap.size, 3, none⟩ = some (.string ⟨#[]⟩) := cell_of_row w5 w1.heap.size 3 _ 23 (0, 0) row5.out
  refine (PU.out _ t5.out).mono ?_
  rintro e w6 ⟨rfl, b6⟩
  have row6 : w6.heap[w1.heap.size]? = some (.cells #[.int .i64 0, .string ⟨#[]⟩, .string ⟨#[]⟩, .string ⟨#[]⟩] 23 (0, 0)) := by rw [b6.block _ lt5]; exact row5.out
  have e0 : w6.cell? ⟨w1.heap.size, 0, none⟩ = some (.int .i64 0) := (b6.cell (by simpa using lt5)).trans c0
  have e1 : w6.cell? ⟨w1.heap.size, 1, none⟩ = some (.string ⟨#[]⟩) := (b6.cell (by simpa using lt5)).trans c1'
  have e2 : w6.cell? ⟨w1.heap.size, 2, none⟩ = some (.string ⟨#[]⟩) := (b6.cell (by simpa using lt5)).trans c2
  have e3 : w6.cell? ⟨w1.heap.size, 3, none⟩ = some (.string ⟨#[]⟩) := (b6.cell (by simpa using lt5)).trans c3
  have r6 := r5.out.keep b6 (by omega)
  obtain ⟨y0, y1, y2, y3, f0, f1, f2, f3⟩ := r6.cells
  have lt6 : w.heap.size < w6.heap.size := by have := b6.size; omega
  have ne6 : w.heap.size ≠ w1.heap.size := by omega
  have B6 := Lib.hid (ext_trans B5.out b6)
  replace row6 := Lib.hid row6
  replace r6 := Lib.hid r6
  clear c0 c1' c2 c3 b6 row5 r5 t5 B5 lt5
  by_cases he : err = 0
  · have he1 : (err != 0) = false := by rw [he]; rfl
    by_cases hto : told = t
    · have ho : (told.toList == t.toList) = true := by rw [hto]; simp
      have hrr : Sp.zero = r := by rw [← hr.out, if_pos (by rw [he, hto])]
      replace hrr := Lib.hid hrr
      replace he := Lib.hid he
      replace hto := Lib.hid hto
      go_wp2_with fail
      exact bodyPost_ret (v := .agg #[.int .i64 0, .string ⟨#[]⟩, .string ⟨#[]⟩, .string ⟨#[]⟩]) (results_cell_row (fn := Tryd.f8) (p := 2) (ty := 23) rfl _ _ w.heap.size 23 _ (0, 0) _ rfl (r6.out.row.set4 _ _ _ _) Tryd.underlying23 rfl (by kernel_rfl)) rfl ⟨by rw [← hrr.out]; rfl, B6.out.trans (below_set4 _ _ _ _)⟩
    · have ho := ne_bytes hto
      have hrr : Sp.zero = r := by rw [← hr.out, if_neg (fun h => hto (congrArg Prod.fst h))]
      replace hrr := Lib.hid hrr
      replace he := Lib.hid he
      replace hto := Lib.hid hto
      go_wp2_with fail
      exact bodyPost_ret (v := .agg #[.int .i64 0, .string ⟨#[]⟩, .string ⟨#[]⟩, .string ⟨#[]⟩]) (results_cell_row (fn := Tryd.f8) (p := 2) (ty := 23) rfl _ _ w.heap.size 23 _ (0, 0) _ rfl (r6.out.row.set4 _ _ _ _) Tryd.underlying23 rfl (by kernel_rfl)) rfl ⟨by rw [← hrr.out]; rfl, B6.out.trans (below_set4 _ _ _ _)⟩
  · have he1 : (err != 0) = true := by unfold bne; rw [show (err == 0) = false from by rw [beq_eq_false_iff_ne]; exact he]; rfl
    have hrr : Sp.zero = r := by rw [← hr.out, if_neg (fun h => he (congrArg Prod.snd h))]
    replace hrr := Lib.hid hrr
    replace he := Lib.hid he
    go_wp2_with fail
    exact bodyPost_ret (v := .agg #[.int .i64 0, .string ⟨#[]⟩, .string ⟨#[]⟩, .string ⟨#[]⟩]) (results_cell_row (fn := Tryd.f8) (p := 2) (ty := 23) rfl _ _ w.heap.size 23 _ (0, 0) _ rfl (r6.out.row.set4 _ _ _ _) Tryd.underlying23 rfl (by kernel_rfl)) rfl ⟨by rw [← hrr.out]; rfl, B6.out.trans (below_set4 _ _ _ _)⟩
set_option maxHeartbeats 4000000 in
set_option maxRecDepth 100000 in
theorem of_len (t : ByteArray) (w : World) (ht : Tabs w) (hs : t.size ≤ 1048576) (hl3 : (spS t).length ≠ 3) (hl4 : (spS t).length ≠ 4) (hl5 : (spS t).length ≠ 5) : Calls Tryd.prog 8 #[.string t] w (OfIs (okB t Sp.zero) w) := by
  have S := Lib.hid fun w => split_any t w hs
  have pz : ∀ x ∈ spS t, x.size ≤ 1048576 := fun x hx => Nat.le_trans (part_size hx) hs
  have b0 := ext_alloc w (.cells #[.int .i64 0, .string ⟨#[]⟩, .string ⟨#[]⟩, .string ⟨#[]⟩] 23)
  have r0 := Zero.new w
  have t0 := ht.keep b0
  have z0 : (w.alloc (.cells #[.int .i64 0, .string ⟨#[]⟩, .string ⟨#[]⟩, .string ⟨#[]⟩] 23)).heap.size = w.heap.size + 1 := by simp
  replace b0 := Lib.hid b0
  replace r0 := Lib.hid r0
  replace t0 := Lib.hid t0
  replace z0 := Lib.hid z0
  clear ht
  have PU := Lib.hid fun w h => put_all 0 ⟨#[]⟩ ⟨#[]⟩ ⟨#[]⟩ w h (by decide) (by decide) (by decide)
  generalize hr : okB t Sp.zero = r
  unfold okB at hr
  unfold Sp.zero at hr
  simp only at hr
  change (if putB 0 ⟨#[]⟩ ⟨#[]⟩ ⟨#[]⟩ = (t, 0) then Sp.zero else Sp.zero) = r at hr
  generalize putB 0 ⟨#[]⟩ ⟨#[]⟩ ⟨#[]⟩ = pr at *
  obtain ⟨told, err⟩ := pr
  replace hr := Lib.hid hr
  replace pz := Lib.hid pz
  have n3 : (((spS t).length : Int) == 3) = false := by rw [beq_eq_false_iff_ne]; omega
  have n4 : (((spS t).length : Int) == 4) = false := by rw [beq_eq_false_iff_ne]; omega
  have n5 : (((spS t).length : Int) == 5) = false := by rw [beq_eq_false_iff_ne]; omega
  have lp := spS_pos t
  have ll := spS_le t
  have ll' : ((spS t).length : Int) ≤ 1048577 := by omega
  go_enter Tryd.func8, Tryd.ntmps8
  go_wp2_with fail
  refine (S.out _).mono ?_
  rintro e w1 ⟨v1, rfl, own1, b1⟩
  obtain ⟨g1, c1, rfl, -, hg1, hcap, hc1⟩ := own_cells own1 (by omega)
  have z1 : w.heap.size + 1 ≤ w1.heap.size := by have := b1.size; rw [z0.out] at this; exact this
  have r1 := r0.out.keep b1 (by rw [z0.out]; omega)
  have t1 := t0.out.keep b1
  have B1 := b0.out.trans (b1.mono (by rw [z0.out]; omega))
  have z1' : 0 < w1.heap.size := by omega
  have z3 : w.heap.size < w1.heap.size := by omega
  have ne1 : g1 ≠ w1.heap.size := by omega
  clear own1 hc1 b1
  replace r1 := Lib.hid r1
  replace t1 := Lib.hid t1
  replace B1 := Lib.hid B1
  have row5 : (w1.alloc (.cells #[.int .i64 0, .string ⟨#[]⟩, .string ⟨#[]⟩, .string ⟨#[]⟩] 23)).heap[w1.heap.size]? = some (.cells #[.int .i64 0, .string ⟨#[]⟩, .string ⟨#[]⟩, .string ⟨#[]⟩] 23 (0, 0)) := heap_alloc_new w1 _
  have k5 : Below w1.heap.size w1 (w1.alloc (.cells #[.int .i64 0, .string ⟨#[]⟩, .string ⟨#[]⟩, .string ⟨#[]⟩] 23)) := ext_alloc w1 _
  have r5 := Lib.hid (r1.out.keep k5 z3)
  have t5 := Lib.hid (t1.out.keep k5)
  have B5 := Lib.hid (B1.out.trans (k5.mono (by omega)))
  have lt5 : w1.heap.size < (w1.alloc (.cells #[.int .i64 0, .string ⟨#[]⟩, .string ⟨#[]⟩, .string ⟨#[]⟩] 23)).heap.size := by simp
  replace row5 := Lib.hid row5
  replace lt5 := Lib.hid lt5
  clear k5 r1 t1 B1 r0 t0 b0 z0
  go_wp2_with fail
  generalize (w1.alloc (.cells #[.int .i64 0, .string ⟨#[]⟩, .string ⟨#[]⟩, .string ⟨#[]⟩] 23)) = w5 at *
  have lt5 := lt5.out
  have c0 : w5.cell? ⟨w1.heap.size, 0, none⟩ = some (.int .i64 0) := cell_of_row w5 w1.heap.size 0 _ 23 (0, 0) row5.out
  have c1' : w5.cell? ⟨w1.heap.size, 1, none⟩ = some (.string ⟨#[]⟩) := cell_of_row w5 w1.heap.size 1 _ 23 (0, 0) row5.out
  have c2 : w5.cell? ⟨w1.heap.size, 2, none⟩ = some (.string ⟨#[]⟩) := cell_of_row w5 w1.heap.size 2 _ 23 (0, 0) row5.out
  have c3 : w5.cell? ⟨w1.heap.size, 3, none⟩ = some (.string ⟨#[]⟩) := cell_of_row w5 w1.heap.size 3 _ 23 (0, 0) row5.out
  refine (PU.out _ t5.out).mono ?_
  rintro e w6 ⟨rfl, b6⟩
  have row6 : w6.heap[w1.heap.size]? = some (.cells #[.int .i64 0, .string ⟨#[]⟩, .string ⟨#[]⟩, .string ⟨#[]⟩] 23 (0, 0)) := by rw [b6.block _ lt5]; exact row5.out
  have e0 : w6.cell? ⟨w1.heap.size, 0, none⟩ = some (.int .i64 0) := (b6.cell (by simpa using lt5)).trans c0
  have e1 : w6.cell? ⟨w1.heap.size, 1, none⟩ = some (.string ⟨#[]⟩) := (b6.cell (by simpa using lt5)).trans c1'
  have e2 : w6.cell? ⟨w1.heap.size, 2, none⟩ = some (.string ⟨#[]⟩) := (b6.cell (by simpa using lt5)).trans c2
  have e3 : w6.cell? ⟨w1.heap.size, 3, none⟩ = some (.string ⟨#[]⟩) := (b6.cell (by simpa using lt5)).trans c3
  have r6 := r5.out.keep b6 (by omega)
  obtain ⟨y0, y1, y2, y3, f0, f1, f2, f3⟩ := r6.cells
  have lt6 : w.heap.size < w6.heap.size := by have := b6.size; omega
  have ne6 : w.heap.size ≠ w1.heap.size := by omega
  have B6 := Lib.hid (ext_trans B5.out b6)
  replace row6 := Lib.hid row6
  replace r6 := Lib.hid r6
  clear c0 c1' c2 c3 b6 row5 r5 t5 B5 lt5
  by_cases he : err = 0
  · have he1 : (err != 0) = false := by rw [he]; rfl
    by_cases hto : told = t
    · have ho : (told.toList == t.toList) = true := by rw [hto]; simp
      have hrr : Sp.zero = r := by rw [← hr.out, if_pos (by rw [he, hto])]
      replace hrr := Lib.hid hrr
      replace he := Lib.hid he
      replace hto := Lib.hid hto
      go_wp2_with fail
      exact bodyPost_ret (v := .agg #[.int .i64 0, .string ⟨#[]⟩, .string ⟨#[]⟩, .string ⟨#[]⟩]) (results_cell_row (fn := Tryd.f8) (p := 2) (ty := 23) rfl _ _ w.heap.size 23 _ (0, 0) _ rfl (r6.out.row.set4 _ _ _ _) Tryd.underlying23 rfl (by kernel_rfl)) rfl ⟨by rw [← hrr.out]; rfl, B6.out.trans (below_set4 _ _ _ _)⟩
    · have ho := ne_bytes hto
      have hrr : Sp.zero = r := by rw [← hr.out, if_neg (fun h => hto (congrArg Prod.fst h))]
      replace hrr := Lib.hid hrr
      replace he := Lib.hid he
      replace hto := Lib.hid hto
      go_wp2_with fail
      exact bodyPost_ret (v := .agg #[.int .i64 0, .string ⟨#[]⟩, .string ⟨#[]⟩, .string ⟨#[]⟩]) (results_cell_row (fn := Tryd.f8) (p := 2) (ty := 23) rfl _ _ w.heap.size 23 _ (0, 0) _ rfl (r6.out.row.set4 _ _ _ _) Tryd.underlying23 rfl (by kernel_rfl)) rfl ⟨by rw [← hrr.out]; rfl, B6.out.trans (below_set4 _ _ _ _)⟩
  · have he1 : (err != 0) = true := by unfold bne; rw [show (err == 0) = false from by rw [beq_eq_false_iff_ne]; exact he]; rfl
    have hrr : Sp.zero = r := by rw [← hr.out, if_neg (fun h => he (congrArg Prod.snd h))]
    replace hrr := Lib.hid hrr
    replace he := Lib.hid he
    go_wp2_with fail
    exact bodyPost_ret (v := .agg #[.int .i64 0, .string ⟨#[]⟩, .string ⟨#[]⟩, .string ⟨#[]⟩]) (results_cell_row (fn := Tryd.f8) (p := 2) (ty := 23) rfl _ _ w.heap.size 23 _ (0, 0) _ rfl (r6.out.row.set4 _ _ _ _) Tryd.underlying23 rfl (by kernel_rfl)) rfl ⟨by rw [← hrr.out]; rfl, B6.out.trans (below_set4 _ _ _ _)⟩
theorem of_any (t : ByteArray) (w : World) (ht : Tabs w) (hs : t.size ≤ 1048576) : Calls Tryd.prog 8 #[.string t] w (OfIs (ofB t) w) := by
  unfold ofB
  by_cases h3 : (spS t).length = 3
  · obtain ⟨x0, x1, x2, hl⟩ : ∃ x0 x1 x2, spS t = [x0, x1, x2] := by
      match spS t, h3 with
      | [x0, x1, x2], _ => exact ⟨x0, x1, x2, rfl⟩
    rw [hl]
    by_cases hx : x1 = state'
    · subst hx
      rw [show candL [x0, state', x2] = ⟨9, ⟨#[]⟩, x2, ⟨#[]⟩⟩ from by show (if state' = state' then (⟨9, ⟨#[]⟩, x2, ⟨#[]⟩⟩ : Sp) else Sp.zero) = _; rw [if_pos rfl]]
      exact of_st t x0 x2 w ht hs hl
    · rw [show candL [x0, x1, x2] = Sp.zero from if_neg hx]
      exact of_no3 t x0 x1 x2 w ht hs hl hx
  by_cases h4 : (spS t).length = 4
  · obtain ⟨x0, x1, x2, x3, hl⟩ : ∃ x0 x1 x2 x3, spS t = [x0, x1, x2, x3] := by
      match spS t, h4 with
      | [x0, x1, x2, x3], _ => exact ⟨x0, x1, x2, x3, rfl⟩
    rw [hl]
    exact of_4 t x0 x1 x2 x3 w ht hs hl
  by_cases h5 : (spS t).length = 5
  · obtain ⟨x0, x1, x2, x3, x4, hl⟩ : ∃ x0 x1 x2 x3 x4, spS t = [x0, x1, x2, x3, x4] := by
      match spS t, h5 with
      | [x0, x1, x2, x3, x4], _ => exact ⟨x0, x1, x2, x3, x4, rfl⟩
    rw [hl]
    exact of_5 t x0 x1 x2 x3 x4 w ht hs hl
  rw [show candL (spS t) = Sp.zero from by
    generalize spS t = l at *
    match l with
    | [] => rfl
    | [_] => rfl
    | [_, _] => rfl
    | [_, _, _] => exact absurd rfl h3
    | [_, _, _, _] => exact absurd rfl h4
    | [_, _, _, _, _] => exact absurd rfl h5
    | _ :: _ :: _ :: _ :: _ :: _ :: _ => rfl]
  exact of_len t w ht hs h3 h4 h5
end Go.Proofs.YtbmelmmefgehoaaDoor
