/-
  LAYER 27: Keep, Get, Len of the store of awake.
-/
import Derived.Test.YtfdaooaooalknaaRb
import Derived.Deep.RegionHeld3
namespace Go.Proofs.Ytfdaooaooalknaa
set_option linter.unusedSimpArgs false
set_option linter.unusedVariables false
open Go.RowKit Go.Maps Go.WideMaps

theorem ascA : Asc tA := by unfold Asc; decide
theorem n_a : nameB tA = true := by decide +kernel
theorem nam_a (w : World) : Calls Try.prog 18 #[.string tA] w (Ret (.bool true) w) := by
  have := name_any tA w (by decide) (fun _ => ca_asc tA ascA (by decide))
  rw [n_a] at this
  exact this
def MsgAt (w : World) (b : Nat) (t x : ByteArray) (q : Int) (r : Bool) : Prop := w.heap[b]? = some (.cells #[.string t, .string x, .int .i64 q, .bool r] 33 (0, 0))
theorem MsgAt.keep {w w' : World} {b B : Nat} {t x : ByteArray} {q : Int} {r : Bool} (h : MsgAt w b t x q r) (hb : Below B w w') (hB : b < B) : MsgAt w' b t x q r := by
  unfold MsgAt; rw [hb.block _ hB]; exact h
theorem MsgAt.cells {w : World} {b : Nat} {t x : ByteArray} {q : Int} {r : Bool} (h : MsgAt w b t x q r) : w.cell? ⟨b, 0, none⟩ = some (.string t) ∧ w.cell? ⟨b, 1, none⟩ = some (.string x) ∧ w.cell? ⟨b, 2, none⟩ = some (.int .i64 q) ∧ w.cell? ⟨b, 3, none⟩ = some (.bool r) ∧ w.frozen? ⟨b, 3, none⟩ = false :=
  ⟨cell_of_row w b 0 _ 33 (0, 0) h, cell_of_row w b 1 _ 33 (0, 0) h, cell_of_row w b 2 _ 33 (0, 0) h, cell_of_row w b 3 _ 33 (0, 0) h, frozen_of_row w b 3 _ 33 h⟩
theorem MsgAt.set3 {w : World} {b : Nat} {t x : ByteArray} {q : Int} {r : Bool} (h : MsgAt w b t x q r) (r' : Bool) : MsgAt (w.setCell ⟨b, 3, none⟩ (.bool r')) b t x q r' := heap_setCell_same w b 3 _ 33 _ h
set_option maxHeartbeats 4000000 in
set_option maxRecDepth 100000 in
theorem keep_1 (w : World) (p g B n : Nat) (h : St w p g n D0) (hp : B ≤ p) (hg : B ≤ g) (hn : n ≤ 4) : Calls Try.prog 6 #[.pointer (some ⟨p, 0, none⟩), .agg #[.string tA, .string tX, .int .i64 0, .bool false]] w fun e w' => e = .returned (.tuple #[.bool false, .int .i64 0]) ∧ St w' p g (n + 1) D1 ∧ Below B w w' ∧ ∃ w4, Below w.heap.size w w4 ∧ w4.grownBy w' (some g) := by
  have lp := h.lt.1
  have lg := h.lt.2
  have k0 := ext_alloc w (.cells #[.string tA, .string tX, .int .i64 0, .bool false] 33)
  have st0 := h.keep k0
  have m0 : MsgAt (w.alloc (.cells #[.string tA, .string tX, .int .i64 0, .bool false] 33)) w.heap.size tA tX 0 false := heap_alloc_new w _
  have NO := Lib.hid (none_ok _ p g st0.cell)
  replace k0 := Lib.hid k0
  replace m0 := Lib.hid m0
  replace st0 := Lib.hid st0
  have z0 : (w.alloc (.cells #[.string tA, .string tX, .int .i64 0, .bool false] 33)).heap.size = w.heap.size + 1 := by simp
  replace z0 := Lib.hid z0
  replace h := Lib.hid h
  go_enter Try.func6, Try.ntmps6
  go_wp2_with fail
  refine NO.out.mono ?_
  rintro e w1 ⟨rfl, rfl⟩
  obtain ⟨c0, c1, c2, c3, f3⟩ := m0.out.cells
  go_wp2_with fail
  refine (nam_a _).mono ?_
  rintro e w1 ⟨rfl, b1⟩
  have st1 := st0.out.keep b1
  have m1 := m0.out.keep b1 (by rw [z0.out]; omega)
  have lw : w.heap.size < w1.heap.size := by have := b1.size; rw [z0.out] at this; omega
  have b1' := Lib.hid (ext_trans k0.out b1)
  clear c0 c1 c2 c3 f3 b1 st0 m0 k0 NO z0
  obtain ⟨c0, c1, c2, c3, f3⟩ := m1.cells
  have e0 := st1.cell
  replace st1 := Lib.hid st1
  replace m1 := Lib.hid m1
  go_wp2_with fail
  have KO := Lib.hid (fun W (hb : Below w1.heap.size w1 W) => (show W.cell? ⟨p, 0, none⟩ = some (.map (some g)) ∧ W.cell? ⟨w.heap.size, 0, none⟩ = some (.string tA) ∧ (Instr.lookup 46 (.map (some g)) (.string tA) true).run Try.prog W = .ok (.tuple #[zM, .bool false]) W ∧ Below w1.heap.size w1 W from ⟨(st1.out.keep hb).cell, (m1.out.keep hb lw).cells.1, look (st1.out.keep hb).own (fun u ps hu => r_inv0 (by exact hu)) h0, hb⟩))
  go_region_held3 (fun W => W.cell? ⟨p, 0, none⟩ = some (.map (some g)) ∧ W.cell? ⟨w.heap.size, 0, none⟩ = some (.string tA) ∧ (Instr.lookup 46 (.map (some g)) (.string tA) true).run Try.prog W = .ok (.tuple #[zM, .bool false]) W ∧ Below w1.heap.size w1 W)
    (exact KO.out _ (by repeat (first | exact Below.refl _ _ | refine Below.drew ?_ | refine Below.alloc ?_ (by simp) _ | refine Below.setCell ?_ (by simp) _)))
    (fail)
  all_goals
    rename_i hH
    have b2 := hH.2.2.2
    clear hH
    first
      | generalize (w1.alloc (.cells #[.string ⟨#[]⟩, .string ⟨#[]⟩, .int .i64 0, .bool false] 33)).drew = w2 at *
      | generalize (w1.drew.alloc (.cells #[.string ⟨#[]⟩, .string ⟨#[]⟩, .int .i64 0, .bool false] 33)) = w2 at *
    have st2 := st1.out.keep b2
    have m2 := m1.out.keep b2 lw
    have B2 := Lib.hid (ext_trans b1'.out b2)
    have lw2 : w.heap.size < w2.heap.size := by have := b2.size; omega
    clear c0 c1 c2 c3 f3 e0 b2 KO st1 m1 b1'
    obtain ⟨c0, c1, c2, c3, f3⟩ := m2.cells
    have e0 := st2.cell
    have ow := Lib.hid st2.own
    replace st2 := Lib.hid st2
    replace m2 := Lib.hid m2
    have hlen := st2.out.own.len Try.underlying46 3
    rw [s0] at hlen
    have k3 : Below w.heap.size w2 (w2.setCell ⟨w.heap.size, 3, none⟩ (.bool true)) := (Below.refl w.heap.size w2).setCell (p := ⟨w.heap.size, 3, none⟩) (Nat.le_refl _) _
    have st3 := Lib.hid (st2.out.keepB k3 lp lg)
    have m3 := Lib.hid (m2.out.set3 true)
    have B3 := Lib.hid (B2.out.trans k3)
    have lw3 : w.heap.size < (w2.setCell ⟨w.heap.size, 3, none⟩ (.bool true)).heap.size := by have := k3.size; omega
    clear k3
    go_wp2_with fail
    clear c0 c1 c2 c3 f3 e0 hlen ow B2 st2 m2 lw2
    generalize w2.setCell ⟨w.heap.size, 3, none⟩ (.bool true) = w3 at *
    obtain ⟨c0, c1, c2, c3, f3⟩ := m3.out.cells
    have e0 := st3.out.cell
    go_still_tail 7, (by kernel_rfl)
    repeat still_step
    try refine wpStill_nil ?_
    have st4 : St w3.drew p g n D0 := st3.out.keep (ext_drew w3)
    have B4 := Lib.hid (B3.out.drew)
    change wpList _ _ _ _ _ w3.drew
    generalize w3.drew = w4 at *
    have lt4 := st4.lt
    go_wp2_with (at_mapUpdate; go_must (refine wpList_mapUpdate_own _ rfl _ _ _ 46 rfl 9 33 law9 Try.underlying46 _ g n D0 rfl st4.own (by unfold maxLen; omega) _ _ _ rfl rfl key_a (.lit (.bool true)) [] r_v ?_); intro w5 own5 gr5)
    go_ret2
    exact ⟨rfl, st4.turned gr5 own5, (B4.out.mono (by omega)).trans (below_turned gr5 hg (by omega)), w4, B4.out, gr5⟩
set_option maxHeartbeats 4000000 in
set_option maxRecDepth 100000 in
theorem keep_2 (w : World) (p g B n : Nat) (h : St w p g n D1) (hp : B ≤ p) (hg : B ≤ g) (hn : n ≤ 4) : Calls Try.prog 6 #[.pointer (some ⟨p, 0, none⟩), .agg #[.string tA, .string ⟨#[]⟩, .int .i64 0, .bool false]] w fun e w' => e = .returned (.tuple #[.bool true, .int .i64 0]) ∧ St w' p g n D2 ∧ Below B w w' ∧ ∃ w4, Below w.heap.size w w4 ∧ w4.grownBy w' (some g) := by
  have lp := h.lt.1
  have lg := h.lt.2
  have k0 := ext_alloc w (.cells #[.string tA, .string ⟨#[]⟩, .int .i64 0, .bool false] 33)
  have st0 := h.keep k0
  have m0 : MsgAt (w.alloc (.cells #[.string tA, .string ⟨#[]⟩, .int .i64 0, .bool false] 33)) w.heap.size tA ⟨#[]⟩ 0 false := heap_alloc_new w _
  have NO := Lib.hid (none_ok _ p g st0.cell)
  replace k0 := Lib.hid k0
  replace m0 := Lib.hid m0
  replace st0 := Lib.hid st0
  have z0 : (w.alloc (.cells #[.string tA, .string ⟨#[]⟩, .int .i64 0, .bool false] 33)).heap.size = w.heap.size + 1 := by simp
  replace z0 := Lib.hid z0
  replace h := Lib.hid h
  go_enter Try.func6, Try.ntmps6
  go_wp2_with fail
  refine NO.out.mono ?_
  rintro e w1 ⟨rfl, rfl⟩
  obtain ⟨c0, c1, c2, c3, f3⟩ := m0.out.cells
  go_wp2_with fail
  refine (nam_a _).mono ?_
  rintro e w1 ⟨rfl, b1⟩
  have st1 := st0.out.keep b1
  have m1 := m0.out.keep b1 (by rw [z0.out]; omega)
  have lw : w.heap.size < w1.heap.size := by have := b1.size; rw [z0.out] at this; omega
  have b1' := Lib.hid (ext_trans k0.out b1)
  clear c0 c1 c2 c3 f3 b1 st0 m0 k0 NO z0
  obtain ⟨c0, c1, c2, c3, f3⟩ := m1.cells
  have e0 := st1.cell
  replace st1 := Lib.hid st1
  replace m1 := Lib.hid m1
  go_wp2_with fail
  have KO := Lib.hid (fun W (hb : Below w1.heap.size w1 W) => (show W.cell? ⟨p, 0, none⟩ = some (.map (some g)) ∧ W.cell? ⟨w.heap.size, 0, none⟩ = some (.string tA) ∧ (Instr.lookup 46 (.map (some g)) (.string tA) true).run Try.prog W = .ok (.tuple #[vM, .bool true]) W ∧ Below w1.heap.size w1 W from ⟨(st1.out.keep hb).cell, (m1.out.keep hb lw).cells.1, look (st1.out.keep hb).own (fun u ps hu => r_inv (by exact hu)) h1, hb⟩))
  go_region_held3 (fun W => W.cell? ⟨p, 0, none⟩ = some (.map (some g)) ∧ W.cell? ⟨w.heap.size, 0, none⟩ = some (.string tA) ∧ (Instr.lookup 46 (.map (some g)) (.string tA) true).run Try.prog W = .ok (.tuple #[vM, .bool true]) W ∧ Below w1.heap.size w1 W)
    (exact KO.out _ (by repeat (first | exact Below.refl _ _ | refine Below.drew ?_ | refine Below.alloc ?_ (by simp) _ | refine Below.setCell ?_ (by simp) _)))
    (fail)
  all_goals
    rename_i hH
    have b2 := hH.2.2.2
    clear hH
    first
      | generalize (w1.alloc (.cells #[.string tA, .string tX, .int .i64 0, .bool true] 33)).drew = w2 at *
      | generalize (w1.drew.alloc (.cells #[.string tA, .string tX, .int .i64 0, .bool true] 33)) = w2 at *
    have st2 := st1.out.keep b2
    have m2 := m1.out.keep b2 lw
    have B2 := Lib.hid (ext_trans b1'.out b2)
    have lw2 : w.heap.size < w2.heap.size := by have := b2.size; omega
    clear c0 c1 c2 c3 f3 e0 b2 KO st1 m1 b1'
    obtain ⟨c0, c1, c2, c3, f3⟩ := m2.cells
    have e0 := st2.cell
    have ow := Lib.hid st2.own
    replace st2 := Lib.hid st2
    replace m2 := Lib.hid m2
    go_wp2_with fail
    go_still_tail 6, (by kernel_rfl)
    repeat still_step
    try refine wpStill_nil ?_
    have st4 : St w2.drew p g n D1 := st2.out.keep (ext_drew w2)
    have B4 := Lib.hid (B2.out.drew)
    change wpList _ _ _ _ _ w2.drew
    clear c0 c1 c2 c3 f3 e0 ow B2 st2 m2
    generalize w2.drew = w4 at *
    have lt4 := st4.lt
    go_wp2_with (at_delete; go_must (refine wpList_delete_own _ rfl _ _ 46 9 rfl 33 law9 Try.underlying46 _ g n D1 rfl st4.own _ _ rfl key_a ?_); intro w5 own5 gr5)
    go_ret2
    exact ⟨rfl, st4.turned gr5.grown own5, (B4.out.mono (by omega)).trans (below_turned gr5.grown hg (by omega)), w4, B4.out, gr5.grown⟩
set_option maxHeartbeats 2000000 in
set_option maxRecDepth 100000 in
theorem get_1 (w : World) (p g n : Nat) (h : St w p g n D1) : Calls Try.prog 9 #[.pointer (some ⟨p, 0, none⟩), .string tA] w (Ret (.tuple #[vM, .bool true]) w) := by
  have st0 := h.keep (ext_alloc w (.cells #[.string ⟨#[]⟩, .string ⟨#[]⟩, .int .i64 0, .bool false] 33))
  have NO := Lib.hid (none_ok _ p g st0.cell)
  have c0 := h.cell
  have lp := h.lt.1
  have lp' : p ≠ w.heap.size := by omega
  have hl := look st0.own (v := vM) (fun u ps hu => r_inv (by exact hu)) h1
  replace h := Lib.hid h
  replace st0 := Lib.hid st0
  go_enter Try.func9, Try.ntmps9
  go_wp2_with fail
  refine NO.out.mono ?_
  rintro e w1 ⟨rfl, rfl⟩
  go_wp2_with fail
  exact bodyPost_ret (v := .tuple #[vM, .bool true]) (by simp [results, Try.results9, go_sem]) rfl ⟨rfl, by repeat (first | exact ext_alloc _ _ | refine Below.alloc ?_ (by simp) _ | refine Below.setCell ?_ (by simp) _)⟩
theorem len_2 (w : World) (p g n : Nat) (h : St w p g n D2) : Calls Try.prog 8 #[.pointer (some ⟨p, 0, none⟩)] w (Ret (.int .i64 0) w) := by
  have NO := Lib.hid (none_ok w p g h.cell)
  have c0 := h.cell
  have hlen := h.own.len Try.underlying46 3
  rw [s2] at hlen
  replace h := Lib.hid h
  go_enter Try.func8, Try.ntmps8
  go_wp2_with fail
  refine NO.out.mono ?_
  rintro e w1 ⟨rfl, rfl⟩
  go_wp2_with fail
  go_ret
  exact ⟨rfl, Below.refl _ _⟩
theorem new_any (w : World) : Calls Try.prog 5 #[] w fun e w' => e = .returned (.pointer (some ⟨w.heap.size + 1, 0, none⟩)) ∧ w' = (w.alloc (.map #[] 0)).alloc (.cells #[.map (some w.heap.size)] 48) := by
  have hmm := @run_makeMap Try.prog
  go_enter Try.func5, Try.ntmps5
  go_wp2_with fail
  go_ret
  exact ⟨by simp, rfl⟩
theorem new_st (w : World) : St ((w.alloc (.map #[] 0)).alloc (.cells #[.map (some w.heap.size)] 48)) (w.heap.size + 1) w.heap.size 0 D0 := by
  refine ⟨?_, ?_, by omega⟩
  · have := heap_alloc_new (w.alloc (.map #[] 0)) (.cells #[.map (some w.heap.size)] 48)
    rw [cell_of_row _ (w.heap.size + 1) 0 #[.map (some w.heap.size)] 48 (0, 0) (by simpa using this)]; rfl
  · have h0 : (w.alloc (.map #[] 0)).ownsMap Try.prog 9 R w.heap.size 0 D0 := World.ownsMap_made _ _ _ _
    exact h0.alloc _
set_option maxHeartbeats 2000000 in
set_option maxRecDepth 100000 in
theorem awake_any (w : World) : Calls Try.prog 15 #[] w (Ret (.bool true) w) := by
  have k1 : Below w.heap.size w ((w.alloc (.map #[] 0)).alloc (.cells #[.map (some w.heap.size)] 48)) := (ext_alloc w _).alloc (by simp) _
  have st1 := Lib.hid (new_st w)
  replace k1 := Lib.hid k1
  go_enter Try.func15, Try.ntmps15
  go_wp2_with fail
  refine (new_any _).mono ?_
  rintro e w1 ⟨rfl, rfl⟩
  generalize (w.alloc (.map #[] 0)).alloc (.cells #[.map (some w.heap.size)] 48) = w1 at *
  go_wp2_with fail
  refine (keep_1 _ _ _ w.heap.size 0 st1.out (by omega) (by omega) (by omega)).mono ?_
  rintro e w2 ⟨rfl, st2, b2, -⟩
  have k2 := Lib.hid (k1.out.trans b2)
  have st2 := Lib.hid st2
  clear b2 st1 k1
  go_wp2_with fail
  refine (get_1 _ _ _ _ st2.out).mono ?_
  rintro e w3 ⟨rfl, b3⟩
  have st3 := st2.out.keep b3
  have z3 : w.heap.size ≤ w3.heap.size := by have := k2.out.size; have := b3.size; omega
  have k3 := k2.out.trans (b3.mono k2.out.size)
  have k4 := Lib.hid (k3.trans ((ext_alloc w3 (.cells #[.string tA, .string tX, .int .i64 0, .bool true] 33)).mono z3))
  have st4 := Lib.hid (st3.keep (ext_alloc w3 (.cells #[.string tA, .string tX, .int .i64 0, .bool true] 33)))
  have m4 : MsgAt (w3.alloc (.cells #[.string tA, .string tX, .int .i64 0, .bool true] 33)) w3.heap.size tA tX 0 true := heap_alloc_new w3 _
  have l3 : w.heap.size < w3.heap.size := by have := st3.lt.2; omega
  replace m4 := Lib.hid m4
  clear st2 b3 st3 k3 k2
  go_wp2_with fail
  refine (keep_2 _ _ _ w.heap.size _ st4.out (by omega) (by omega) (by omega)).mono ?_
  rintro e w5 ⟨rfl, st5, b5, w6, b6, gr6⟩
  have m6 := m4.out.keep b6 (by simp)
  have m5 : MsgAt w5 w3.heap.size tA tX 0 true := by
    unfold MsgAt
    rw [gr6.block w3.heap.size (by have := b6.size; simp at this; omega) (by simp; omega)]
    exact m6
  obtain ⟨c0, c1, c2, c3, -⟩ := m5.cells
  have k5 := Lib.hid (k4.out.trans b5)
  have L := Lib.hid (len_2 _ _ _ _ st5)
  clear st5 b5 b6 gr6 m6 m5 m4 st4 k4
  go_wp2_with fail
  refine L.out.mono ?_
  rintro e w7 ⟨rfl, b7⟩
  go_wp2_with fail
  go_ret
  exact ⟨rfl, ext_trans k5.out b7⟩
end Go.Proofs.Ytfdaooaooalknaa
