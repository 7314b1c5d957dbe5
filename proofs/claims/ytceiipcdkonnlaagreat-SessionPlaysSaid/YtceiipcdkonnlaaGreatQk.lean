/-
  LAYER 22: the document's Take.
-/
import Derived.Test.YtceiipcdkonnlaaGreatQj
namespace Go.Proofs.YtceiipcdkonnlaaGreat.Quu
open Go.RowKit Que
set_option linter.unusedSimpArgs false
set_option linter.unusedVariables false
section
variable {w w' : World} {B g : Nat} {v : Value} {l : List Mg} {most lost : Int}
set_option maxHeartbeats 2000000 in
set_option maxRecDepth 100000 in
theorem xtake_no (h : Xq B w g v [] most lost) :
    Calls Tryz.prog 67 #[.pointer (some ⟨g, 0, none⟩)] w fun e w' => e = .returned (.tuple #[.agg #[.string { data := #[] }, .string { data := #[] }, .int .i64 0, .bool false], .bool false]) ∧ Below w.heap.size w w' := by
  obtain ⟨va, vc, rfl⟩ := own_slice h.its
  have c0 := h.c0
  simp only [List.length_nil] at c0
  have hlt := h.lt
  clear h
  go_enter Tryz.func67, Tryz.ntmps67
  go_wp2_with fail
  refine bodyPost_ret (v := .tuple #[.agg #[.string { data := #[] }, .string { data := #[] }, .int .i64 0, .bool false], .bool false]) (by simp [results, Tryz.results67, go_sem]) rfl ⟨rfl, ?_⟩
  exact ext_alloc _ _
theorem tail_at {gv c : Nat} {m : Mg} (o : w.ownsRow B 33 4 (.slice (some ⟨gv, 0, none⟩) (l.length + 1) c) (l.length + 1) (msAtC (m :: l))) (hl : l.length ≤ 1000) (d : Nat) : MsAt w (.slice (some ⟨gv, 4, none⟩) l.length d) l := by
  refine ⟨some ⟨gv, 4, none⟩, d, rfl, by omega, .inr ⟨gv, 4, rfl, (o.lt gv rfl).2, fun i f hi j u hu => ?_⟩⟩
  have hj : j < 4 := (List.getElem?_eq_some_iff.1 hu).1
  have e := msAtC_get (m :: l) (i + 1) f (by simpa using hi) j hj
  rw [show 4 + i * 4 + j = (i + 1) * 4 + j by omega]
  exact own_get o (e.trans hu)
theorem xtake_end {w2 W : World} {m : Mg} {v2 : Value} (h : Xq B w g v (m :: l) most lost) (hB : B ≤ w.heap.size) (o2 : w2.ownsRow (w.heap.size + 2) 33 4 v2 l.length (msAtC l)) (hb : Below w.heap.size w w2) (hl : w.heap.size < w2.heap.size) (G2 : (w2.setCell ⟨g, 0, none⟩ v2).grownBy W (some w.heap.size)) : ∃ v', XNew B w W g v l most lost v' := by
  have R2 := (hb.block g h.lt).trans h.row
  have G : w2.grownBy (w2.setCell ⟨g, 0, none⟩ v2) (some g) := set_grownX
  have hg := h.lt
  have X : Xq B (w2.setCell ⟨g, 0, none⟩ v2) g v2 l most lost := ⟨by simpa using setX R2 (j := 0) v2, own_base (own_grown o2 R2 (by decide) G) (by omega)⟩
  have F : Far (fun k => k = w.heap.size) (w2.setCell ⟨g, 0, none⟩ v2) W := Far.of_grown G2 (fun k _ e => by simpa using e.symm)
  refine ⟨v2, X.far F (by omega) (fun k hk => by have := (o2.lt k hk).1; omega), ?_, fun k hk => .inr (by have := (o2.lt k hk).1; omega)⟩
  exact ((Far.of_ext hb).trans (Far.of_grown (S := SX g v) G (fun k _ e => .inl (by simpa using e.symm))) (fun k _ h => h)).trans F (fun k hk e => by omega)
theorem set4 (w : World) (k : Nat) (a b c d : Value) : w.grownBy ((((w.setCell ⟨k, 0, none⟩ a).setCell ⟨k, 1, none⟩ b).setCell ⟨k, 2, none⟩ c).setCell ⟨k, 3, none⟩ d) (some k) :=
  grown_trans (grown_trans (grown_trans set_grownX set_grownX) set_grownX) set_grownX
set_option maxHeartbeats 4000000 in
set_option maxRecDepth 100000 in
theorem xtake_yes {m : Mg} (h : Xq B w g v (m :: l) most lost) (hl : l.length ≤ 1000) (hB : B ≤ w.heap.size) :
    Calls Tryz.prog 67 #[.pointer (some ⟨g, 0, none⟩)] w fun e w' => e = .returned (.tuple #[.agg #[.string m.a0, .string m.a1, .int .i64 m.a2, .bool m.a3], .bool true]) ∧ ∃ v', XNew B w w' g v l most lost v' := by
  have c0 := h.c0
  have hlt := h.lt
  have f0 := h.fz 0
  have o := h.its
  obtain ⟨gv, cv, rfl⟩ := own_slice' o (by simp)
  simp only [List.length_cons] at o c0
  have e0 : w.cell? ⟨gv, 0, none⟩ = some (.string m.a0) := own_get o (by simp [msAtC, Mg.cells])
  have e1 : w.cell? ⟨gv, 1, none⟩ = some (.string m.a1) := own_get o (by simp [msAtC, Mg.cells])
  have e2 : w.cell? ⟨gv, 2, none⟩ = some (.int .i64 m.a2) := own_get o (by simp [msAtC, Mg.cells])
  have e3 : w.cell? ⟨gv, 3, none⟩ = some (.bool m.a3) := own_get o (by simp [msAtC, Mg.cells])
  have hcv : l.length + 1 ≤ cv := by
    rcases o.2 with ⟨h, -⟩ | ⟨g', cap, cur, hv, _, _, hnc, _⟩
    · cases h
    · simp only [Value.slice.injEq] at hv
      omega
  have hgv := (o.lt gv rfl).2
  have hlt1 : g < w.heap.size + 1 := by omega
  have hlt2 : g < w.heap.size + 1 + 1 := by omega
  have H := Lib.hid h
  have O := Lib.hid o
  by_cases hc1 : cv = 1
  · obtain rfl : l = [] := List.eq_nil_of_length_eq_zero (by omega)
    subst hc1
    clear h o
    have b3 : Below w.heap.size w (((w.alloc (.cells #[.string { data := #[] }, .string { data := #[] }, .int .i64 0, .bool false] 33)).alloc (.cells #[.string m.a0, .string m.a1, .int .i64 m.a2, .bool m.a3] 33)).alloc (.cells #[] 33)) := (ext_two w _ _).alloc (by simp; omega) _
    have oL : Hid ((((w.alloc (.cells #[.string { data := #[] }, .string { data := #[] }, .int .i64 0, .bool false] 33)).alloc (.cells #[.string m.a0, .string m.a1, .int .i64 m.a2, .bool m.a3] 33)).alloc (.cells #[] 33)).ownsRow (w.heap.size + 2) 33 4 (.slice (some ⟨w.heap.size + 2, 0, none⟩) 0 0) 0 []) := Lib.hid (by
      have := World.ownsRow_lit (base := w.heap.size + 2) (e := 33) (size := 4) ((w.alloc (.cells #[.string { data := #[] }, .string { data := #[] }, .int .i64 0, .bool false] 33)).alloc (.cells #[.string m.a0, .string m.a1, .int .i64 m.a2, .bool m.a3] 33)) #[] 0 (by simp) (by unfold maxLen; omega) rfl
      simpa only [World.size_alloc, Nat.add_assoc, Nat.reduceAdd] using this)
    have MS : Hid (MsAt (((w.alloc (.cells #[.string { data := #[] }, .string { data := #[] }, .int .i64 0, .bool false] 33)).alloc (.cells #[.string m.a0, .string m.a1, .int .i64 m.a2, .bool m.a3] 33)).alloc (.cells #[] 33)) (.slice (some ⟨gv, 0, none⟩) 0 0) []) := Lib.hid (⟨some ⟨gv, 0, none⟩, 0, rfl, by simp, .inl rfl⟩)
    have r1 : (((w.alloc (.cells #[.string { data := #[] }, .string { data := #[] }, .int .i64 0, .bool false] 33)).alloc (.cells #[.string m.a0, .string m.a1, .int .i64 m.a2, .bool m.a3] 33)).alloc (.cells #[] 33)).heap[w.heap.size + 1]? = some (.cells #[.string m.a0, .string m.a1, .int .i64 m.a2, .bool m.a3] 33 (0, 0)) := by
      rw [heap_alloc_old _ _ (by simp)]
      have := heap_alloc_new (w.alloc (.cells #[.string { data := #[] }, .string { data := #[] }, .int .i64 0, .bool false] 33)) (.cells #[.string m.a0, .string m.a1, .int .i64 m.a2, .bool m.a3] 33)
      simpa only [World.size_alloc] using this
    have hz3 : (((w.alloc (.cells #[.string { data := #[] }, .string { data := #[] }, .int .i64 0, .bool false] 33)).alloc (.cells #[.string m.a0, .string m.a1, .int .i64 m.a2, .bool m.a3] 33)).alloc (.cells #[] 33)).heap.size = w.heap.size + 3 := by simp
    have r0 := (heap_alloc_old ((w.alloc (.cells #[.string { data := #[] }, .string { data := #[] }, .int .i64 0, .bool false] 33)).alloc (.cells #[.string m.a0, .string m.a1, .int .i64 m.a2, .bool m.a3] 33)) (.cells #[] 33) (c := w.heap.size) (by simp; omega)).trans ((heap_alloc_old (w.alloc (.cells #[.string { data := #[] }, .string { data := #[] }, .int .i64 0, .bool false] 33)) (.cells #[.string m.a0, .string m.a1, .int .i64 m.a2, .bool m.a3] 33) (c := w.heap.size) (by simp)).trans (heap_alloc_new w (.cells #[.string { data := #[] }, .string { data := #[] }, .int .i64 0, .bool false] 33)))
    replace r0 := Lib.hid r0
    replace b3 := Lib.hid b3
    replace r1 := Lib.hid r1
    replace hz3 := Lib.hid hz3
    go_enter Tryz.func67, Tryz.ntmps67
    go_wp2_with (first
      | (at_builtin; go_must (refine wpList_append_ms _ rfl (.tmp 19) (.tmp 24) rfl (w.heap.size + 2) _ 0 [] [] rfl oL.out MS.out (by simp) (by simp <;> omega) ?_; intro v2 w2 o2 g2; obtain ⟨a2, c2, rfl⟩ := own_slice o2; have b2 := (b3.out.grown g2 (by rw [hz3.out]; omega) (fun k hk => Nat.le_trans (by omega) (oL.out.lt k hk).1)); have q0 := (b2.cell (p := ⟨g, 0, none⟩) hlt).trans c0; have q1 := (b2.frozen (p := ⟨g, 0, none⟩) hlt).trans f0; have rb := (g2.block (w.heap.size + 1) (by rw [hz3.out]; omega) (fun e => by have := (oL.out.lt _ e.symm).1; omega)).trans r1.out; have k0 : w2.cell? ⟨w.heap.size + 1, 0, none⟩ = some (.string m.a0) := cell_of_row w2 _ 0 _ 33 (0, 0) rb; have k1 : w2.cell? ⟨w.heap.size + 1, 1, none⟩ = some (.string m.a1) := cell_of_row w2 _ 1 _ 33 (0, 0) rb; have k2 : w2.cell? ⟨w.heap.size + 1, 2, none⟩ = some (.int .i64 m.a2) := cell_of_row w2 _ 2 _ 33 (0, 0) rb; have k3 : w2.cell? ⟨w.heap.size + 1, 3, none⟩ = some (.bool m.a3) := cell_of_row w2 _ 3 _ 33 (0, 0) rb; have rz := (g2.block w.heap.size (by rw [hz3.out]; omega) (fun e => by have := (oL.out.lt _ e.symm).1; omega)).trans r0.out; have p0 : w2.cell? ⟨w.heap.size, 0, none⟩ = some (.string { data := #[] }) := cell_of_row w2 _ 0 _ 33 (0, 0) rz; have p1 : w2.cell? ⟨w.heap.size, 1, none⟩ = some (.string { data := #[] }) := cell_of_row w2 _ 1 _ 33 (0, 0) rz; have p2 : w2.cell? ⟨w.heap.size, 2, none⟩ = some (.int .i64 0) := cell_of_row w2 _ 2 _ 33 (0, 0) rz; have p3 : w2.cell? ⟨w.heap.size, 3, none⟩ = some (.bool false) := cell_of_row w2 _ 3 _ 33 (0, 0) rz; have z0 := frozen_of_row w2 w.heap.size 0 _ 33 rz; have z1 := frozen_of_row w2 w.heap.size 1 _ 33 rz; have z2 := frozen_of_row w2 w.heap.size 2 _ 33 rz; have z3 := frozen_of_row w2 w.heap.size 3 _ 33 rz; have hsz2 := (Array.getElem?_eq_some_iff.1 rz).1; clear rz; replace o2 := Lib.hid o2; replace b2 := Lib.hid b2; clear g2 rb)))
    refine bodyPost_ret (v := .tuple #[.agg #[.string m.a0, .string m.a1, .int .i64 m.a2, .bool m.a3], .bool true]) (by simp [results, Tryz.results67, go_sem, p0, p1, p2, p3, hsz2, hlt]) rfl ⟨rfl, xtake_end H.out hB (by simpa using o2.out) b2.out hsz2 (set4 _ _ _ _ _ _)⟩
  · have hl' : (l.length : Int) ≤ 1000 := by omega
    clear h o
    have b3 : Below w.heap.size w (((w.alloc (.cells #[.string { data := #[] }, .string { data := #[] }, .int .i64 0, .bool false] 33)).alloc (.cells #[.string m.a0, .string m.a1, .int .i64 m.a2, .bool m.a3] 33)).alloc (.cells #[] 33)) := (ext_two w _ _).alloc (by simp; omega) _
    have oL : Hid ((((w.alloc (.cells #[.string { data := #[] }, .string { data := #[] }, .int .i64 0, .bool false] 33)).alloc (.cells #[.string m.a0, .string m.a1, .int .i64 m.a2, .bool m.a3] 33)).alloc (.cells #[] 33)).ownsRow (w.heap.size + 2) 33 4 (.slice (some ⟨w.heap.size + 2, 0, none⟩) 0 0) 0 []) := Lib.hid (by
      have := World.ownsRow_lit (base := w.heap.size + 2) (e := 33) (size := 4) ((w.alloc (.cells #[.string { data := #[] }, .string { data := #[] }, .int .i64 0, .bool false] 33)).alloc (.cells #[.string m.a0, .string m.a1, .int .i64 m.a2, .bool m.a3] 33)) #[] 0 (by simp) (by unfold maxLen; omega) rfl
      simpa only [World.size_alloc, Nat.add_assoc, Nat.reduceAdd] using this)
    have MS : Hid (MsAt (((w.alloc (.cells #[.string { data := #[] }, .string { data := #[] }, .int .i64 0, .bool false] 33)).alloc (.cells #[.string m.a0, .string m.a1, .int .i64 m.a2, .bool m.a3] 33)).alloc (.cells #[] 33)) (.slice (some ⟨gv, 4, none⟩) l.length (cv - 1)) l) := Lib.hid ((tail_at O.out hl (cv - 1)).keep b3 (Nat.le_refl _))
    have r1 : (((w.alloc (.cells #[.string { data := #[] }, .string { data := #[] }, .int .i64 0, .bool false] 33)).alloc (.cells #[.string m.a0, .string m.a1, .int .i64 m.a2, .bool m.a3] 33)).alloc (.cells #[] 33)).heap[w.heap.size + 1]? = some (.cells #[.string m.a0, .string m.a1, .int .i64 m.a2, .bool m.a3] 33 (0, 0)) := by
      rw [heap_alloc_old _ _ (by simp)]
      have := heap_alloc_new (w.alloc (.cells #[.string { data := #[] }, .string { data := #[] }, .int .i64 0, .bool false] 33)) (.cells #[.string m.a0, .string m.a1, .int .i64 m.a2, .bool m.a3] 33)
      simpa only [World.size_alloc] using this
    have hz3 : (((w.alloc (.cells #[.string { data := #[] }, .string { data := #[] }, .int .i64 0, .bool false] 33)).alloc (.cells #[.string m.a0, .string m.a1, .int .i64 m.a2, .bool m.a3] 33)).alloc (.cells #[] 33)).heap.size = w.heap.size + 3 := by simp
    have r0 := (heap_alloc_old ((w.alloc (.cells #[.string { data := #[] }, .string { data := #[] }, .int .i64 0, .bool false] 33)).alloc (.cells #[.string m.a0, .string m.a1, .int .i64 m.a2, .bool m.a3] 33)) (.cells #[] 33) (c := w.heap.size) (by simp; omega)).trans ((heap_alloc_old (w.alloc (.cells #[.string { data := #[] }, .string { data := #[] }, .int .i64 0, .bool false] 33)) (.cells #[.string m.a0, .string m.a1, .int .i64 m.a2, .bool m.a3] 33) (c := w.heap.size) (by simp)).trans (heap_alloc_new w (.cells #[.string { data := #[] }, .string { data := #[] }, .int .i64 0, .bool false] 33)))
    replace r0 := Lib.hid r0
    replace b3 := Lib.hid b3
    replace r1 := Lib.hid r1
    replace hz3 := Lib.hid hz3
    go_enter Tryz.func67, Tryz.ntmps67
    go_wp2_with (first
      | (at_builtin; go_must (refine wpList_append_ms _ rfl (.tmp 19) (.tmp 24) rfl (w.heap.size + 2) _ 0 [] l rfl oL.out MS.out (by simp) (by omega) ?_; intro v2 w2 o2 g2; obtain ⟨a2, c2, rfl⟩ := own_slice o2; have b2 := (b3.out.grown g2 (by rw [hz3.out]; omega) (fun k hk => Nat.le_trans (by omega) (oL.out.lt k hk).1)); have q0 := (b2.cell (p := ⟨g, 0, none⟩) hlt).trans c0; have q1 := (b2.frozen (p := ⟨g, 0, none⟩) hlt).trans f0; have rb := (g2.block (w.heap.size + 1) (by rw [hz3.out]; omega) (fun e => by have := (oL.out.lt _ e.symm).1; omega)).trans r1.out; have k0 : w2.cell? ⟨w.heap.size + 1, 0, none⟩ = some (.string m.a0) := cell_of_row w2 _ 0 _ 33 (0, 0) rb; have k1 : w2.cell? ⟨w.heap.size + 1, 1, none⟩ = some (.string m.a1) := cell_of_row w2 _ 1 _ 33 (0, 0) rb; have k2 : w2.cell? ⟨w.heap.size + 1, 2, none⟩ = some (.int .i64 m.a2) := cell_of_row w2 _ 2 _ 33 (0, 0) rb; have k3 : w2.cell? ⟨w.heap.size + 1, 3, none⟩ = some (.bool m.a3) := cell_of_row w2 _ 3 _ 33 (0, 0) rb; have rz := (g2.block w.heap.size (by rw [hz3.out]; omega) (fun e => by have := (oL.out.lt _ e.symm).1; omega)).trans r0.out; have p0 : w2.cell? ⟨w.heap.size, 0, none⟩ = some (.string { data := #[] }) := cell_of_row w2 _ 0 _ 33 (0, 0) rz; have p1 : w2.cell? ⟨w.heap.size, 1, none⟩ = some (.string { data := #[] }) := cell_of_row w2 _ 1 _ 33 (0, 0) rz; have p2 : w2.cell? ⟨w.heap.size, 2, none⟩ = some (.int .i64 0) := cell_of_row w2 _ 2 _ 33 (0, 0) rz; have p3 : w2.cell? ⟨w.heap.size, 3, none⟩ = some (.bool false) := cell_of_row w2 _ 3 _ 33 (0, 0) rz; have z0 := frozen_of_row w2 w.heap.size 0 _ 33 rz; have z1 := frozen_of_row w2 w.heap.size 1 _ 33 rz; have z2 := frozen_of_row w2 w.heap.size 2 _ 33 rz; have z3 := frozen_of_row w2 w.heap.size 3 _ 33 rz; have hsz2 := (Array.getElem?_eq_some_iff.1 rz).1; clear rz; replace o2 := Lib.hid o2; replace b2 := Lib.hid b2; clear g2 rb)))
    refine bodyPost_ret (v := .tuple #[.agg #[.string m.a0, .string m.a1, .int .i64 m.a2, .bool m.a3], .bool true]) (by simp [results, Tryz.results67, go_sem, p0, p1, p2, p3, hsz2, hlt]) rfl ⟨rfl, xtake_end H.out hB (by simpa using o2.out) b2.out hsz2 (set4 _ _ _ _ _ _)⟩
end
end Go.Proofs.YtceiipcdkonnlaaGreat.Quu
