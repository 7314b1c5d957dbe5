/-
  LAYER 20: Of: the program's.
-/
import Derived.Test.YtbmelmmefgehoaaDoorWf
import Derived.Deep.RegionHeld3
namespace Go.Proofs.YtbmelmmefgehoaaDoor
open Go.RowKit

theorem put_all (K : Int) (G N D : ByteArray) (w : World) (ht : Tabs w) (hG : G.size ≤ 1048576) (hN : N.size ≤ 1048576) (hD : D.size ≤ 1048576) : Calls Tryd.prog 7 #[.agg #[.int .i64 K, .string G, .string N, .string D]] w (PutIs (putB K G N D) w) := by
  unfold putB
  cases hK : isk K with
  | false => exact put_kind K G N D w hK
  | true =>
    have : 0 ≤ K := by unfold isk at hK; simp at hK; omega
    obtain ⟨k, rfl⟩ : ∃ k : Nat, K = k := ⟨K.toNat, by omega⟩
    exact put_any k hK G N D w ht hG hN hD
structure Sp where
  K : Nat
  G : ByteArray
  N : ByteArray
  D : ByteArray
def Sp.zero : Sp := ⟨0, ⟨#[]⟩, ⟨#[]⟩, ⟨#[]⟩⟩
def candL : List ByteArray → Sp
  | [_, m, n] => if m = state' then ⟨9, ⟨#[]⟩, n, ⟨#[]⟩⟩ else .zero
  | [_, g, k, n] => ⟨kindB k, g, n, ⟨#[]⟩⟩
  | [_, g, k, n, d] => ⟨kindB k, g, n, d⟩
  | _ => .zero
def okB (t : ByteArray) (c : Sp) : Sp := if putB c.K c.G c.N c.D = (t, 0) then c else .zero
def ofB (t : ByteArray) : Sp := okB t (candL (spS t))
def OfIs (r : Sp) (w : World) (e : Ending) (w' : World) : Prop := e = .returned (.agg #[.int .i64 (r.K : Int), .string r.G, .string r.N, .string r.D]) ∧ Below w.heap.size w w'
def zc : Array Value := #[.int .i64 0, .string ⟨#[]⟩, .string ⟨#[]⟩, .string ⟨#[]⟩]
/-- A block of a spot that is nought. -/
def Zero (w : World) (b : Nat) : Prop := w.heap[b]? = some (.cells #[.int .i64 0, .string ⟨#[]⟩, .string ⟨#[]⟩, .string ⟨#[]⟩] 23 (0, 0))
theorem Zero.keep {w w' : World} {b B : Nat} (h : Zero w b) (hb : Below B w w') (hB : b < B) : Zero w' b := by
  unfold Zero; rw [hb.block _ hB]; exact h
theorem Zero.cells {w : World} {b : Nat} (h : Zero w b) : w.cell? ⟨b, 0, none⟩ = some (.int .i64 0) ∧ w.cell? ⟨b, 1, none⟩ = some (.string ⟨#[]⟩) ∧ w.cell? ⟨b, 2, none⟩ = some (.string ⟨#[]⟩) ∧ w.cell? ⟨b, 3, none⟩ = some (.string ⟨#[]⟩) ∧
    w.frozen? ⟨b, 0, none⟩ = false ∧ w.frozen? ⟨b, 1, none⟩ = false ∧ w.frozen? ⟨b, 2, none⟩ = false ∧ w.frozen? ⟨b, 3, none⟩ = false :=
  ⟨cell_of_row w b 0 _ 23 (0, 0) h, cell_of_row w b 1 _ 23 (0, 0) h, cell_of_row w b 2 _ 23 (0, 0) h, cell_of_row w b 3 _ 23 (0, 0) h,
   frozen_of_row w b 0 _ 23 h, frozen_of_row w b 1 _ 23 h, frozen_of_row w b 2 _ 23 h, frozen_of_row w b 3 _ 23 h⟩
theorem Zero.new (w : World) : Zero (w.alloc (.cells #[.int .i64 0, .string ⟨#[]⟩, .string ⟨#[]⟩, .string ⟨#[]⟩] 23)) w.heap.size := heap_alloc_new w _
/-- A row of four cells. -/
def RowB (W : World) (b : Nat) : Prop := ∃ cs, W.heap[b]? = some (.cells cs 23 (0, 0)) ∧ cs.size = 4
def valAt (W : World) (b j : Nat) : Value := (W.cell? ⟨b, j, none⟩).getD undef
theorem RowB.cell {W : World} {b : Nat} (h : RowB W b) (j : Nat) (hj : j < 4) : W.cell? ⟨b, j, none⟩ = some (valAt W b j) := by
  obtain ⟨cs, h1, h2⟩ := h
  unfold valAt
  rw [cell_of_row W b j cs 23 (0, 0) h1, Array.getElem?_eq_getElem (by omega)]; rfl
theorem RowB.frozen {W : World} {b : Nat} (h : RowB W b) (j : Nat) : W.frozen? ⟨b, j, none⟩ = false := by
  obtain ⟨cs, h1, h2⟩ := h
  exact frozen_of_row W b j cs 23 h1
theorem RowB.set {W : World} {b : Nat} (h : RowB W b) (j : Nat) (v : Value) : RowB (W.setCell ⟨b, j, none⟩ v) b := by
  obtain ⟨cs, h1, h2⟩ := h
  exact ⟨_, heap_setCell_same W b j cs 23 v h1, by simpa using h2⟩
theorem RowB.keep {W W' : World} {b : Nat} (h : RowB W b) (hk : Below W.heap.size W W') : RowB W' b := by
  obtain ⟨cs, h1, h2⟩ := h
  exact ⟨cs, by rw [hk.block _ (Array.getElem?_eq_some_iff.1 h1).1]; exact h1, h2⟩
theorem Zero.row {w : World} {b : Nat} (h : Zero w b) : RowB w b := ⟨_, h, rfl⟩
theorem RowB.set4 {W : World} {b : Nat} (h : RowB W b) (v0 v1 v2 v3 : Value) : ((((W.setCell ⟨b, 0, none⟩ v0).setCell ⟨b, 1, none⟩ v1).setCell ⟨b, 2, none⟩ v2).setCell ⟨b, 3, none⟩ v3).heap[b]? = some (.cells #[v0, v1, v2, v3] 23 (0, 0)) := by
  obtain ⟨⟨l⟩, h1, h2⟩ := h
  have a0 := heap_setCell_same W b 0 _ 23 v0 h1
  have a1 := heap_setCell_same _ b 1 _ 23 v1 a0
  have a2 := heap_setCell_same _ b 2 _ 23 v2 a1
  have a3 := heap_setCell_same _ b 3 _ 23 v3 a2
  rw [a3]
  match l, h2 with
  | [p, q, r, s], _ => rfl
theorem below_set4 {W : World} {b : Nat} (v0 v1 v2 v3 : Value) : Below b W ((((W.setCell ⟨b, 0, none⟩ v0).setCell ⟨b, 1, none⟩ v1).setCell ⟨b, 2, none⟩ v2).setCell ⟨b, 3, none⟩ v3) :=
  ((((Below.refl b W).setCell (Nat.le_refl _) _).setCell (Nat.le_refl _) _).setCell (Nat.le_refl _) _).setCell (Nat.le_refl _) _
theorem so_of3 {w2 W : World} {g b : Nat} {x1 x2 x3 : ByteArray} (hg : g < b) (hb : 0 < b) (h1 : w2.cell? ⟨g, 1, none⟩ = some (.string x1)) (h2 : w2.cell? ⟨g, 2, none⟩ = some (.string x2)) (h3 : w2.cell? ⟨g, 3, none⟩ = some (.string x3)) (ht : Tabs w2) (hr : RowB W b) (hk : Below b w2 W) :
    W.cell? ⟨g, 1, none⟩ = some (.string x1) ∧ W.cell? ⟨g, 2, none⟩ = some (.string x2) ∧ W.cell? ⟨g, 3, none⟩ = some (.string x3) ∧ Tabs W ∧ W.cell? ⟨b, 0, none⟩ = some (valAt W b 0) ∧ W.cell? ⟨b, 1, none⟩ = some (valAt W b 1) ∧ W.cell? ⟨b, 2, none⟩ = some (valAt W b 2) ∧ W.cell? ⟨b, 3, none⟩ = some (valAt W b 3) ∧ W.frozen? ⟨b, 0, none⟩ = false ∧ W.frozen? ⟨b, 1, none⟩ = false ∧ W.frozen? ⟨b, 2, none⟩ = false ∧ W.frozen? ⟨b, 3, none⟩ = false ∧ RowB W b ∧ Below b w2 W :=
  ⟨(hk.cell (by simpa using hg)).trans h1, (hk.cell (by simpa using hg)).trans h2, (hk.cell (by simpa using hg)).trans h3, ht.keepB hk hb, hr.cell 0 (by decide), hr.cell 1 (by decide), hr.cell 2 (by decide), hr.cell 3 (by decide), hr.frozen 0, hr.frozen 1, hr.frozen 2, hr.frozen 3, hr, hk⟩
theorem so_of4 {w2 W : World} {g b : Nat} {x1 x2 x3 x4 : ByteArray} (hg : g < b) (hb : 0 < b) (h1 : w2.cell? ⟨g, 1, none⟩ = some (.string x1)) (h2 : w2.cell? ⟨g, 2, none⟩ = some (.string x2)) (h3 : w2.cell? ⟨g, 3, none⟩ = some (.string x3)) (h4 : w2.cell? ⟨g, 4, none⟩ = some (.string x4)) (ht : Tabs w2) (hr : RowB W b) (hk : Below b w2 W) :
    W.cell? ⟨g, 1, none⟩ = some (.string x1) ∧ W.cell? ⟨g, 2, none⟩ = some (.string x2) ∧ W.cell? ⟨g, 3, none⟩ = some (.string x3) ∧ W.cell? ⟨g, 4, none⟩ = some (.string x4) ∧ Tabs W ∧ W.cell? ⟨b, 0, none⟩ = some (valAt W b 0) ∧ W.cell? ⟨b, 1, none⟩ = some (valAt W b 1) ∧ W.cell? ⟨b, 2, none⟩ = some (valAt W b 2) ∧ W.cell? ⟨b, 3, none⟩ = some (valAt W b 3) ∧ W.frozen? ⟨b, 0, none⟩ = false ∧ W.frozen? ⟨b, 1, none⟩ = false ∧ W.frozen? ⟨b, 2, none⟩ = false ∧ W.frozen? ⟨b, 3, none⟩ = false ∧ RowB W b ∧ Below b w2 W :=
  ⟨(hk.cell (by simpa using hg)).trans h1, (hk.cell (by simpa using hg)).trans h2, (hk.cell (by simpa using hg)).trans h3, (hk.cell (by simpa using hg)).trans h4, ht.keepB hk hb, hr.cell 0 (by decide), hr.cell 1 (by decide), hr.cell 2 (by decide), hr.cell 3 (by decide), hr.frozen 0, hr.frozen 1, hr.frozen 2, hr.frozen 3, hr, hk⟩
set_option maxHeartbeats 4000000 in
set_option maxRecDepth 100000 in
theorem of_4 (t : ByteArray) (x0 x1 x2 x3 : ByteArray) (w : World) (ht : Tabs w) (hs : t.size ≤ 1048576) (hl : spS t = [x0, x1, x2, x3]) : Calls Tryd.prog 8 #[.string t] w (OfIs (okB t ⟨kindB x2, x1, x3, ⟨#[]⟩⟩) w) := by
  have S := Lib.hid fun w => split_any t w hs
  have pz : ∀ x ∈ spS t, x.size ≤ 1048576 := fun x hx => Nat.le_trans (part_size hx) hs
  have b0 := ext_alloc w (.cells #[.int .i64 0, .string ⟨#[]⟩, .string ⟨#[]⟩, .string ⟨#[]⟩] 23)
  have r0 := Zero.new w
  have t0 := ht.keep b0
  have z0 : (w.alloc (.cells #[.int .i64 0, .string ⟨#[]⟩, .string ⟨#[]⟩, .string ⟨#[]⟩] 23)).heap.size = w.heap.size + 1 := by simp
  replace b0 := Lib.hid b0
  replace r0 := Lib.hid r0
  replace t0 := Lib.hid t0
  replace z0 := Lib.hid z0
  clear ht
  have PU := Lib.hid fun w h => put_all (kindB x2) x1 x3 ⟨#[]⟩ w h (pz x1 (by rw [hl]; simp)) (pz x3 (by rw [hl]; simp)) (by decide)
  have KI := Lib.hid fun w h => kind_any x2 w h
  generalize hr : okB t ⟨kindB x2, x1, x3, ⟨#[]⟩⟩ = r
  unfold okB at hr
  simp only at hr
  generalize putB (kindB x2) x1 x3 ⟨#[]⟩ = pr at *
  obtain ⟨told, err⟩ := pr
  replace hr := Lib.hid hr
  replace pz := Lib.hid pz
  go_enter Tryd.func8, Tryd.ntmps8
  go_wp2_with fail
  refine (S.out _).mono ?_
  rintro e w1 ⟨v1, rfl, own1, b1⟩
  rw [hl] at own1
  obtain ⟨g1, c1, rfl, -, hg1, hcap, hc1⟩ := own_cells own1 (by simp)
  have z1 : w.heap.size + 1 ≤ w1.heap.size := by have := b1.size; rw [z0.out] at this; exact this
  have r1 := r0.out.keep b1 (by rw [z0.out]; omega)
  have t1 := t0.out.keep b1
  have B1 := b0.out.trans (b1.mono (by rw [z0.out]; omega))
  have b2 := ext_alloc w1 (.cells #[.int .i64 0, .string ⟨#[]⟩, .string ⟨#[]⟩, .string ⟨#[]⟩] 23)
  have r2 := Lib.hid (r1.keep b2 (by omega))
  have q2 := Lib.hid (Zero.new w1)
  have t2 := Lib.hid (t1.keep b2)
  have B2 := Lib.hid (B1.trans (b2.mono (by omega)))
  have d1 : (w1.alloc (.cells #[.int .i64 0, .string ⟨#[]⟩, .string ⟨#[]⟩, .string ⟨#[]⟩] 23)).cell? ⟨g1, 1, none⟩ = some (.string x1) := (b2.cell (by simpa using hg1)).trans (hc1 1 x1 rfl)
  have d2 : (w1.alloc (.cells #[.int .i64 0, .string ⟨#[]⟩, .string ⟨#[]⟩, .string ⟨#[]⟩] 23)).cell? ⟨g1, 2, none⟩ = some (.string x2) := (b2.cell (by simpa using hg1)).trans (hc1 2 x2 rfl)
  have d3 : (w1.alloc (.cells #[.int .i64 0, .string ⟨#[]⟩, .string ⟨#[]⟩, .string ⟨#[]⟩] 23)).cell? ⟨g1, 3, none⟩ = some (.string x3) := (b2.cell (by simpa using hg1)).trans (hc1 3 x3 rfl)
  have z2 : (w1.alloc (.cells #[.int .i64 0, .string ⟨#[]⟩, .string ⟨#[]⟩, .string ⟨#[]⟩] 23)).heap.size = w1.heap.size + 1 := by simp
  replace z2 := Lib.hid z2
  replace hl := Lib.hid hl
  simp only [List.length_cons, List.length_nil] at hcap
  clear own1 b1 r1 t1 B1 hc1 b2 r0 t0 b0 z0
  simp only [List.length_cons, List.length_nil, Nat.reduceAdd, Nat.zero_add]
  go_wp2_with fail
  generalize w1.alloc (.cells #[.int .i64 0, .string ⟨#[]⟩, .string ⟨#[]⟩, .string ⟨#[]⟩] 23) = w2 at *
  have z1' : 0 < w1.heap.size := by omega
  have z3 : w.heap.size < w1.heap.size := by omega
  have z4 : w1.heap.size < w2.heap.size := by rw [z2.out]; omega
  have KO := Lib.hid (fun W (a : RowB W w1.heap.size) (b : Below w1.heap.size w2 W) => so_of3 hg1 z1' d1 d2 d3 t2.out a b)
  have zd : w1.heap.size < w2.drew.heap.size := z4
  clear d1 d2 d3
  go_region_held3 (fun W => W.cell? ⟨g1, 1, none⟩ = some (.string x1) ∧ W.cell? ⟨g1, 2, none⟩ = some (.string x2) ∧ W.cell? ⟨g1, 3, none⟩ = some (.string x3) ∧ Tabs W ∧ W.cell? ⟨w1.heap.size, 0, none⟩ = some (valAt W w1.heap.size 0) ∧ W.cell? ⟨w1.heap.size, 1, none⟩ = some (valAt W w1.heap.size 1) ∧ W.cell? ⟨w1.heap.size, 2, none⟩ = some (valAt W w1.heap.size 2) ∧ W.cell? ⟨w1.heap.size, 3, none⟩ = some (valAt W w1.heap.size 3) ∧ W.frozen? ⟨w1.heap.size, 0, none⟩ = false ∧ W.frozen? ⟨w1.heap.size, 1, none⟩ = false ∧ W.frozen? ⟨w1.heap.size, 2, none⟩ = false ∧ W.frozen? ⟨w1.heap.size, 3, none⟩ = false ∧ RowB W w1.heap.size ∧ Below w1.heap.size w2 W)
    (first | exact KO.out _ q2.out.row ((ext_drew w2).mono (Nat.le_of_lt z4)) | exact KO.out _ ((‹_ ∧ _ ∧ _ ∧ Tabs _ ∧ _ ∧ _ ∧ _ ∧ _ ∧ _ ∧ _ ∧ _ ∧ _ ∧ RowB _ _ ∧ Below w1.heap.size w2 _›).2.2.2.2.2.2.2.2.2.2.2.2.1.keep hb) ((‹_ ∧ _ ∧ _ ∧ Tabs _ ∧ _ ∧ _ ∧ _ ∧ _ ∧ _ ∧ _ ∧ _ ∧ _ ∧ RowB _ _ ∧ Below w1.heap.size w2 _›).2.2.2.2.2.2.2.2.2.2.2.2.2.trans (hb.mono (by have := (‹_ ∧ _ ∧ _ ∧ Tabs _ ∧ _ ∧ _ ∧ _ ∧ _ ∧ _ ∧ _ ∧ _ ∧ _ ∧ RowB _ _ ∧ Below w1.heap.size w2 _›).2.2.2.2.2.2.2.2.2.2.2.2.2.size; omega))) | exact KO.out _ ((((((‹_ ∧ _ ∧ _ ∧ Tabs _ ∧ _ ∧ _ ∧ _ ∧ _ ∧ _ ∧ _ ∧ _ ∧ _ ∧ RowB _ _ ∧ Below w1.heap.size w2 _›).2.2.2.2.2.2.2.2.2.2.2.2.1).set _ _).set _ _).set _ _).set _ _) ((‹_ ∧ _ ∧ _ ∧ Tabs _ ∧ _ ∧ _ ∧ _ ∧ _ ∧ _ ∧ _ ∧ _ ∧ _ ∧ RowB _ _ ∧ Below w1.heap.size w2 _›).2.2.2.2.2.2.2.2.2.2.2.2.2.trans (below_set4 _ _ _ _)))
    (first | (go_at_call 13; refine (KI.out _ (‹_ ∧ _ ∧ _ ∧ Tabs _ ∧ _ ∧ _ ∧ _ ∧ _ ∧ _ ∧ _ ∧ _ ∧ _ ∧ RowB _ _ ∧ Below w1.heap.size w2 _›).2.2.2.1).mono ?_; rintro e w' ⟨rfl, hb⟩))
  rename_i hH
  clear hH
  have zq := (show Zero w2.drew w1.heap.size from q2.out).keep hb zd
  have row5 := zq.row.set4 (.int .i64 (kindB x2 : Nat)) (.string x1) (.string x3) (.string ⟨#[]⟩)
  have k5 : Below w1.heap.size w2 ((((w'.setCell ⟨w1.heap.size, 0, none⟩ (.int .i64 (kindB x2 : Nat))).setCell ⟨w1.heap.size, 1, none⟩ (.string x1)).setCell ⟨w1.heap.size, 2, none⟩ (.string x3)).setCell ⟨w1.heap.size, 3, none⟩ (.string ⟨#[]⟩)) := (((Below.refl _ _).drew).trans (hb.mono (Nat.le_of_lt zd))).trans (below_set4 _ _ _ _)
  have r5 := Lib.hid (r2.out.keep k5 z3)
  have t5 := Lib.hid (t2.out.keepB k5 z1')
  have B5 := Lib.hid (B2.out.trans (k5.mono (by omega)))
  have lt5 : w1.heap.size < ((((w'.setCell ⟨w1.heap.size, 0, none⟩ (.int .i64 (kindB x2 : Nat))).setCell ⟨w1.heap.size, 1, none⟩ (.string x1)).setCell ⟨w1.heap.size, 2, none⟩ (.string x3)).setCell ⟨w1.heap.size, 3, none⟩ (.string ⟨#[]⟩)).heap.size := by have := k5.size; omega
  replace row5 := Lib.hid row5
  clear zq k5 hb KO
  generalize ((((w'.setCell ⟨w1.heap.size, 0, none⟩ (.int .i64 (kindB x2 : Nat))).setCell ⟨w1.heap.size, 1, none⟩ (.string x1)).setCell ⟨w1.heap.size, 2, none⟩ (.string x3)).setCell ⟨w1.heap.size, 3, none⟩ (.string ⟨#[]⟩)) = w5 at *
  clear r2 t2 B2 q2
  have c0 := cell_of_row w5 w1.heap.size 0 _ 23 (0, 0) row5.out
  have c1 := cell_of_row w5 w1.heap.size 1 _ 23 (0, 0) row5.out
  have c2 := cell_of_row w5 w1.heap.size 2 _ 23 (0, 0) row5.out
  have c3 := cell_of_row w5 w1.heap.size 3 _ 23 (0, 0) row5.out
  replace c0 : w5.cell? ⟨w1.heap.size, 0, none⟩ = some (.int .i64 (kindB x2 : Nat)) := c0
  replace c1 : w5.cell? ⟨w1.heap.size, 1, none⟩ = some (.string x1) := c1
  replace c2 : w5.cell? ⟨w1.heap.size, 2, none⟩ = some (.string x3) := c2
  replace c3 : w5.cell? ⟨w1.heap.size, 3, none⟩ = some (.string ⟨#[]⟩) := c3
  go_wp2_with fail
  refine (PU.out _ t5.out).mono ?_
  rintro e w6 ⟨rfl, b6⟩
  have row6 : w6.heap[w1.heap.size]? = some (.cells #[.int .i64 (kindB x2 : Nat), .string x1, .string x3, .string ⟨#[]⟩] 23 (0, 0)) := by rw [b6.block _ lt5]; exact row5.out
  have e0 : w6.cell? ⟨w1.heap.size, 0, none⟩ = some (.int .i64 (kindB x2 : Nat)) := (b6.cell (by simpa using lt5)).trans c0
  have e1 : w6.cell? ⟨w1.heap.size, 1, none⟩ = some (.string x1) := (b6.cell (by simpa using lt5)).trans c1
  have e2 : w6.cell? ⟨w1.heap.size, 2, none⟩ = some (.string x3) := (b6.cell (by simpa using lt5)).trans c2
  have e3 : w6.cell? ⟨w1.heap.size, 3, none⟩ = some (.string ⟨#[]⟩) := (b6.cell (by simpa using lt5)).trans c3
  have r6 := r5.out.keep b6 (by omega)
  obtain ⟨y0, y1, y2, y3, f0, f1, f2, f3⟩ := r6.cells
  have lt6 : w.heap.size < w6.heap.size := by have := b6.size; omega
  have ne6 : w.heap.size ≠ w1.heap.size := by omega
  have B6 := Lib.hid (ext_trans B5.out b6)
  replace row6 := Lib.hid row6
  replace r6 := Lib.hid r6
  clear c0 c1 c2 c3 b6 row5 r5 t5 B5 lt5
  by_cases he : err = 0
  · have he1 : (err != 0) = false := by rw [he]; rfl
    by_cases hto : told = t
    · have ho : (told.toList == t.toList) = true := by rw [hto]; simp
      have hrr : (⟨kindB x2, x1, x3, ⟨#[]⟩⟩ : Sp) = r := by rw [← hr.out, if_pos (by rw [he, hto])]
      replace hrr := Lib.hid hrr
      replace he := Lib.hid he
      replace hto := Lib.hid hto
      go_wp2_with fail
      exact bodyPost_ret (v := .agg #[.int .i64 (kindB x2 : Nat), .string x1, .string x3, .string ⟨#[]⟩]) (results_cell_row (fn := Tryd.f8) (p := 2) (ty := 23) rfl _ _ w.heap.size 23 _ (0, 0) _ rfl (r6.out.row.set4 _ _ _ _) Tryd.underlying23 rfl (by kernel_rfl)) rfl ⟨by rw [← hrr.out], B6.out.trans (below_set4 _ _ _ _)⟩
    · have ho := ne_bytes hto
      have hrr : Sp.zero = r := by rw [← hr.out, if_neg (fun h => hto (congrArg Prod.fst h))]
      replace hrr := Lib.hid hrr
      replace he := Lib.hid he
      replace hto := Lib.hid hto
      go_wp2_with fail
      exact bodyPost_ret (v := .agg #[.int .i64 0, .string ⟨#[]⟩, .string ⟨#[]⟩, .string ⟨#[]⟩]) (results_cell_row (fn := Tryd.f8) (p := 2) (ty := 23) rfl _ _ w.heap.size 23 _ (0, 0) _ rfl (r6.out.row.set4 _ _ _ _) Tryd.underlying23 rfl (by kernel_rfl)) rfl ⟨by rw [← hrr.out]; rfl, B6.out.trans (below_set4 _ _ _ _)⟩
  · have he1 : (err != 0) = true := by unfold bne; rw [show (err == 0) = false from by rw [beq_eq_false_iff_ne]; exact he]; rfl
    have hrr : Sp.zero = r := by rw [← hr.out, if_neg (fun h => he (congrArg Prod.snd h))]
    replace hrr := Lib.hid hrr
    replace he := Lib.hid he
    go_wp2_with fail
    exact bodyPost_ret (v := .agg #[.int .i64 0, .string ⟨#[]⟩, .string ⟨#[]⟩, .string ⟨#[]⟩]) (results_cell_row (fn := Tryd.f8) (p := 2) (ty := 23) rfl _ _ w.heap.size 23 _ (0, 0) _ rfl (r6.out.row.set4 _ _ _ _) Tryd.underlying23 rfl (by kernel_rfl)) rfl ⟨by rw [← hrr.out]; rfl, B6.out.trans (below_set4 _ _ _ _)⟩
set_option maxHeartbeats 4000000 in
set_option maxRecDepth 100000 in
theorem of_5 (t : ByteArray) (x0 x1 x2 x3 x4 : ByteArray) (w : World) (ht : Tabs w) (hs : t.size ≤ 1048576) (hl : spS t = [x0, x1, x2, x3, x4]) : Calls Tryd.prog 8 #[.string t] w (OfIs (okB t ⟨kindB x2, x1, x3, x4⟩) w) := by
  have S := Lib.hid fun w => split_any t w hs
  have pz : ∀ x ∈ spS t, x.size ≤ 1048576 := fun x hx => Nat.le_trans (part_size hx) hs
  have b0 := ext_alloc w (.cells #[.int .i64 0, .string ⟨#[]⟩, .string ⟨#[]⟩, .string ⟨#[]⟩] 23)
  have r0 := Zero.new w
  have t0 := ht.keep b0
  have z0 : (w.alloc (.cells #[.int .i64 0, .string ⟨#[]⟩, .string ⟨#[]⟩, .string ⟨#[]⟩] 23)).heap.size = w.heap.size + 1 := by simp
  replace b0 := Lib.hid b0
  replace r0 := Lib.hid r0
  replace t0 := Lib.hid t0
  replace z0 := Lib.hid z0
  clear ht
  have PU := Lib.hid fun w h => put_all (kindB x2) x1 x3 x4 w h (pz x1 (by rw [hl]; simp)) (pz x3 (by rw [hl]; simp)) (pz x4 (by rw [hl]; simp))
  have KI := Lib.hid fun w h => kind_any x2 w h
  generalize hr : okB t ⟨kindB x2, x1, x3, x4⟩ = r
  unfold okB at hr
  simp only at hr
  generalize putB (kindB x2) x1 x3 x4 = pr at *
  obtain ⟨told, err⟩ := pr
  replace hr := Lib.hid hr
  replace pz := Lib.hid pz
  go_enter Tryd.func8, Tryd.ntmps8
  go_wp2_with fail
  refine (S.out _).mono ?_
  rintro e w1 ⟨v1, rfl, own1, b1⟩
  rw [hl] at own1
  obtain ⟨g1, c1, rfl, -, hg1, hcap, hc1⟩ := own_cells own1 (by simp)
  have z1 : w.heap.size + 1 ≤ w1.heap.size := by have := b1.size; rw [z0.out] at this; exact this
  have r1 := r0.out.keep b1 (by rw [z0.out]; omega)
  have t1 := t0.out.keep b1
  have B1 := b0.out.trans (b1.mono (by rw [z0.out]; omega))
  have b2 := ext_alloc w1 (.cells #[.int .i64 0, .string ⟨#[]⟩, .string ⟨#[]⟩, .string ⟨#[]⟩] 23)
  have r2 := Lib.hid (r1.keep b2 (by omega))
  have q2 := Lib.hid (Zero.new w1)
  have t2 := Lib.hid (t1.keep b2)
  have B2 := Lib.hid (B1.trans (b2.mono (by omega)))
  have d1 : (w1.alloc (.cells #[.int .i64 0, .string ⟨#[]⟩, .string ⟨#[]⟩, .string ⟨#[]⟩] 23)).cell? ⟨g1, 1, none⟩ = some (.string x1) := (b2.cell (by simpa using hg1)).trans (hc1 1 x1 rfl)
  have d2 : (w1.alloc (.cells #[.int .i64 0, .string ⟨#[]⟩, .string ⟨#[]⟩, .string ⟨#[]⟩] 23)).cell? ⟨g1, 2, none⟩ = some (.string x2) := (b2.cell (by simpa using hg1)).trans (hc1 2 x2 rfl)
  have d3 : (w1.alloc (.cells #[.int .i64 0, .string ⟨#[]⟩, .string ⟨#[]⟩, .string ⟨#[]⟩] 23)).cell? ⟨g1, 3, none⟩ = some (.string x3) := (b2.cell (by simpa using hg1)).trans (hc1 3 x3 rfl)
  have d4 : (w1.alloc (.cells #[.int .i64 0, .string ⟨#[]⟩, .string ⟨#[]⟩, .string ⟨#[]⟩] 23)).cell? ⟨g1, 4, none⟩ = some (.string x4) := (b2.cell (by simpa using hg1)).trans (hc1 4 x4 rfl)
  have z2 : (w1.alloc (.cells #[.int .i64 0, .string ⟨#[]⟩, .string ⟨#[]⟩, .string ⟨#[]⟩] 23)).heap.size = w1.heap.size + 1 := by simp
  replace z2 := Lib.hid z2
  replace hl := Lib.hid hl
  simp only [List.length_cons, List.length_nil] at hcap
  clear own1 b1 r1 t1 B1 hc1 b2 r0 t0 b0 z0
  simp only [List.length_cons, List.length_nil, Nat.reduceAdd, Nat.zero_add]
  go_wp2_with fail
  generalize w1.alloc (.cells #[.int .i64 0, .string ⟨#[]⟩, .string ⟨#[]⟩, .string ⟨#[]⟩] 23) = w2 at *
  have z1' : 0 < w1.heap.size := by omega
  have z3 : w.heap.size < w1.heap.size := by omega
  have z4 : w1.heap.size < w2.heap.size := by rw [z2.out]; omega
  have KO := Lib.hid (fun W (a : RowB W w1.heap.size) (b : Below w1.heap.size w2 W) => so_of4 hg1 z1' d1 d2 d3 d4 t2.out a b)
  have zd : w1.heap.size < w2.drew.heap.size := z4
  clear d1 d2 d3 d4
  go_region_held3 (fun W => W.cell? ⟨g1, 1, none⟩ = some (.string x1) ∧ W.cell? ⟨g1, 2, none⟩ = some (.string x2) ∧ W.cell? ⟨g1, 3, none⟩ = some (.string x3) ∧ W.cell? ⟨g1, 4, none⟩ = some (.string x4) ∧ Tabs W ∧ W.cell? ⟨w1.heap.size, 0, none⟩ = some (valAt W w1.heap.size 0) ∧ W.cell? ⟨w1.heap.size, 1, none⟩ = some (valAt W w1.heap.size 1) ∧ W.cell? ⟨w1.heap.size, 2, none⟩ = some (valAt W w1.heap.size 2) ∧ W.cell? ⟨w1.heap.size, 3, none⟩ = some (valAt W w1.heap.size 3) ∧ W.frozen? ⟨w1.heap.size, 0, none⟩ = false ∧ W.frozen? ⟨w1.heap.size, 1, none⟩ = false ∧ W.frozen? ⟨w1.heap.size, 2, none⟩ = false ∧ W.frozen? ⟨w1.heap.size, 3, none⟩ = false ∧ RowB W w1.heap.size ∧ Below w1.heap.size w2 W)
    (first | exact KO.out _ q2.out.row ((ext_drew w2).mono (Nat.le_of_lt z4)) | exact KO.out _ ((‹_ ∧ _ ∧ _ ∧ _ ∧ Tabs _ ∧ _ ∧ _ ∧ _ ∧ _ ∧ _ ∧ _ ∧ _ ∧ _ ∧ RowB _ _ ∧ Below w1.heap.size w2 _›).2.2.2.2.2.2.2.2.2.2.2.2.2.1.keep hb) ((‹_ ∧ _ ∧ _ ∧ _ ∧ Tabs _ ∧ _ ∧ _ ∧ _ ∧ _ ∧ _ ∧ _ ∧ _ ∧ _ ∧ RowB _ _ ∧ Below w1.heap.size w2 _›).2.2.2.2.2.2.2.2.2.2.2.2.2.2.trans (hb.mono (by have := (‹_ ∧ _ ∧ _ ∧ _ ∧ Tabs _ ∧ _ ∧ _ ∧ _ ∧ _ ∧ _ ∧ _ ∧ _ ∧ _ ∧ RowB _ _ ∧ Below w1.heap.size w2 _›).2.2.2.2.2.2.2.2.2.2.2.2.2.2.size; omega))) | exact KO.out _ ((((((‹_ ∧ _ ∧ _ ∧ _ ∧ Tabs _ ∧ _ ∧ _ ∧ _ ∧ _ ∧ _ ∧ _ ∧ _ ∧ _ ∧ RowB _ _ ∧ Below w1.heap.size w2 _›).2.2.2.2.2.2.2.2.2.2.2.2.2.1).set _ _).set _ _).set _ _).set _ _) ((‹_ ∧ _ ∧ _ ∧ _ ∧ Tabs _ ∧ _ ∧ _ ∧ _ ∧ _ ∧ _ ∧ _ ∧ _ ∧ _ ∧ RowB _ _ ∧ Below w1.heap.size w2 _›).2.2.2.2.2.2.2.2.2.2.2.2.2.2.trans (below_set4 _ _ _ _)))
    (first | (go_at_call 13; refine (KI.out _ (‹_ ∧ _ ∧ _ ∧ _ ∧ Tabs _ ∧ _ ∧ _ ∧ _ ∧ _ ∧ _ ∧ _ ∧ _ ∧ _ ∧ RowB _ _ ∧ Below w1.heap.size w2 _›).2.2.2.2.1).mono ?_; rintro e w' ⟨rfl, hb⟩))
  rename_i hH
  clear hH
  have zq := (show Zero w2.drew w1.heap.size from q2.out).keep hb zd
  have row5 := zq.row.set4 (.int .i64 (kindB x2 : Nat)) (.string x1) (.string x3) (.string x4)
  have k5 : Below w1.heap.size w2 ((((w'.setCell ⟨w1.heap.size, 0, none⟩ (.int .i64 (kindB x2 : Nat))).setCell ⟨w1.heap.size, 1, none⟩ (.string x1)).setCell ⟨w1.heap.size, 2, none⟩ (.string x3)).setCell ⟨w1.heap.size, 3, none⟩ (.string x4)) := (((Below.refl _ _).drew).trans (hb.mono (Nat.le_of_lt zd))).trans (below_set4 _ _ _ _)
  have r5 := Lib.hid (r2.out.keep k5 z3)
  have t5 := Lib.hid (t2.out.keepB k5 z1')
  have B5 := Lib.hid (B2.out.trans (k5.mono (by omega)))
  have lt5 : w1.heap.size < ((((w'.setCell ⟨w1.heap.size, 0, none⟩ (.int .i64 (kindB x2 : Nat))).setCell ⟨w1.heap.size, 1, none⟩ (.string x1)).setCell ⟨w1.heap.size, 2, none⟩ (.string x3)).setCell ⟨w1.heap.size, 3, none⟩ (.string x4)).heap.size := by have := k5.size; omega
  replace row5 := Lib.hid row5
  clear zq k5 hb KO
  generalize ((((w'.setCell ⟨w1.heap.size, 0, none⟩ (.int .i64 (kindB x2 : Nat))).setCell ⟨w1.heap.size, 1, none⟩ (.string x1)).setCell ⟨w1.heap.size, 2, none⟩ (.string x3)).setCell ⟨w1.heap.size, 3, none⟩ (.string x4)) = w5 at *
  clear r2 t2 B2 q2
  have c0 := cell_of_row w5 w1.heap.size 0 _ 23 (0, 0) row5.out
  have c1 := cell_of_row w5 w1.heap.size 1 _ 23 (0, 0) row5.out
  have c2 := cell_of_row w5 w1.heap.size 2 _ 23 (0, 0) row5.out
  have c3 := cell_of_row w5 w1.heap.size 3 _ 23 (0, 0) row5.out
  replace c0 : w5.cell? ⟨w1.heap.size, 0, none⟩ = some (.int .i64 (kindB x2 : Nat)) := c0
  replace c1 : w5.cell? ⟨w1.heap.size, 1, none⟩ = some (.string x1) := c1
  replace c2 : w5.cell? ⟨w1.heap.size, 2, none⟩ = some (.string x3) := c2
  replace c3 : w5.cell? ⟨w1.heap.size, 3, none⟩ = some (.string x4) := c3
  go_wp2_with fail
  refine (PU.out _ t5.out).mono ?_
  rintro e w6 ⟨rfl, b6⟩
  have row6 : w6.heap[w1.heap.size]? = some (.cells #[.int .i64 (kindB x2 : Nat), .string x1, .string x3, .string x4] 23 (0, 0)) := by rw [b6.block _ lt5]; exact row5.out
  have e0 : w6.cell? ⟨w1.heap.size, 0, none⟩ = some (.int .i64 (kindB x2 : Nat)) := (b6.cell (by simpa using lt5)).trans c0
  have e1 : w6.cell? ⟨w1.heap.size, 1, none⟩ = some (.string x1) := (b6.cell (by simpa using lt5)).trans c1
  have e2 : w6.cell? ⟨w1.heap.size, 2, none⟩ = some (.string x3) := (b6.cell (by simpa using lt5)).trans c2
  have e3 : w6.cell? ⟨w1.heap.size, 3, none⟩ = some (.string x4) := (b6.cell (by simpa using lt5)).trans c3
  have r6 := r5.out.keep b6 (by omega)
  obtain ⟨y0, y1, y2, y3, f0, f1, f2, f3⟩ := r6.cells
  have lt6 : w.heap.size < w6.heap.size := by have := b6.size; omega
  have ne6 : w.heap.size ≠ w1.heap.size := by omega
  have B6 := Lib.hid (ext_trans B5.out b6)
  replace row6 := Lib.hid row6
  replace r6 := Lib.hid r6
  clear c0 c1 c2 c3 b6 row5 r5 t5 B5 lt5
  by_cases he : err = 0
  · have he1 : (err != 0) = false := by rw [he]; rfl
    by_cases hto : told = t
    · have ho : (told.toList == t.toList) = true := by rw [hto]; simp
      have hrr : (⟨kindB x2, x1, x3, x4⟩ : Sp) = r := by rw [← hr.out, if_pos (by rw [he, hto])]
      replace hrr := Lib.hid hrr
      replace he := Lib.hid he
      replace hto := Lib.hid hto
      go_wp2_with fail
      exact bodyPost_ret (v := .agg #[.int .i64 (kindB x2 : Nat), .string x1, .string x3, .string x4]) (results_cell_row (fn := Tryd.f8) (p := 2) (ty := 23) rfl _ _ w.heap.size 23 _ (0, 0) _ rfl (r6.out.row.set4 _ _ _ _) Tryd.underlying23 rfl (by kernel_rfl)) rfl ⟨by rw [← hrr.out], B6.out.trans (below_set4 _ _ _ _)⟩
    · have ho := ne_bytes hto
      have hrr : Sp.zero = r := by rw [← hr.out, if_neg (fun h => hto (congrArg Prod.fst h))]
      replace hrr := Lib.hid hrr
      replace he := Lib.hid he
      replace hto := Lib.hid hto
      go_wp2_with fail
      exact bodyPost_ret (v := .agg #[.int .i64 0, .string ⟨#[]⟩, .string ⟨#[]⟩, .string ⟨#[]⟩]) (results_cell_row (fn := Tryd.f8) (p := 2) (ty := 23) rfl _ _ w.heap.size 23 _ (0, 0) _ rfl (r6.out.row.set4 _ _ _ _) Tryd.underlying23 rfl (by kernel_rfl)) rfl ⟨by rw [← hrr.out]; rfl, B6.out.trans (below_set4 _ _ _ _)⟩
  · have he1 : (err != 0) = true := by unfold bne; rw [show (err == 0) = false from by rw [beq_eq_false_iff_ne]; exact he]; rfl
    have hrr : Sp.zero = r := by rw [← hr.out, if_neg (fun h => he (congrArg Prod.snd h))]
    replace hrr := Lib.hid hrr
    replace he := Lib.hid he
    go_wp2_with fail
    exact bodyPost_ret (v := .agg #[.int .i64 0, .string ⟨#[]⟩, .string ⟨#[]⟩, .string ⟨#[]⟩]) (results_cell_row (fn := Tryd.f8) (p := 2) (ty := 23) rfl _ _ w.heap.size 23 _ (0, 0) _ rfl (r6.out.row.set4 _ _ _ _) Tryd.underlying23 rfl (by kernel_rfl)) rfl ⟨by rw [← hrr.out]; rfl, B6.out.trans (below_set4 _ _ _ _)⟩
end Go.Proofs.YtbmelmmefgehoaaDoor
