/-
  LAYER 35: the rate's block; none, isTime, Len, New.
-/
import Derived.Test.YtoijdmchkjmpgaaRows
import Derived.Test.YtoijdmchkjmpgaaQj
namespace Go.Proofs.Ytoijdmchkjmpgaa.Rte
open Go.RowKit Que
structure Gr where
  k : ByteArray
  t : Int
def Gr.cells (e : Gr) : List Value := [.string e.k, .int .i64 e.t]
def Gr.v (e : Gr) : Value := .agg #[.string e.k, .int .i64 e.t]
def grC (l : List Gr) : List Value := l.flatMap Gr.cells
theorem grC_len (l : List Gr) : (grC l).length = l.length * 2 := by
  induction l with
  | nil => rfl
  | cons f l ih => simp only [grC, List.flatMap_cons, List.length_append] at ih ⊢; rw [ih]; simp [Gr.cells]; omega
theorem grC_get (l : List Gr) : ∀ (i : Nat) (f : Gr), l[i]? = some f → ∀ j, j < 2 → (grC l)[i * 2 + j]? = f.cells[j]? := by
  induction l with
  | nil => intro i f h; simp at h
  | cons g l ih =>
    intro i f h j hj
    have e : grC (g :: l) = g.cells ++ grC l := by simp [grC]
    rw [e]
    cases i with
    | zero =>
      simp at h; subst h
      rw [Nat.zero_mul, Nat.zero_add, List.getElem?_append_left (by simp [Gr.cells]; exact hj)]
    | succ i =>
      rw [List.getElem?_append_right (by simp [Gr.cells]; omega)]
      rw [show (i + 1) * 2 + j - g.cells.length = i * 2 + j by simp [Gr.cells]; omega]
      exact ih i f (by simpa using h) j hj
theorem grC_append (l m : List Gr) : grC (l ++ m) = grC l ++ grC m := by simp [grC]
theorem grC_snoc (l : List Gr) (f : Gr) : grC (l ++ [f]) = grC l ++ f.cells := by simp [grC]
theorem grC_set (l : List Gr) : ∀ (i : Nat) (f : Gr), (grC l |>.set (i * 2) (.string f.k) |>.set (i * 2 + 1) (.int .i64 f.t)) = grC (l.set i f) := by
  induction l with
  | nil => intro i f; simp [grC]
  | cons g l ih =>
    intro i f
    have e : ∀ (g : Gr) (l : List Gr), grC (g :: l) = .string g.k :: .int .i64 g.t :: grC l := fun g l => by simp [grC, Gr.cells]
    cases i with
    | zero => simp [e]
    | succ i =>
      rw [e, show (i + 1) * 2 = i * 2 + 1 + 1 by omega, List.set_cons_succ, List.set_cons_succ, List.set_cons_succ, List.set_cons_succ, List.set_cons_succ, e, ih]
theorem grC_setT (l : List Gr) : ∀ (i : Nat) (f : Gr) (t : Int), l[i]? = some f → (grC l).set (i * 2 + 1) (.int .i64 t) = grC (l.set i ⟨f.k, t⟩) := by
  intro i f t h
  rw [← grC_set]
  congr 1
  symm
  have := grC_get l i f h 0 (by omega)
  simp only [Gr.cells, List.getElem?_cons_zero, Nat.add_zero] at this
  apply List.ext_getElem?
  intro j
  by_cases hj : i * 2 = j
  · subst hj
    rw [List.getElem?_set_self (List.getElem?_eq_some_iff.1 this).1, this]
  · rw [List.getElem?_set_ne hj]
/-- The rate in block g. -/
structure Rt (B : Nat) (w : World) (g : Nat) (gap : Int) (v : Value) (G : List Gr) : Prop where
  row : w.heap[g]? = some (.cells #[.bool true, .int .i64 gap, v] 106 (0, 0))
  its : w.ownsRow B 109 2 v G.length (grC G)
section
variable {B : Nat} {w w' : World} {g : Nat} {gap : Int} {v : Value} {G : List Gr}
theorem Rt.lt (h : Rt B w g gap v G) : g < w.heap.size := (Array.getElem?_eq_some_iff.1 h.row).1
theorem Rt.c0 (h : Rt B w g gap v G) : w.cell? ⟨g, 0, none⟩ = some (.bool true) := cell_of_row w g 0 _ 106 (0, 0) h.row
theorem Rt.c1 (h : Rt B w g gap v G) : w.cell? ⟨g, 1, none⟩ = some (.int .i64 gap) := cell_of_row w g 1 _ 106 (0, 0) h.row
theorem Rt.c2 (h : Rt B w g gap v G) : w.cell? ⟨g, 2, none⟩ = some v := cell_of_row w g 2 _ 106 (0, 0) h.row
theorem Rt.fz (h : Rt B w g gap v G) (j : Nat) : w.frozen? ⟨g, j, none⟩ = false := frozen_of_row w g j _ 106 h.row
theorem Rt.keep (h : Rt B w g gap v G) (hb : Below w.heap.size w w') : Rt B w' g gap v G := ⟨(hb.block g h.lt).trans h.row, own_keep h.its hb⟩
/-- An element's cells. -/
theorem Rt.at (h : Rt B w g gap v G) {gb n cb : Nat} (hv : v = .slice (some ⟨gb, 0, none⟩) n cb) {k : Nat} {e : Gr} (hk : G[k]? = some e) : w.cell? ⟨gb, k * 2, none⟩ = some (.string e.k) ∧ w.cell? ⟨gb, k * 2 + 1, none⟩ = some (.int .i64 e.t) := by
  subst hv
  exact ⟨own_get h.its (by have := grC_get G k e hk 0 (by omega); simpa [Gr.cells] using this), own_get h.its (by have := grC_get G k e hk 1 (by omega); simpa [Gr.cells] using this)⟩
theorem none_any (h : Rt B w g gap v G) : Calls Try.prog 57 #[.pointer (some ⟨g, 0, none⟩)] w fun e w' => e = .returned (.bool false) ∧ w = w' := by
  have c0 := h.c0
  clear h
  go_enter Try.func57, Try.ntmps57
  go_wp2
  go_ret
  exact ⟨rfl, rfl⟩
theorem time_any (n : Int) (w : World) : Calls Try.prog 56 #[.int .i64 n] w fun e w' => e = .returned (.bool (decide (0 ≤ n ∧ n ≤ 1073741824))) ∧ w = w' := by
  by_cases h0 : 0 ≤ n
  · by_cases h1 : n ≤ 1073741824
    · rw [decide_eq_true (show 0 ≤ n ∧ n ≤ 1073741824 from ⟨h0, h1⟩)]
      go_enter Try.func56, Try.ntmps56
      go_wp2
      go_ret
      exact ⟨rfl, rfl⟩
    · rw [decide_eq_false (show ¬ (0 ≤ n ∧ n ≤ 1073741824) from fun h => h1 h.2)]
      go_enter Try.func56, Try.ntmps56
      go_wp2
      go_ret
      exact ⟨rfl, rfl⟩
  · rw [decide_eq_false (show ¬ (0 ≤ n ∧ n ≤ 1073741824) from fun h => h0 h.1)]
    go_enter Try.func56, Try.ntmps56
    go_wp2
    go_ret
    exact ⟨rfl, rfl⟩
theorem len_any (h : Rt B w g gap v G) : Calls Try.prog 49 #[.pointer (some ⟨g, 0, none⟩)] w fun e w' => e = .returned (.int .i64 (G.length : Nat)) ∧ w = w' := by
  have N := Lib.hid (none_any h)
  have c2 := h.c2
  obtain ⟨a, c, rfl⟩ := own_slice h.its
  clear h
  go_enter Try.func49, Try.ntmps49
  go_wp2_with fail
  refine N.out.mono ?_
  rintro e w1 ⟨rfl, rfl⟩
  go_wp2
  go_ret
  exact ⟨rfl, rfl⟩
theorem new_bad (n : Int) (w : World) (h : ¬ (0 ≤ n ∧ n ≤ 1073741824)) : Calls Try.prog 41 #[.int .i64 n] w fun e w' => e = .returned (.tuple #[.pointer none, .int .i64 1]) ∧ w = w' := by
  have T := time_any n w
  rw [decide_eq_false h] at T
  replace T := Lib.hid T
  clear h
  go_enter Try.func41, Try.ntmps41
  go_wp2_with fail
  refine T.out.mono ?_
  rintro e w1 ⟨rfl, rfl⟩
  go_wp2
  go_ret2
  exact ⟨rfl, rfl⟩
theorem new_any (B : Nat) (n : Int) (w : World) (h : 0 ≤ n ∧ n ≤ 1073741824) : Calls Try.prog 41 #[.int .i64 n] w fun e w' => e = .returned (.tuple #[.pointer (some ⟨w.heap.size, 0, none⟩), .int .i64 0]) ∧ Rt B w' w.heap.size n (.slice none 0 0) [] ∧ Below w.heap.size w w' ∧ w'.heap.size = w.heap.size + 1 := by
  have T := time_any n w
  rw [decide_eq_true h] at T
  replace T := Lib.hid T
  clear h
  go_enter Try.func41, Try.ntmps41
  go_wp2_with fail
  refine T.out.mono ?_
  rintro e w1 ⟨rfl, rfl⟩
  go_wp2
  go_ret2
  exact ⟨rfl, ⟨heap_alloc_new w _, World.ownsRow_nil _ _ _ _⟩, ext_alloc w _, by simp⟩
theorem eqS (a b : ByteArray) : (a.toList == b.toList) = decide (a = b) := by
  by_cases h : a = b
  · subst h; simp
  · rw [decide_eq_false h, beq_eq_false_iff_ne]
    intro e
    apply h
    rw [ByteArray.toList_eq, ByteArray.toList_eq] at e
    cases a; cases b; simp only [Array.toList_inj] at e; rw [e]
/-- Is a key an element's? -/
theorem is_any (k : ByteArray) (e : Gr) (p : Nat) (w : World) (hp : w.cell? ⟨p, 0, none⟩ = some (.string k)) : Calls Try.prog 65 #[.agg #[.string e.k, .int .i64 e.t], .pointer (some ⟨p, 0, none⟩)] w fun x w' => x = .returned (.bool (decide (e.k = k))) ∧ Below w.heap.size w w' := by
  have hp2 := ((ext_alloc w (.cells #[.string e.k, .int .i64 e.t] 109)).cell (p := ⟨p, 0, none⟩) (World.block_lt_of_cell? w _ hp)).trans hp
  obtain ⟨ek, et⟩ := e
  simp only at hp2 ⊢
  go_enter Try.func65, Try.ntmps65
  go_wp2
  go_ret
  exact ⟨by rw [← eqS]; rfl, ext_alloc _ _⟩
/-- Where a key's element stands. -/
def ix (G : List Gr) (k : ByteArray) : Nat := G.findIdx fun e => decide (e.k = k)
def fnd (G : List Gr) (k : ByteArray) : Int := if ix G k < G.length then (ix G k : Int) else -1
theorem ix_lo {G : List Gr} {k : ByteArray} {j : Nat} {e : Gr} (h : j < ix G k) (he : G[j]? = some e) : e.k ≠ k := by
  have hj := (List.getElem?_eq_some_iff.1 he).1
  unfold ix at h
  have := List.not_of_lt_findIdx (xs := G) (p := fun e : Gr => decide (e.k = k)) (i := j) h
  rw [(List.getElem?_eq_some_iff.1 he).2] at this
  simpa using this
theorem ix_hit {G : List Gr} {k : ByteArray} (h : ix G k < G.length) : ∃ e, G[ix G k]? = some e ∧ e.k = k := by
  unfold ix at h ⊢
  have := List.findIdx_getElem (xs := G) (p := fun e : Gr => decide (e.k = k)) (w := h)
  exact ⟨_, List.getElem?_eq_getElem h, by simpa using this⟩
set_option maxHeartbeats 2000000 in
set_option maxRecDepth 100000 in
theorem index_any (h : Rt B w g gap v G) (hG : G.length ≤ 1000) (k : ByteArray) (p : Nat) (hp : w.cell? ⟨p, 0, none⟩ = some (.string k)) : Calls Try.prog 64 #[v, .func (.func 65) #[] #[.pointer (some ⟨p, 0, none⟩)]] w fun e w' => e = .returned (.int .i64 (fnd G k)) ∧ Below w.heap.size w w' := by
  have hplt := World.block_lt_of_cell? w _ hp
  have IS := Lib.hid (fun (e : Gr) W (hW : Below w.heap.size w W) => is_any k e p W ((hW.cell (p := ⟨p, 0, none⟩) hplt).trans hp))
  obtain ⟨a, c, rfl⟩ := own_slice h.its
  have hG' : (G.length : Int) ≤ 1000 := by omega
  have hil : ix G k ≤ G.length := List.findIdx_le_length
  replace h := Lib.hid h
  go_enter Try.func64, Try.ntmps64
  go_wp2_with fail
  go_loopw [8] (fun iv wr => ∃ i : Nat, iv = .int .i64 (i : Int) ∧ i ≤ ix G k ∧ Below w.heap.size w wr) (fun iv _ => G.length - (intOf iv).toNat)
  case atStart => exact ⟨0, rfl, by omega, Below.refl _ _⟩
  case round =>
    obtain ⟨i, rfl, hi, hb⟩ := hrel
    have HB := Lib.hid hb
    by_cases hlt : i < G.length
    · have hlt' : (i : Int) < (G.length : Int) := by omega
      obtain ⟨e, he⟩ : ∃ e, G[i]? = some e := ⟨_, List.getElem?_eq_getElem hlt⟩
      obtain ⟨gb, cb, hv⟩ := own_slice' h.out.its (by omega)
      obtain ⟨q0, q1⟩ := (h.out.keep hb).at hv he
      simp only [Value.slice.injEq] at hv
      obtain ⟨rfl, -, rfl⟩ := hv
      have I := IS.out e wr hb
      by_cases hq : i < ix G k
      · have hne := ix_lo hq he
        rw [decide_eq_false hne] at I
        replace I := Lib.hid I
        clear hb he hne
        go_wp2_with fail
        refine I.out.mono ?_
        rintro x w2 ⟨rfl, b2⟩
        have B2 := Lib.hid (ext_trans HB.out b2)
        clear b2
        go_wp2_with fail
        go_roundw
        case rel => exact ⟨i + 1, by simp, by omega, B2.out⟩
        case measure => simp [intOf]; omega
      · have hqe : ix G k = i := by omega
        have hf : fnd G k = (i : Int) := by unfold fnd; rw [hqe, if_pos hlt]
        obtain ⟨e2, h1, h2⟩ := ix_hit (G := G) (k := k) (by omega)
        rw [hqe, he] at h1
        obtain rfl : e = e2 := by simpa using h1
        rw [decide_eq_true h2] at I
        replace hf := Lib.hid hf
        replace I := Lib.hid I
        clear hb he h1 h2 hqe hil hi hq
        go_wp2_with fail
        refine I.out.mono ?_
        rintro x w2 ⟨rfl, b2⟩
        have B2 := Lib.hid (ext_trans HB.out b2)
        clear b2
        go_wp2_with fail
        go_ret
        exact ⟨by rw [hf.out]; rfl, B2.out⟩
    · have hqe : ix G k = G.length := by omega
      have hf : fnd G k = -1 := by unfold fnd; rw [if_neg (by omega)]
      have hie : i = G.length := by omega
      subst hie
      replace hf := Lib.hid hf
      clear hb hqe hil hi IS
      go_wp2_with fail
      go_ret
      exact ⟨by rw [hf.out]; rfl, HB.out⟩
set_option maxHeartbeats 2000000 in
set_option maxRecDepth 100000 in
theorem find_any (h : Rt B w g gap v G) (hG : G.length ≤ 1000) (k : ByteArray) : Calls Try.prog 58 #[.pointer (some ⟨g, 0, none⟩), .string k] w fun e w' => e = .returned (.int .i64 (fnd G k)) ∧ Below w.heap.size w w' := by
  have hb := ext_alloc w (.cells #[.string k] 9)
  have N := Lib.hid (none_any (h.keep hb))
  have c2 := (h.keep hb).c2
  have IX := Lib.hid (index_any (h.keep hb) hG k w.heap.size (by simp))
  replace hb := Lib.hid hb
  clear h
  go_enter Try.func58, Try.ntmps58
  go_wp2_with fail
  refine N.out.mono ?_
  rintro e w1 ⟨rfl, rfl⟩
  go_wp2_with fail
  refine IX.out.mono ?_
  rintro e w1 ⟨rfl, b1⟩
  replace b1 := Lib.hid b1
  go_wp2
  go_ret
  exact ⟨rfl, ext_trans hb.out b1.out⟩
end
end Go.Proofs.Ytoijdmchkjmpgaa.Rte
