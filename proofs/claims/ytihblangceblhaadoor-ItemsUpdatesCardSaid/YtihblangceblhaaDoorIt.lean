/-
  A SLICE OF STRUCTS (type 37): read as a list, cell by cell.
-/
import Derived.Test.YtihblangceblhaaDoorProg
import Derived.Test.YtihblangceblhaaDoorCom
import Derived.OpenShut
import Derived.SizedLaws
import Derived.Deep.Slices
import Derived.Lib.SmallJoins
import Derived.ChangeArms
import Derived.KernelRfl
import Derived.Maps.AppendAt
import Derived.Laws.OwnMore
import Derived.Lib.Hide
namespace Go.Proofs.YtihblangceblhaaDoor
set_option linter.unusedSimpArgs false
set_option linter.unusedVariables false
open Go.ChangeShapes Go.WideShapes Go.RowKit Go.Deep

theorem list_3 {α : Type} {l : List α} (h : l.length = 3) : ∃ x0 x1 x2, l = [x0, x1, x2] := by
  match l, h with
  | [x0, x1, x2], _ => exact ⟨_, _, _, rfl⟩
theorem list_6 {α : Type} {l : List α} (h : l.length = 6) : ∃ x0 x1 x2 x3 x4 x5, l = [x0, x1, x2, x3, x4, x5] := by
  match l, h with
  | [x0, x1, x2, x3, x4, x5], _ => exact ⟨_, _, _, _, _, _, rfl⟩
theorem list_8 {α : Type} {l : List α} (h : l.length = 8) : ∃ x0 x1 x2 x3 x4 x5 x6 x7, l = [x0, x1, x2, x3, x4, x5, x6, x7] := by
  match l, h with
  | [x0, x1, x2, x3, x4, x5, x6, x7], _ => exact ⟨_, _, _, _, _, _, _, _, rfl⟩
theorem open_t28 {H : Type} {enc : TypeId × Value → H} {w : World} {base : Nat} {spare : Nat → Bool} {held : Bool} {fuel : Nat} {cs : List Value} {x : DataW H × List MemPlace}
    (h : DataW.trod enc Tryd.prog w base spare held fuel 28 cs = some x) :
    ∃ (a0 : Int) (a1 : Int) (a2 : ByteArray), cs = [.int .i64 a0, .int .u64 a1, .string a2] ∧ x = (.agg [.lit (.int .i64 a0), .lit (.int .u64 a1), .lit (.string a2.data.toList)], []) ∧ (Lit.int .i64 a0).wf = true ∧ (Lit.int .u64 a1).wf = true := by
  obtain ⟨xs, n, -, rfl, hl, hlen, hg⟩ := DataW.trod_struct Tryd.underlying28 h
  rw [show Tryd.prog.cellsOf 28 = 3 from by kernel_rfl] at hl
  obtain ⟨c0, c1, c2, rfl⟩ := list_3 hl
  obtain ⟨y0, y1, y2, rfl⟩ := list_3 hlen
  have g0 := hg 0 _ rfl
  simp only [List.getElem_toArray, List.getElem_cons_zero, List.getElem_cons_succ, show Tryd.prog.cellsOf 3 = 1 from by kernel_rfl, List.drop_zero, List.drop_succ_cons, List.take_succ_cons, List.take_zero, List.getElem?_cons_zero, List.getElem?_cons_succ] at g0
  obtain ⟨a0, q0, rfl, w0⟩ := DataW.trod_int Tryd.underlying3 g0
  obtain rfl : c0 = .int .i64 a0 := by simpa using q0
  have g1 := hg 1 _ rfl
  simp only [List.getElem_toArray, List.getElem_cons_zero, List.getElem_cons_succ, show Tryd.prog.cellsOf 23 = 1 from by kernel_rfl, List.drop_zero, List.drop_succ_cons, List.take_succ_cons, List.take_zero, List.getElem?_cons_zero, List.getElem?_cons_succ] at g1
  obtain ⟨a1, q1, rfl, w1⟩ := DataW.trod_int Tryd.underlying23 g1
  obtain rfl : c1 = .int .u64 a1 := by simpa using q1
  have g2 := hg 2 _ rfl
  simp only [List.getElem_toArray, List.getElem_cons_zero, List.getElem_cons_succ, show Tryd.prog.cellsOf 9 = 1 from by kernel_rfl, List.drop_zero, List.drop_succ_cons, List.take_succ_cons, List.take_zero, List.getElem?_cons_zero, List.getElem?_cons_succ] at g2
  obtain ⟨a2, q2, rfl, -⟩ := DataW.trod_string Tryd.underlying9 g2
  obtain rfl : c2 = .string a2 := by simpa using q2
  exact ⟨_, _, _, rfl, rfl, w0, w1⟩
theorem open_t37 {H : Type} {enc : TypeId × Value → H} {w : World} {base : Nat} {spare : Nat → Bool} {held : Bool} {fuel : Nat} {cs : List Value} {x : DataW H × List MemPlace}
    (h : DataW.trod enc Tryd.prog w base spare held fuel 37 cs = some x) :
    ∃ (a0 : ByteArray) (a1 : Bool) (a2 : Int) (a3 : Int) (a4 : Bool) (a5_0 : Int) (a5_1 : Int) (a5_2 : ByteArray), cs = [.string a0, .bool a1, .int .u64 a2, .int .u32 a3, .bool a4, .int .i64 a5_0, .int .u64 a5_1, .string a5_2] ∧ x = (.agg [.lit (.string a0.data.toList), .lit (.bool a1), .lit (.int .u64 a2), .lit (.int .u32 a3), .lit (.bool a4), .agg [.lit (.int .i64 a5_0), .lit (.int .u64 a5_1), .lit (.string a5_2.data.toList)]], []) ∧ (Lit.int .u64 a2).wf = true ∧ (Lit.int .u32 a3).wf = true ∧ (Lit.int .i64 a5_0).wf = true ∧ (Lit.int .u64 a5_1).wf = true := by
  obtain ⟨xs, n, -, rfl, hl, hlen, hg⟩ := DataW.trod_struct Tryd.underlying37 h
  rw [show Tryd.prog.cellsOf 37 = 8 from by kernel_rfl] at hl
  obtain ⟨c0, c1, c2, c3, c4, c5, c6, c7, rfl⟩ := list_8 hl
  obtain ⟨y0, y1, y2, y3, y4, y5, rfl⟩ := list_6 hlen
  have g0 := hg 0 _ rfl
  simp only [List.getElem_toArray, List.getElem_cons_zero, List.getElem_cons_succ, show Tryd.prog.cellsOf 9 = 1 from by kernel_rfl, List.drop_zero, List.drop_succ_cons, List.take_succ_cons, List.take_zero, List.getElem?_cons_zero, List.getElem?_cons_succ] at g0
  obtain ⟨a0, q0, rfl, -⟩ := DataW.trod_string Tryd.underlying9 g0
  obtain rfl : c0 = .string a0 := by simpa using q0
  have g1 := hg 1 _ rfl
  simp only [List.getElem_toArray, List.getElem_cons_zero, List.getElem_cons_succ, show Tryd.prog.cellsOf 4 = 1 from by kernel_rfl, List.drop_zero, List.drop_succ_cons, List.take_succ_cons, List.take_zero, List.getElem?_cons_zero, List.getElem?_cons_succ] at g1
  obtain ⟨a1, q1, rfl⟩ := DataW.trod_bool Tryd.underlying4 g1
  obtain rfl : c1 = .bool a1 := by simpa using q1
  have g2 := hg 2 _ rfl
  simp only [List.getElem_toArray, List.getElem_cons_zero, List.getElem_cons_succ, show Tryd.prog.cellsOf 23 = 1 from by kernel_rfl, List.drop_zero, List.drop_succ_cons, List.take_succ_cons, List.take_zero, List.getElem?_cons_zero, List.getElem?_cons_succ] at g2
  obtain ⟨a2, q2, rfl, w2⟩ := DataW.trod_int Tryd.underlying23 g2
  obtain rfl : c2 = .int .u64 a2 := by simpa using q2
  have g3 := hg 3 _ rfl
  simp only [List.getElem_toArray, List.getElem_cons_zero, List.getElem_cons_succ, show Tryd.prog.cellsOf 24 = 1 from by kernel_rfl, List.drop_zero, List.drop_succ_cons, List.take_succ_cons, List.take_zero, List.getElem?_cons_zero, List.getElem?_cons_succ] at g3
  obtain ⟨a3, q3, rfl, w3⟩ := DataW.trod_int Tryd.underlying24 g3
  obtain rfl : c3 = .int .u32 a3 := by simpa using q3
  have g4 := hg 4 _ rfl
  simp only [List.getElem_toArray, List.getElem_cons_zero, List.getElem_cons_succ, show Tryd.prog.cellsOf 4 = 1 from by kernel_rfl, List.drop_zero, List.drop_succ_cons, List.take_succ_cons, List.take_zero, List.getElem?_cons_zero, List.getElem?_cons_succ] at g4
  obtain ⟨a4, q4, rfl⟩ := DataW.trod_bool Tryd.underlying4 g4
  obtain rfl : c4 = .bool a4 := by simpa using q4
  have g5 := hg 5 _ rfl
  simp only [List.getElem_toArray, List.getElem_cons_zero, List.getElem_cons_succ, show Tryd.prog.cellsOf 28 = 3 from by kernel_rfl, List.drop_zero, List.drop_succ_cons, List.take_succ_cons, List.take_zero, List.getElem?_cons_zero, List.getElem?_cons_succ] at g5
  obtain ⟨a5_0, a5_1, a5_2, q5, rfl, w5_0, w5_1⟩ := open_t28 g5
  simp only [List.cons.injEq, and_true] at q5
  obtain ⟨rfl, rfl, rfl⟩ := q5
  exact ⟨_, _, _, _, _, _, _, _, rfl, rfl, w2, w3, w5_0, w5_1⟩
structure It where
  a0 : ByteArray
  a1 : Bool
  a2 : Int
  a3 : Int
  a4 : Bool
  a5_0 : Int
  a5_1 : Int
  a5_2 : ByteArray
def It.cells (f : It) : List Value := [.string f.a0, .bool f.a1, .int .u64 f.a2, .int .u32 f.a3, .bool f.a4, .int .i64 f.a5_0, .int .u64 f.a5_1, .string f.a5_2]
def It.ok (f : It) : Prop := f.a0.size ≤ 140737488351232 ∧ (Lit.int .u64 f.a2).wf = true ∧ (Lit.int .u32 f.a3).wf = true ∧ (Lit.int .i64 f.a5_0).wf = true ∧ (Lit.int .u64 f.a5_1).wf = true ∧ f.a5_2.size ≤ 140737488351232
theorem It.cells_len (f : It) : f.cells.length = 8 := rfl
def itsAtC (l : List It) : List Value := l.flatMap It.cells
theorem itsAtC_length (l : List It) : (itsAtC l).length = l.length * 8 := by
  induction l with
  | nil => rfl
  | cons f l ih => simp only [itsAtC, List.flatMap_cons, List.length_append] at ih ⊢; rw [ih]; simp [It.cells_len]; omega
theorem itsAtC_get (l : List It) : ∀ (i : Nat) (f : It), l[i]? = some f → ∀ j, j < 8 → (itsAtC l)[i * 8 + j]? = f.cells[j]? := by
  induction l with
  | nil => intro i f h; simp at h
  | cons g l ih =>
    intro i f h j hj
    have e : itsAtC (g :: l) = g.cells ++ itsAtC l := by simp [itsAtC]
    rw [e]
    cases i with
    | zero =>
      simp at h; subst h
      rw [Nat.zero_mul, Nat.zero_add, List.getElem?_append_left (by rw [It.cells_len]; exact hj)]
    | succ i =>
      rw [List.getElem?_append_right (by rw [It.cells_len]; omega), It.cells_len]
      rw [show (i + 1) * 8 + j - 8 = i * 8 + j by omega]
      exact ih i f (by simpa using h) j hj
theorem itsAtC_snoc (l : List It) (f : It) : itsAtC (l ++ [f]) = itsAtC l ++ f.cells := by simp [itsAtC]
theorem itsAtC_append (l m : List It) : itsAtC (l ++ m) = itsAtC l ++ itsAtC m := by simp [itsAtC]
theorem itsAtC_one (l : List It) : ∀ u ∈ itsAtC l, u.oneCell' = true := by
  intro u hu
  unfold itsAtC at hu
  obtain ⟨f, -, hf⟩ := List.mem_flatMap.1 hu
  simp only [It.cells, List.mem_cons, List.not_mem_nil, or_false] at hf
  rcases hf with rfl | rfl | rfl | rfl | rfl | rfl | rfl | rfl <;> rfl
/-- The slice value v reads as l. -/
def ItsAt (w : World) (v : Value) (l : List It) : Prop :=
  ∃ a cap, v = .slice a l.length cap ∧ l.length ≤ 140737488351232 ∧ (l = [] ∨ ∃ b o, a = some ⟨b, o, none⟩ ∧ b < w.heap.size ∧ ∀ i f, l[i]? = some f → ∀ j u, f.cells[j]? = some u → w.cell? ⟨b, o + i * 8 + j, none⟩ = some u)
theorem ItsAt.keep {w w' : World} {v : Value} {l : List It} (h : ItsAt w v l) {B : Nat} (hb : Below B w w') (hB : w.heap.size ≤ B) : ItsAt w' v l := by
  obtain ⟨a, cap, hv, hc, h⟩ := h
  refine ⟨a, cap, hv, hc, h.imp id ?_⟩
  rintro ⟨b, o, ha, hlt, hcell⟩
  exact ⟨b, o, ha, Nat.lt_of_lt_of_le hlt hb.size, fun i f hi j u hu => by rw [hb.cell (by simpa using by omega)]; exact hcell i f hi j u hu⟩
theorem itsAt_nil (w : World) : ItsAt w (.slice none 0 0) [] := ⟨none, 0, rfl, by simp, .inl rfl⟩
/-- The cells of the k-th, behind what turned nothing old. -/
theorem itsAt_at {w wr : World} {a : Option Addr} {l : List It} {k : Nat} {f : It} (hf : l[k]? = some f) (hb : Below w.heap.size w wr)
    (hc : l = [] ∨ ∃ b o, a = some ⟨b, o, none⟩ ∧ b < w.heap.size ∧ ∀ i f, l[i]? = some f → ∀ j u, f.cells[j]? = some u → w.cell? ⟨b, o + i * 8 + j, none⟩ = some u) :
    ∃ b o, a = some ⟨b, o, none⟩ ∧ b < w.heap.size ∧ wr.cell? ⟨b, o + k * 8, none⟩ = some (.string f.a0) ∧ wr.cell? ⟨b, o + k * 8 + 1, none⟩ = some (.bool f.a1) ∧ wr.cell? ⟨b, o + k * 8 + 2, none⟩ = some (.int .u64 f.a2) ∧ wr.cell? ⟨b, o + k * 8 + 3, none⟩ = some (.int .u32 f.a3) ∧ wr.cell? ⟨b, o + k * 8 + 4, none⟩ = some (.bool f.a4) ∧ wr.cell? ⟨b, o + k * 8 + 5, none⟩ = some (.int .i64 f.a5_0) ∧ wr.cell? ⟨b, o + k * 8 + 6, none⟩ = some (.int .u64 f.a5_1) ∧ wr.cell? ⟨b, o + k * 8 + 7, none⟩ = some (.string f.a5_2) := by
  rcases hc with h | ⟨b, o, ha, hlt, hc⟩
  · subst h; simp at hf
  · have g : ∀ j u, f.cells[j]? = some u → wr.cell? ⟨b, o + k * 8 + j, none⟩ = some u := fun j u hu => by rw [hb.cell (by simpa using hlt)]; exact hc k f hf j u hu
    exact ⟨b, o, ha, hlt, g 0 _ rfl, g 1 _ rfl, g 2 _ rfl, g 3 _ rfl, g 4 _ rfl, g 5 _ rfl, g 6 _ rfl, g 7 _ rfl⟩
theorem ItsAt.of_own {w : World} {B : Nat} {v : Value} {l : List It} (h : w.ownsRow B 37 8 v l.length (itsAtC l)) (hl : l.length ≤ 140737488351232) : ItsAt w v l := by
  obtain ⟨h1, h2⟩ := h
  rcases h2 with ⟨rfl, hn⟩ | ⟨g, cap, cur, hv, hb, hg, hnc, hcm, hcs, ht⟩
  · exact ⟨none, 0, by rw [hn], hl, .inl (List.eq_nil_of_length_eq_zero hn)⟩
  · refine ⟨_, cap, hv, hl, .inr ⟨g, 0, rfl, (Array.getElem?_eq_some_iff.1 hg).1, fun i f hi j u hj => ?_⟩⟩
    have hjn : j < 8 := (List.getElem?_eq_some_iff.1 hj).1
    rw [cell_of_row w g _ cur 37 (0, 0) hg]
    have hx := itsAtC_get l i f hi j hjn
    rw [hj, ← ht, List.getElem?_take] at hx
    split at hx
    · rw [← hx]; simp
    · cases hx

theorem itsAt_open1 {H : Type} {enc : TypeId × Value → H} {w : World} {base : Nat} {spare : Nat → Bool} {held : Bool} {fuel : Nat} {cs : List Value} {x : DataW H × List MemPlace}
    (h : DataW.trod enc Tryd.prog w base spare held fuel 37 cs = some x) (hs : ∀ n ∈ x.1.weights Tryd.prog 37, n ≤ 140737488351232) : ∃ f : It, cs = f.cells ∧ f.ok := by
  obtain ⟨a0, a1, a2, a3, a4, a5_0, a5_1, a5_2, rfl, rfl, wf_a2, wf_a3, wf_a5_0, wf_a5_1⟩ := open_t37 h
  refine ⟨⟨a0, a1, a2, a3, a4, a5_0, a5_1, a5_2⟩, rfl, ?_, wf_a2, wf_a3, wf_a5_0, wf_a5_1, ?_⟩
  · have := hs a0.data.toList.length (by simp [DataW.weights, DataW.weightsEach, Tryd.underlying3, Tryd.underlying4, Tryd.underlying9, Tryd.underlying23, Tryd.underlying24, Tryd.underlying28, Tryd.underlying37])
    simpa using this
  · have := hs a5_2.data.toList.length (by simp [DataW.weights, DataW.weightsEach, Tryd.underlying3, Tryd.underlying4, Tryd.underlying9, Tryd.underlying23, Tryd.underlying24, Tryd.underlying28, Tryd.underlying37])
    simpa using this
theorem weightsAll_mem' {H : Type} {P : Program} {e : TypeId} {d : DataW H} : ∀ {l : List (DataW H)}, d ∈ l → ∀ n ∈ d.weights P e, n ∈ DataW.weightsAll P e l
  | x :: l, h, n, hn => by
    rw [DataW.weightsAll]
    rcases List.mem_cons.1 h with rfl | h
    · exact List.mem_append_left _ hn
    · exact List.mem_append_right _ (weightsAll_mem' h n hn)
theorem add_off' (b o i : Nat) : (⟨b, o, none⟩ : Addr).add i = ⟨b, o + i, none⟩ := by unfold Addr.add; split <;> simp_all
/-- A slice that came in reads as a list. -/
theorem open_its {H : Type} {enc : TypeId × Value → H} {w : World} {fuel : Nat} {a : Option Addr} {len cap : Nat} {x : DataW H × List MemPlace}
    (h : DataW.trod enc Tryd.prog w 0 (fun _ => true) true fuel 33 [.slice a len cap] = some x) (hs : ∀ n ∈ x.1.weights Tryd.prog 33, n ≤ 140737488351232) :
    ∃ l : List It, ItsAt w (.slice a len cap) l ∧ ∀ f ∈ l, f.ok := by
  rcases Go.Deep.open_slice Tryd.underlying33 h with ⟨hcs, hx⟩ | ⟨a', len', cap', m, n, D, Pl, hcs, -, hl, hm, hmm, rfl, hx⟩
  · simp only [List.cons.injEq, Value.slice.injEq, and_true] at hcs
    obtain ⟨rfl, rfl, rfl⟩ := hcs
    exact ⟨[], itsAt_nil _, by simp⟩
  · simp only [List.cons.injEq, Value.slice.injEq, and_true] at hcs
    obtain ⟨rfl, rfl, rfl⟩ := hcs
    have hml : len ≤ m := by rw [hmm]; split <;> omega
    have hbig : len ≤ 140737488351232 := by
      have hw := hs _ (by simp only [DataW.weights, Tryd.underlying33]; exact List.mem_cons_self)
      have hbo : 1 ≤ Tryd.prog.bytesOf 37 := Nat.le_of_ble_eq_true (by kernel_rfl)
      simp only [List.length_map, List.length_range] at hw
      exact Nat.le_trans (Nat.le_trans (Nat.le_add_right _ _) (Nat.le_mul_of_pos_right _ hbo)) hw
    have key : ∀ i, i < len → ∃ f : It, w.cells? 0 (a'.add (i * 8)) 8 = some f.cells ∧ f.ok := fun i hi => by
      obtain ⟨cs', h1, h2⟩ := hx i (by omega)
      rw [show Tryd.prog.cellsOf 37 = 8 from by kernel_rfl] at h1
      obtain ⟨f, rfl, ok⟩ := itsAt_open1 h2 (fun n hn => hs n (by
        simp only [DataW.weights, Tryd.underlying33]
        refine List.mem_cons_of_mem _ (List.mem_append_left _ (weightsAll_mem' (d := D i) (List.mem_map.2 ⟨i, List.mem_range.2 hi, rfl⟩) n hn))))
      exact ⟨f, h1, ok⟩
    haveI : Inhabited It := ⟨⟨⟨#[]⟩, false, 0, 0, false, 0, 0, ⟨#[]⟩⟩⟩
    obtain ⟨F, hF⟩ := Go.Deep.choose_lt key
    have hlen : ((List.range len).map F).length = len := by simp
    refine ⟨(List.range len).map F, ⟨some a', cap, by rw [hlen], by rw [hlen]; exact hbig, ?_⟩, ?_⟩
    · by_cases h0 : len = 0
      · subst h0; exact .inl rfl
      · right
        have hc0 := (hF 0 (by omega)).1
        obtain ⟨b, o, spot⟩ := a'
        have hc := (World.cells?_some hc0)
        have hsp : spot = none := by
          have := hc.2.2 0 (by omega)
          rw [show (It.cells (F 0))[0]? = some (.string (F 0).a0) from rfl] at this
          simpa [Addr.add] using World.cell?_spot this
        subst hsp
        refine ⟨b, o, rfl, by have := World.cells?_block hc0 (by omega); simpa [Addr.add] using this, fun i f hi j u hj => ?_⟩
        have hil : i < len := by have := (List.getElem?_eq_some_iff.1 hi).1; simpa using this
        have hf : F i = f := by simpa [hil] using hi
        subst hf
        have hjn : j < 8 := (List.getElem?_eq_some_iff.1 hj).1
        have h0 := (World.cells?_some (hF i hil).1).2.2 j hjn
        rw [add_off', add_off', hj] at h0
        exact h0
    · intro f hf
      obtain ⟨i, hi, rfl⟩ := List.mem_map.1 hf
      exact (hF i (List.mem_range.1 hi)).2
end Go.Proofs.YtihblangceblhaaDoor
