/-
  A SLICE OF STRUCTS (type 33): read as a list, cell by cell.
-/
import Derived.Test.YtfdaooaooalknaaProg
import Derived.Test.YtfdaooaooalknaaCom
import Derived.OpenShut
import Derived.SizedLaws
import Derived.Deep.Slices
import Derived.Lib.SmallJoins
import Derived.ChangeArms
import Derived.KernelRfl
import Derived.Maps.AppendAt
import Derived.Laws.OwnMore
import Derived.Lib.Hide
namespace Go.Proofs.Ytfdaooaooalknaa
set_option linter.unusedSimpArgs false
set_option linter.unusedVariables false
open Go.ChangeShapes Go.WideShapes Go.RowKit Go.Deep

theorem list_4 {α : Type} {l : List α} (h : l.length = 4) : ∃ x0 x1 x2 x3, l = [x0, x1, x2, x3] := by
  match l, h with
  | [x0, x1, x2, x3], _ => exact ⟨_, _, _, _, rfl⟩
theorem open_t33 {H : Type} {enc : TypeId × Value → H} {w : World} {base : Nat} {spare : Nat → Bool} {held : Bool} {fuel : Nat} {cs : List Value} {x : DataW H × List MemPlace}
    (h : DataW.trod enc Try.prog w base spare held fuel 33 cs = some x) :
    ∃ (a0 : ByteArray) (a1 : ByteArray) (a2 : Int) (a3 : Bool), cs = [.string a0, .string a1, .int .i64 a2, .bool a3] ∧ x = (.agg [.lit (.string a0.data.toList), .lit (.string a1.data.toList), .lit (.int .i64 a2), .lit (.bool a3)], []) ∧ (Lit.int .i64 a2).wf = true := by
  obtain ⟨xs, n, -, rfl, hl, hlen, hg⟩ := DataW.trod_struct Try.underlying33 h
  rw [show Try.prog.cellsOf 33 = 4 from by kernel_rfl] at hl
  obtain ⟨c0, c1, c2, c3, rfl⟩ := list_4 hl
  obtain ⟨y0, y1, y2, y3, rfl⟩ := list_4 hlen
  have g0 := hg 0 _ rfl
  simp only [List.getElem_toArray, List.getElem_cons_zero, List.getElem_cons_succ, show Try.prog.cellsOf 9 = 1 from by kernel_rfl, List.drop_zero, List.drop_succ_cons, List.take_succ_cons, List.take_zero, List.getElem?_cons_zero, List.getElem?_cons_succ] at g0
  obtain ⟨a0, q0, rfl, -⟩ := DataW.trod_string Try.underlying9 g0
  obtain rfl : c0 = .string a0 := by simpa using q0
  have g1 := hg 1 _ rfl
  simp only [List.getElem_toArray, List.getElem_cons_zero, List.getElem_cons_succ, show Try.prog.cellsOf 9 = 1 from by kernel_rfl, List.drop_zero, List.drop_succ_cons, List.take_succ_cons, List.take_zero, List.getElem?_cons_zero, List.getElem?_cons_succ] at g1
  obtain ⟨a1, q1, rfl, -⟩ := DataW.trod_string Try.underlying9 g1
  obtain rfl : c1 = .string a1 := by simpa using q1
  have g2 := hg 2 _ rfl
  simp only [List.getElem_toArray, List.getElem_cons_zero, List.getElem_cons_succ, show Try.prog.cellsOf 3 = 1 from by kernel_rfl, List.drop_zero, List.drop_succ_cons, List.take_succ_cons, List.take_zero, List.getElem?_cons_zero, List.getElem?_cons_succ] at g2
  obtain ⟨a2, q2, rfl, w2⟩ := DataW.trod_int Try.underlying3 g2
  obtain rfl : c2 = .int .i64 a2 := by simpa using q2
  have g3 := hg 3 _ rfl
  simp only [List.getElem_toArray, List.getElem_cons_zero, List.getElem_cons_succ, show Try.prog.cellsOf 4 = 1 from by kernel_rfl, List.drop_zero, List.drop_succ_cons, List.take_succ_cons, List.take_zero, List.getElem?_cons_zero, List.getElem?_cons_succ] at g3
  obtain ⟨a3, q3, rfl⟩ := DataW.trod_bool Try.underlying4 g3
  obtain rfl : c3 = .bool a3 := by simpa using q3
  exact ⟨_, _, _, _, rfl, rfl, w2⟩
structure Mg where
  a0 : ByteArray
  a1 : ByteArray
  a2 : Int
  a3 : Bool
def Mg.cells (f : Mg) : List Value := [.string f.a0, .string f.a1, .int .i64 f.a2, .bool f.a3]
def Mg.ok (f : Mg) : Prop := f.a0.size ≤ 140737488351232 ∧ f.a1.size ≤ 140737488351232 ∧ (Lit.int .i64 f.a2).wf = true
theorem Mg.cells_len (f : Mg) : f.cells.length = 4 := rfl
def msAtC (l : List Mg) : List Value := l.flatMap Mg.cells
theorem msAtC_length (l : List Mg) : (msAtC l).length = l.length * 4 := by
  induction l with
  | nil => rfl
  | cons f l ih => simp only [msAtC, List.flatMap_cons, List.length_append] at ih ⊢; rw [ih]; simp [Mg.cells_len]; omega
theorem msAtC_get (l : List Mg) : ∀ (i : Nat) (f : Mg), l[i]? = some f → ∀ j, j < 4 → (msAtC l)[i * 4 + j]? = f.cells[j]? := by
  induction l with
  | nil => intro i f h; simp at h
  | cons g l ih =>
    intro i f h j hj
    have e : msAtC (g :: l) = g.cells ++ msAtC l := by simp [msAtC]
    rw [e]
    cases i with
    | zero =>
      simp at h; subst h
      rw [Nat.zero_mul, Nat.zero_add, List.getElem?_append_left (by rw [Mg.cells_len]; exact hj)]
    | succ i =>
      rw [List.getElem?_append_right (by rw [Mg.cells_len]; omega), Mg.cells_len]
      rw [show (i + 1) * 4 + j - 4 = i * 4 + j by omega]
      exact ih i f (by simpa using h) j hj
theorem msAtC_snoc (l : List Mg) (f : Mg) : msAtC (l ++ [f]) = msAtC l ++ f.cells := by simp [msAtC]
theorem msAtC_append (l m : List Mg) : msAtC (l ++ m) = msAtC l ++ msAtC m := by simp [msAtC]
theorem msAtC_one (l : List Mg) : ∀ u ∈ msAtC l, u.oneCell' = true := by
  intro u hu
  unfold msAtC at hu
  obtain ⟨f, -, hf⟩ := List.mem_flatMap.1 hu
  simp only [Mg.cells, List.mem_cons, List.not_mem_nil, or_false] at hf
  rcases hf with rfl | rfl | rfl | rfl <;> rfl
/-- The slice value v reads as l. -/
def MsAt (w : World) (v : Value) (l : List Mg) : Prop :=
  ∃ a cap, v = .slice a l.length cap ∧ l.length * 48 ≤ 140737488351232 ∧ (l = [] ∨ ∃ b o, a = some ⟨b, o, none⟩ ∧ b < w.heap.size ∧ ∀ i f, l[i]? = some f → ∀ j u, f.cells[j]? = some u → w.cell? ⟨b, o + i * 4 + j, none⟩ = some u)
theorem MsAt.keep {w w' : World} {v : Value} {l : List Mg} (h : MsAt w v l) {B : Nat} (hb : Below B w w') (hB : w.heap.size ≤ B) : MsAt w' v l := by
  obtain ⟨a, cap, hv, hc, h⟩ := h
  refine ⟨a, cap, hv, hc, h.imp id ?_⟩
  rintro ⟨b, o, ha, hlt, hcell⟩
  exact ⟨b, o, ha, Nat.lt_of_lt_of_le hlt hb.size, fun i f hi j u hu => by rw [hb.cell (by simpa using by omega)]; exact hcell i f hi j u hu⟩
theorem msAt_nil (w : World) : MsAt w (.slice none 0 0) [] := ⟨none, 0, rfl, by simp, .inl rfl⟩
/-- The cells of the k-th, behind what turned nothing old. -/
theorem msAt_at {w wr : World} {a : Option Addr} {l : List Mg} {k : Nat} {f : Mg} (hf : l[k]? = some f) (hb : Below w.heap.size w wr)
    (hc : l = [] ∨ ∃ b o, a = some ⟨b, o, none⟩ ∧ b < w.heap.size ∧ ∀ i f, l[i]? = some f → ∀ j u, f.cells[j]? = some u → w.cell? ⟨b, o + i * 4 + j, none⟩ = some u) :
    ∃ b o, a = some ⟨b, o, none⟩ ∧ b < w.heap.size ∧ wr.cell? ⟨b, o + k * 4, none⟩ = some (.string f.a0) ∧ wr.cell? ⟨b, o + k * 4 + 1, none⟩ = some (.string f.a1) ∧ wr.cell? ⟨b, o + k * 4 + 2, none⟩ = some (.int .i64 f.a2) ∧ wr.cell? ⟨b, o + k * 4 + 3, none⟩ = some (.bool f.a3) := by
  rcases hc with h | ⟨b, o, ha, hlt, hc⟩
  · subst h; simp at hf
  · have g : ∀ j u, f.cells[j]? = some u → wr.cell? ⟨b, o + k * 4 + j, none⟩ = some u := fun j u hu => by rw [hb.cell (by simpa using hlt)]; exact hc k f hf j u hu
    exact ⟨b, o, ha, hlt, g 0 _ rfl, g 1 _ rfl, g 2 _ rfl, g 3 _ rfl⟩
theorem MsAt.of_own {w : World} {B : Nat} {v : Value} {l : List Mg} (h : w.ownsRow B 33 4 v l.length (msAtC l)) (hl : l.length * 48 ≤ 140737488351232) : MsAt w v l := by
  obtain ⟨h1, h2⟩ := h
  rcases h2 with ⟨rfl, hn⟩ | ⟨g, cap, cur, hv, hb, hg, hnc, hcm, hcs, ht⟩
  · exact ⟨none, 0, by rw [hn], hl, .inl (List.eq_nil_of_length_eq_zero hn)⟩
  · refine ⟨_, cap, hv, hl, .inr ⟨g, 0, rfl, (Array.getElem?_eq_some_iff.1 hg).1, fun i f hi j u hj => ?_⟩⟩
    have hjn : j < 4 := (List.getElem?_eq_some_iff.1 hj).1
    rw [cell_of_row w g _ cur 33 (0, 0) hg]
    have hx := msAtC_get l i f hi j hjn
    rw [hj, ← ht, List.getElem?_take] at hx
    split at hx
    · rw [← hx]; simp
    · cases hx

theorem msAt_open1 {H : Type} {enc : TypeId × Value → H} {w : World} {base : Nat} {spare : Nat → Bool} {held : Bool} {fuel : Nat} {cs : List Value} {x : DataW H × List MemPlace}
    (h : DataW.trod enc Try.prog w base spare held fuel 33 cs = some x) (hs : ∀ n ∈ x.1.weights Try.prog 33, n ≤ 140737488351232) : ∃ f : Mg, cs = f.cells ∧ f.ok := by
  obtain ⟨a0, a1, a2, a3, rfl, rfl, wf_a2⟩ := open_t33 h
  refine ⟨⟨a0, a1, a2, a3⟩, rfl, ?_, ?_, wf_a2⟩
  · have := hs a0.data.toList.length (by simp [DataW.weights, DataW.weightsEach, Try.underlying3, Try.underlying4, Try.underlying9, Try.underlying33])
    simpa using this
  · have := hs a1.data.toList.length (by simp [DataW.weights, DataW.weightsEach, Try.underlying3, Try.underlying4, Try.underlying9, Try.underlying33])
    simpa using this
theorem weightsAll_mem' {H : Type} {P : Program} {e : TypeId} {d : DataW H} : ∀ {l : List (DataW H)}, d ∈ l → ∀ n ∈ d.weights P e, n ∈ DataW.weightsAll P e l
  | x :: l, h, n, hn => by
    rw [DataW.weightsAll]
    rcases List.mem_cons.1 h with rfl | h
    · exact List.mem_append_left _ hn
    · exact List.mem_append_right _ (weightsAll_mem' h n hn)
theorem add_off' (b o i : Nat) : (⟨b, o, none⟩ : Addr).add i = ⟨b, o + i, none⟩ := by unfold Addr.add; split <;> simp_all
/-- A slice that came in reads as a list. -/
theorem open_ms {H : Type} {enc : TypeId × Value → H} {w : World} {fuel : Nat} {a : Option Addr} {len cap : Nat} {x : DataW H × List MemPlace}
    (h : DataW.trod enc Try.prog w 0 (fun _ => true) true fuel 22 [.slice a len cap] = some x) (hs : ∀ n ∈ x.1.weights Try.prog 22, n ≤ 140737488351232) :
    ∃ l : List Mg, MsAt w (.slice a len cap) l ∧ ∀ f ∈ l, f.ok := by
  rcases Go.Deep.open_slice Try.underlying22 h with ⟨hcs, hx⟩ | ⟨a', len', cap', m, n, D, Pl, hcs, -, hl, hm, hmm, rfl, hx⟩
  · simp only [List.cons.injEq, Value.slice.injEq, and_true] at hcs
    obtain ⟨rfl, rfl, rfl⟩ := hcs
    exact ⟨[], msAt_nil _, by simp⟩
  · simp only [List.cons.injEq, Value.slice.injEq, and_true] at hcs
    obtain ⟨rfl, rfl, rfl⟩ := hcs
    have hml : len ≤ m := by rw [hmm]; split <;> omega
    have hbig : len * 48 ≤ 140737488351232 := by
      have hw := hs _ (by simp only [DataW.weights, Try.underlying22]; exact List.mem_cons_self)
      have hbo : 1 ≤ Try.prog.bytesOf 33 := Nat.le_of_ble_eq_true (by kernel_rfl)
      simp only [List.length_map, List.length_range] at hw
      rw [show Try.prog.bytesOf 33 = 48 from by kernel_rfl] at hw; exact Nat.le_trans (Nat.mul_le_mul_right _ (Nat.le_add_right _ _)) hw
    have key : ∀ i, i < len → ∃ f : Mg, w.cells? 0 (a'.add (i * 4)) 4 = some f.cells ∧ f.ok := fun i hi => by
      obtain ⟨cs', h1, h2⟩ := hx i (by omega)
      rw [show Try.prog.cellsOf 33 = 4 from by kernel_rfl] at h1
      obtain ⟨f, rfl, ok⟩ := msAt_open1 h2 (fun n hn => hs n (by
        simp only [DataW.weights, Try.underlying22]
        refine List.mem_cons_of_mem _ (List.mem_append_left _ (weightsAll_mem' (d := D i) (List.mem_map.2 ⟨i, List.mem_range.2 hi, rfl⟩) n hn))))
      exact ⟨f, h1, ok⟩
    haveI : Inhabited Mg := ⟨⟨⟨#[]⟩, ⟨#[]⟩, 0, false⟩⟩
    obtain ⟨F, hF⟩ := Go.Deep.choose_lt key
    have hlen : ((List.range len).map F).length = len := by simp
    refine ⟨(List.range len).map F, ⟨some a', cap, by rw [hlen], by rw [hlen]; exact hbig, ?_⟩, ?_⟩
    · by_cases h0 : len = 0
      · subst h0; exact .inl rfl
      · right
        have hc0 := (hF 0 (by omega)).1
        obtain ⟨b, o, spot⟩ := a'
        have hc := (World.cells?_some hc0)
        have hsp : spot = none := by
          have := hc.2.2 0 (by omega)
          rw [show (Mg.cells (F 0))[0]? = some (.string (F 0).a0) from rfl] at this
          simpa [Addr.add] using World.cell?_spot this
        subst hsp
        refine ⟨b, o, rfl, by have := World.cells?_block hc0 (by omega); simpa [Addr.add] using this, fun i f hi j u hj => ?_⟩
        have hil : i < len := by have := (List.getElem?_eq_some_iff.1 hi).1; simpa using this
        have hf : F i = f := by simpa [hil] using hi
        subst hf
        have hjn : j < 4 := (List.getElem?_eq_some_iff.1 hj).1
        have h0 := (World.cells?_some (hF i hil).1).2.2 j hjn
        rw [add_off', add_off', hj] at h0
        exact h0
    · intro f hf
      obtain ⟨i, hi, rfl⟩ := List.mem_map.1 hf
      exact (hF i (List.mem_range.1 hi)).2
end Go.Proofs.Ytfdaooaooalknaa
