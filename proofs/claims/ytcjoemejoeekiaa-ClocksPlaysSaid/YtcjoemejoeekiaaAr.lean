/-
  A SLICE OF STRUCTS (type 28): read as a list, cell by cell.
-/
import Derived.Test.YtcjoemejoeekiaaProg
import Derived.Test.YtcjoemejoeekiaaCom
import Derived.Test.YtcjoemejoeekiaaFr
import Derived.OpenShut
import Derived.SizedLaws
import Derived.Deep.Slices
import Derived.Lib.SmallJoins
import Derived.ChangeArms
import Derived.KernelRfl
import Derived.Maps.AppendAt
import Derived.Laws.OwnMore
import Derived.Lib.Hide
namespace Go.Proofs.Ytcjoemejoeekiaa
open Go.ChangeShapes Go.WideShapes Go.RowKit Go.Deep

theorem list_3 {α : Type} {l : List α} (h : l.length = 3) : ∃ x0 x1 x2, l = [x0, x1, x2] := by
  match l, h with
  | [x0, x1, x2], _ => exact ⟨_, _, _, rfl⟩
theorem open_t28 {H : Type} {enc : TypeId × Value → H} {w : World} {base : Nat} {spare : Nat → Bool} {held : Bool} {fuel : Nat} {cs : List Value} {x : DataW H × List MemPlace}
    (h : DataW.trod enc Try.prog w base spare held fuel 28 cs = some x) :
    ∃ (a0 : Int) (a1 : Int) (a2 : Int), cs = [.int .i64 a0, .int .i64 a1, .int .i64 a2] ∧ x = (.agg [.lit (.int .i64 a0), .lit (.int .i64 a1), .lit (.int .i64 a2)], []) ∧ (Lit.int .i64 a0).wf = true ∧ (Lit.int .i64 a1).wf = true ∧ (Lit.int .i64 a2).wf = true := by
  obtain ⟨xs, n, -, rfl, hl, hlen, hg⟩ := DataW.trod_struct Try.underlying28 h
  rw [show Try.prog.cellsOf 28 = 3 from by kernel_rfl] at hl
  obtain ⟨c0, c1, c2, rfl⟩ := list_3 hl
  obtain ⟨y0, y1, y2, rfl⟩ := list_3 hlen
  have g0 := hg 0 _ rfl
  simp only [List.getElem_toArray, List.getElem_cons_zero, List.getElem_cons_succ, show Try.prog.cellsOf 3 = 1 from by kernel_rfl, List.drop_zero, List.drop_succ_cons, List.take_succ_cons, List.take_zero, List.getElem?_cons_zero, List.getElem?_cons_succ] at g0
  obtain ⟨a0, q0, rfl, w0⟩ := DataW.trod_int Try.underlying3 g0
  obtain rfl : c0 = .int .i64 a0 := by simpa using q0
  have g1 := hg 1 _ rfl
  simp only [List.getElem_toArray, List.getElem_cons_zero, List.getElem_cons_succ, show Try.prog.cellsOf 3 = 1 from by kernel_rfl, List.drop_zero, List.drop_succ_cons, List.take_succ_cons, List.take_zero, List.getElem?_cons_zero, List.getElem?_cons_succ] at g1
  obtain ⟨a1, q1, rfl, w1⟩ := DataW.trod_int Try.underlying3 g1
  obtain rfl : c1 = .int .i64 a1 := by simpa using q1
  have g2 := hg 2 _ rfl
  simp only [List.getElem_toArray, List.getElem_cons_zero, List.getElem_cons_succ, show Try.prog.cellsOf 3 = 1 from by kernel_rfl, List.drop_zero, List.drop_succ_cons, List.take_succ_cons, List.take_zero, List.getElem?_cons_zero, List.getElem?_cons_succ] at g2
  obtain ⟨a2, q2, rfl, w2⟩ := DataW.trod_int Try.underlying3 g2
  obtain rfl : c2 = .int .i64 a2 := by simpa using q2
  exact ⟨_, _, _, rfl, rfl, w0, w1, w2⟩
structure Ak where
  a0 : Int
  a1 : Int
  a2 : Int
def Ak.cells (f : Ak) : List Value := [.int .i64 f.a0, .int .i64 f.a1, .int .i64 f.a2]
def Ak.ok (f : Ak) : Prop := (Lit.int .i64 f.a0).wf = true ∧ (Lit.int .i64 f.a1).wf = true ∧ (Lit.int .i64 f.a2).wf = true
theorem Ak.cells_len (f : Ak) : f.cells.length = 3 := rfl
def aksAtC (l : List Ak) : List Value := l.flatMap Ak.cells
theorem aksAtC_length (l : List Ak) : (aksAtC l).length = l.length * 3 := by
  induction l with
  | nil => rfl
  | cons f l ih => simp only [aksAtC, List.flatMap_cons, List.length_append] at ih ⊢; rw [ih]; simp [Ak.cells_len]; omega
theorem aksAtC_get (l : List Ak) : ∀ (i : Nat) (f : Ak), l[i]? = some f → ∀ j, j < 3 → (aksAtC l)[i * 3 + j]? = f.cells[j]? := by
  induction l with
  | nil => intro i f h; simp at h
  | cons g l ih =>
    intro i f h j hj
    have e : aksAtC (g :: l) = g.cells ++ aksAtC l := by simp [aksAtC]
    rw [e]
    cases i with
    | zero =>
      simp at h; subst h
      rw [Nat.zero_mul, Nat.zero_add, List.getElem?_append_left (by rw [Ak.cells_len]; exact hj)]
    | succ i =>
      rw [List.getElem?_append_right (by rw [Ak.cells_len]; omega), Ak.cells_len]
      rw [show (i + 1) * 3 + j - 3 = i * 3 + j by omega]
      exact ih i f (by simpa using h) j hj
theorem aksAtC_snoc (l : List Ak) (f : Ak) : aksAtC (l ++ [f]) = aksAtC l ++ f.cells := by simp [aksAtC]
theorem aksAtC_append (l m : List Ak) : aksAtC (l ++ m) = aksAtC l ++ aksAtC m := by simp [aksAtC]
theorem aksAtC_one (l : List Ak) : ∀ u ∈ aksAtC l, u.oneCell' = true := by
  intro u hu
  unfold aksAtC at hu
  obtain ⟨f, -, hf⟩ := List.mem_flatMap.1 hu
  simp only [Ak.cells, List.mem_cons, List.not_mem_nil, or_false] at hf
  rcases hf with rfl | rfl | rfl <;> rfl
/-- The slice value v reads as l. -/
def AksAt (w : World) (v : Value) (l : List Ak) : Prop :=
  ∃ a cap, v = .slice a l.length cap ∧ l.length * 24 ≤ 140737488351232 ∧ (l = [] ∨ ∃ b o, a = some ⟨b, o, none⟩ ∧ b < w.heap.size ∧ ∀ i f, l[i]? = some f → ∀ j u, f.cells[j]? = some u → w.cell? ⟨b, o + i * 3 + j, none⟩ = some u)
theorem AksAt.keep {w w' : World} {v : Value} {l : List Ak} (h : AksAt w v l) {B : Nat} (hb : Below B w w') (hB : w.heap.size ≤ B) : AksAt w' v l := by
  obtain ⟨a, cap, hv, hc, h⟩ := h
  refine ⟨a, cap, hv, hc, h.imp id ?_⟩
  rintro ⟨b, o, ha, hlt, hcell⟩
  exact ⟨b, o, ha, Nat.lt_of_lt_of_le hlt hb.size, fun i f hi j u hu => by rw [hb.cell (by simpa using by omega)]; exact hcell i f hi j u hu⟩
theorem aksAt_nil (w : World) : AksAt w (.slice none 0 0) [] := ⟨none, 0, rfl, by simp, .inl rfl⟩
/-- The cells of the k-th, behind what turned nothing old. -/
theorem aksAt_at {w wr : World} {a : Option Addr} {l : List Ak} {k : Nat} {f : Ak} (hf : l[k]? = some f) (hb : Below w.heap.size w wr)
    (hc : l = [] ∨ ∃ b o, a = some ⟨b, o, none⟩ ∧ b < w.heap.size ∧ ∀ i f, l[i]? = some f → ∀ j u, f.cells[j]? = some u → w.cell? ⟨b, o + i * 3 + j, none⟩ = some u) :
    ∃ b o, a = some ⟨b, o, none⟩ ∧ b < w.heap.size ∧ wr.cell? ⟨b, o + k * 3, none⟩ = some (.int .i64 f.a0) ∧ wr.cell? ⟨b, o + k * 3 + 1, none⟩ = some (.int .i64 f.a1) ∧ wr.cell? ⟨b, o + k * 3 + 2, none⟩ = some (.int .i64 f.a2) := by
  rcases hc with h | ⟨b, o, ha, hlt, hc⟩
  · subst h; simp at hf
  · have g : ∀ j u, f.cells[j]? = some u → wr.cell? ⟨b, o + k * 3 + j, none⟩ = some u := fun j u hu => by rw [hb.cell (by simpa using hlt)]; exact hc k f hf j u hu
    exact ⟨b, o, ha, hlt, g 0 _ rfl, g 1 _ rfl, g 2 _ rfl⟩
theorem AksAt.of_own {w : World} {B : Nat} {v : Value} {l : List Ak} (h : w.ownsRow B 28 3 v l.length (aksAtC l)) (hl : l.length * 24 ≤ 140737488351232) : AksAt w v l := by
  obtain ⟨h1, h2⟩ := h
  rcases h2 with ⟨rfl, hn⟩ | ⟨g, cap, cur, hv, hb, hg, hnc, hcm, hcs, ht⟩
  · exact ⟨none, 0, by rw [hn], hl, .inl (List.eq_nil_of_length_eq_zero hn)⟩
  · refine ⟨_, cap, hv, hl, .inr ⟨g, 0, rfl, (Array.getElem?_eq_some_iff.1 hg).1, fun i f hi j u hj => ?_⟩⟩
    have hjn : j < 3 := (List.getElem?_eq_some_iff.1 hj).1
    rw [cell_of_row w g _ cur 28 (0, 0) hg]
    have hx := aksAtC_get l i f hi j hjn
    rw [hj, ← ht, List.getElem?_take] at hx
    split at hx
    · rw [← hx]; simp
    · cases hx

theorem aksAt_open1 {H : Type} {enc : TypeId × Value → H} {w : World} {base : Nat} {spare : Nat → Bool} {held : Bool} {fuel : Nat} {cs : List Value} {x : DataW H × List MemPlace}
    (h : DataW.trod enc Try.prog w base spare held fuel 28 cs = some x) (hs : ∀ n ∈ x.1.weights Try.prog 28, n ≤ 140737488351232) : ∃ f : Ak, cs = f.cells ∧ f.ok := by
  obtain ⟨a0, a1, a2, rfl, rfl, wf_a0, wf_a1, wf_a2⟩ := open_t28 h
  refine ⟨⟨a0, a1, a2⟩, rfl, wf_a0, wf_a1, wf_a2⟩
theorem weightsAll_mem' {H : Type} {P : Program} {e : TypeId} {d : DataW H} : ∀ {l : List (DataW H)}, d ∈ l → ∀ n ∈ d.weights P e, n ∈ DataW.weightsAll P e l
  | x :: l, h, n, hn => by
    rw [DataW.weightsAll]
    rcases List.mem_cons.1 h with rfl | h
    · exact List.mem_append_left _ hn
    · exact List.mem_append_right _ (weightsAll_mem' h n hn)
/-- A slice that came in reads as a list. -/
theorem open_aks {H : Type} {enc : TypeId × Value → H} {w : World} {fuel : Nat} {a : Option Addr} {len cap : Nat} {x : DataW H × List MemPlace}
    (h : DataW.trod enc Try.prog w 0 (fun _ => true) true fuel 22 [.slice a len cap] = some x) (hs : ∀ n ∈ x.1.weights Try.prog 22, n ≤ 140737488351232) :
    ∃ l : List Ak, AksAt w (.slice a len cap) l ∧ ∀ f ∈ l, f.ok := by
  rcases Go.Deep.open_slice Try.underlying22 h with ⟨hcs, hx⟩ | ⟨a', len', cap', m, n, D, Pl, hcs, -, hl, hm, hmm, rfl, hx⟩
  · simp only [List.cons.injEq, Value.slice.injEq, and_true] at hcs
    obtain ⟨rfl, rfl, rfl⟩ := hcs
    exact ⟨[], aksAt_nil _, by simp⟩
  · simp only [List.cons.injEq, Value.slice.injEq, and_true] at hcs
    obtain ⟨rfl, rfl, rfl⟩ := hcs
    have hml : len ≤ m := by rw [hmm]; split <;> omega
    have hbig : len * 24 ≤ 140737488351232 := by
      have hw := hs _ (by simp only [DataW.weights, Try.underlying22]; exact List.mem_cons_self)
      have hbo : 1 ≤ Try.prog.bytesOf 28 := Nat.le_of_ble_eq_true (by kernel_rfl)
      simp only [List.length_map, List.length_range] at hw
      rw [show Try.prog.bytesOf 28 = 24 from by kernel_rfl] at hw; exact Nat.le_trans (Nat.mul_le_mul_right _ (Nat.le_add_right _ _)) hw
    have key : ∀ i, i < len → ∃ f : Ak, w.cells? 0 (a'.add (i * 3)) 3 = some f.cells ∧ f.ok := fun i hi => by
      obtain ⟨cs', h1, h2⟩ := hx i (by omega)
      rw [show Try.prog.cellsOf 28 = 3 from by kernel_rfl] at h1
      obtain ⟨f, rfl, ok⟩ := aksAt_open1 h2 (fun n hn => hs n (by
        simp only [DataW.weights, Try.underlying22]
        refine List.mem_cons_of_mem _ (List.mem_append_left _ (weightsAll_mem' (d := D i) (List.mem_map.2 ⟨i, List.mem_range.2 hi, rfl⟩) n hn))))
      exact ⟨f, h1, ok⟩
    haveI : Inhabited Ak := ⟨⟨0, 0, 0⟩⟩
    obtain ⟨F, hF⟩ := Go.Deep.choose_lt key
    have hlen : ((List.range len).map F).length = len := by simp
    refine ⟨(List.range len).map F, ⟨some a', cap, by rw [hlen], by rw [hlen]; exact hbig, ?_⟩, ?_⟩
    · by_cases h0 : len = 0
      · subst h0; exact .inl rfl
      · right
        have hc0 := (hF 0 (by omega)).1
        obtain ⟨b, o, spot⟩ := a'
        have hc := (World.cells?_some hc0)
        have hsp : spot = none := by
          have := hc.2.2 0 (by omega)
          rw [show (Ak.cells (F 0))[0]? = some (.int .i64 (F 0).a0) from rfl] at this
          simpa [Addr.add] using World.cell?_spot this
        subst hsp
        refine ⟨b, o, rfl, by have := World.cells?_block hc0 (by omega); simpa [Addr.add] using this, fun i f hi j u hj => ?_⟩
        have hil : i < len := by have := (List.getElem?_eq_some_iff.1 hi).1; simpa using this
        have hf : F i = f := by simpa [hil] using hi
        subst hf
        have hjn : j < 3 := (List.getElem?_eq_some_iff.1 hj).1
        have h0 := (World.cells?_some (hF i hil).1).2.2 j hjn
        rw [add_off', add_off', hj] at h0
        exact h0
    · intro f hf
      obtain ⟨i, hi, rfl⟩ := List.mem_map.1 hf
      exact (hF i (List.mem_range.1 hi)).2
end Go.Proofs.Ytcjoemejoeekiaa
