/-
  LAYER 31: A SLICE OF METRICS THAT CAME IN, read as a list, cell by cell; what of a metric are slices is kept as it is.
-/
import Derived.Test.YtihblangceblhaaDoorIt
namespace Go.Proofs.YtihblangceblhaaDoor
set_option linter.unusedVariables false
set_option linter.unusedSimpArgs false
open Go.ChangeShapes Go.WideShapes Go.RowKit Go.Deep
theorem list_13 {α : Type} {l : List α} (h : l.length = 13) : ∃ x0 x1 x2 x3 x4 x5 x6 x7 x8 x9 x10 x11 x12, l = [x0, x1, x2, x3, x4, x5, x6, x7, x8, x9, x10, x11, x12] := by
  match l, h with
  | [x0, x1, x2, x3, x4, x5, x6, x7, x8, x9, x10, x11, x12], _ => exact ⟨_, _, _, _, _, _, _, _, _, _, _, _, _, rfl⟩
theorem list_15 {α : Type} {l : List α} (h : l.length = 15) : ∃ x0 x1 x2 x3 x4 x5 x6 x7 x8 x9 x10 x11 x12 x13 x14, l = [x0, x1, x2, x3, x4, x5, x6, x7, x8, x9, x10, x11, x12, x13, x14] := by
  match l, h with
  | [x0, x1, x2, x3, x4, x5, x6, x7, x8, x9, x10, x11, x12, x13, x14], _ => exact ⟨_, _, _, _, _, _, _, _, _, _, _, _, _, _, _, rfl⟩
structure Mt where
  n : ByteArray
  ha : Bool
  al : Int
  ti : Int
  ty : Int
  hi : Bool
  tr : Bool
  nu : Bool
  vm : Value
  vp : Value
  k : Int
  nn : Int
  s : ByteArray
  vs : Value
  vt : Value
def Mt.cells (f : Mt) : List Value := [.string f.n, .bool f.ha, .int .u64 f.al, .int .u64 f.ti, .int .u32 f.ty, .bool f.hi, .bool f.tr, .bool f.nu, f.vm, f.vp, .int .i64 f.k, .int .u64 f.nn, .string f.s, f.vs, f.vt]
def isSl (v : Value) : Prop := ∃ a n c, v = .slice a n c
theorem isSl.one {v : Value} (h : isSl v) : v.oneCell' = true := by obtain ⟨a, n, c, rfl⟩ := h; rfl
def Mt.ok (f : Mt) : Prop := f.n.size ≤ 140737488351232 ∧ (Lit.int .u64 f.al).wf = true ∧ (Lit.int .u32 f.ty).wf = true ∧ (Lit.int .i64 f.k).wf = true ∧ (Lit.int .u64 f.nn).wf = true ∧ f.s.size ≤ 140737488351232 ∧ isSl f.vm ∧ isSl f.vp ∧ isSl f.vs ∧ isSl f.vt
theorem Mt.sl (f : Mt) (h : f.ok) : isSl f.vm ∧ isSl f.vp ∧ isSl f.vs ∧ isSl f.vt := h.2.2.2.2.2.2
theorem Mt.cells_len (f : Mt) : f.cells.length = 15 := rfl
def mtsAtC (l : List Mt) : List Value := l.flatMap Mt.cells
theorem mtsAtC_length (l : List Mt) : (mtsAtC l).length = l.length * 15 := by
  induction l with
  | nil => rfl
  | cons f l ih => simp only [mtsAtC, List.flatMap_cons, List.length_append] at ih ⊢; rw [ih]; simp [Mt.cells_len]; omega
theorem mtsAtC_get (l : List Mt) : ∀ (i : Nat) (f : Mt), l[i]? = some f → ∀ j, j < 15 → (mtsAtC l)[i * 15 + j]? = f.cells[j]? := by
  induction l with
  | nil => intro i f h; simp at h
  | cons g l ih =>
    intro i f h j hj
    have e : mtsAtC (g :: l) = g.cells ++ mtsAtC l := by simp [mtsAtC]
    rw [e]
    cases i with
    | zero =>
      simp at h; subst h
      rw [Nat.zero_mul, Nat.zero_add, List.getElem?_append_left (by rw [Mt.cells_len]; exact hj)]
    | succ i =>
      rw [List.getElem?_append_right (by rw [Mt.cells_len]; omega), Mt.cells_len]
      rw [show (i + 1) * 15 + j - 15 = i * 15 + j by omega]
      exact ih i f (by simpa using h) j hj
theorem mtsAtC_snoc (l : List Mt) (f : Mt) : mtsAtC (l ++ [f]) = mtsAtC l ++ f.cells := by simp [mtsAtC]
theorem mtsAtC_append (l m : List Mt) : mtsAtC (l ++ m) = mtsAtC l ++ mtsAtC m := by simp [mtsAtC]
theorem mtsAtC_one (l : List Mt) (h : ∀ f ∈ l, f.ok) : ∀ u ∈ mtsAtC l, u.oneCell' = true := by
  intro u hu
  unfold mtsAtC at hu
  obtain ⟨f, hm, hf⟩ := List.mem_flatMap.1 hu
  obtain ⟨h1, h2, h3, h4⟩ := f.sl (h f hm)
  simp only [Mt.cells, List.mem_cons, List.not_mem_nil, or_false] at hf
  rcases hf with rfl | rfl | rfl | rfl | rfl | rfl | rfl | rfl | rfl | rfl | rfl | rfl | rfl | rfl | rfl
  all_goals first | rfl | exact h1.one | exact h2.one | exact h3.one | exact h4.one
/-- The slice value v reads as l. -/
def MtsAt (w : World) (v : Value) (l : List Mt) : Prop :=
  ∃ a cap, v = .slice a l.length cap ∧ l.length ≤ 140737488351232 ∧ (l = [] ∨ ∃ b o, a = some ⟨b, o, none⟩ ∧ b < w.heap.size ∧ ∀ i f, l[i]? = some f → ∀ j u, f.cells[j]? = some u → w.cell? ⟨b, o + i * 15 + j, none⟩ = some u)
theorem MtsAt.keep {w w' : World} {v : Value} {l : List Mt} (h : MtsAt w v l) {B : Nat} (hb : Below B w w') (hB : w.heap.size ≤ B) : MtsAt w' v l := by
  obtain ⟨a, cap, hv, hc, h⟩ := h
  refine ⟨a, cap, hv, hc, h.imp id ?_⟩
  rintro ⟨b, o, ha, hlt, hcell⟩
  exact ⟨b, o, ha, Nat.lt_of_lt_of_le hlt hb.size, fun i f hi j u hu => by rw [hb.cell (by simpa using by omega)]; exact hcell i f hi j u hu⟩
theorem mtsAt_nil (w : World) : MtsAt w (.slice none 0 0) [] := ⟨none, 0, rfl, by simp, .inl rfl⟩
/-- The cells of the k-th, behind what turned nothing old. -/
theorem mtsAt_at {w wr : World} {a : Option Addr} {l : List Mt} {k : Nat} {f : Mt} (hf : l[k]? = some f) (hb : Below w.heap.size w wr)
    (hc : l = [] ∨ ∃ b o, a = some ⟨b, o, none⟩ ∧ b < w.heap.size ∧ ∀ i f, l[i]? = some f → ∀ j u, f.cells[j]? = some u → w.cell? ⟨b, o + i * 15 + j, none⟩ = some u) :
    ∃ b o, a = some ⟨b, o, none⟩ ∧ b < w.heap.size ∧ wr.cell? ⟨b, o + k * 15, none⟩ = some (.string f.n) ∧ wr.cell? ⟨b, o + k * 15 + 1, none⟩ = some (.bool f.ha) ∧ wr.cell? ⟨b, o + k * 15 + 2, none⟩ = some (.int .u64 f.al) ∧ wr.cell? ⟨b, o + k * 15 + 3, none⟩ = some (.int .u64 f.ti) ∧ wr.cell? ⟨b, o + k * 15 + 4, none⟩ = some (.int .u32 f.ty) ∧ wr.cell? ⟨b, o + k * 15 + 5, none⟩ = some (.bool f.hi) ∧ wr.cell? ⟨b, o + k * 15 + 6, none⟩ = some (.bool f.tr) ∧ wr.cell? ⟨b, o + k * 15 + 7, none⟩ = some (.bool f.nu) ∧ wr.cell? ⟨b, o + k * 15 + 8, none⟩ = some (f.vm) ∧ wr.cell? ⟨b, o + k * 15 + 9, none⟩ = some (f.vp) ∧ wr.cell? ⟨b, o + k * 15 + 10, none⟩ = some (.int .i64 f.k) ∧ wr.cell? ⟨b, o + k * 15 + 11, none⟩ = some (.int .u64 f.nn) ∧ wr.cell? ⟨b, o + k * 15 + 12, none⟩ = some (.string f.s) ∧ wr.cell? ⟨b, o + k * 15 + 13, none⟩ = some (f.vs) ∧ wr.cell? ⟨b, o + k * 15 + 14, none⟩ = some (f.vt) := by
  rcases hc with h | ⟨b, o, ha, hlt, hc⟩
  · subst h; simp at hf
  · have g : ∀ j u, f.cells[j]? = some u → wr.cell? ⟨b, o + k * 15 + j, none⟩ = some u := fun j u hu => by rw [hb.cell (by simpa using hlt)]; exact hc k f hf j u hu
    exact ⟨b, o, ha, hlt, g 0 _ rfl, g 1 _ rfl, g 2 _ rfl, g 3 _ rfl, g 4 _ rfl, g 5 _ rfl, g 6 _ rfl, g 7 _ rfl, g 8 _ rfl, g 9 _ rfl, g 10 _ rfl, g 11 _ rfl, g 12 _ rfl, g 13 _ rfl, g 14 _ rfl⟩
theorem MtsAt.of_own {w : World} {B : Nat} {v : Value} {l : List Mt} (h : w.ownsRow B 32 15 v l.length (mtsAtC l)) (hl : l.length ≤ 140737488351232) : MtsAt w v l := by
  obtain ⟨h1, h2⟩ := h
  rcases h2 with ⟨rfl, hn⟩ | ⟨g, cap, cur, hv, hb, hg, hnc, hcm, hcs, ht⟩
  · exact ⟨none, 0, by rw [hn], hl, .inl (List.eq_nil_of_length_eq_zero hn)⟩
  · refine ⟨_, cap, hv, hl, .inr ⟨g, 0, rfl, (Array.getElem?_eq_some_iff.1 hg).1, fun i f hi j u hj => ?_⟩⟩
    have hjn : j < 15 := (List.getElem?_eq_some_iff.1 hj).1
    rw [cell_of_row w g _ cur 32 (0, 0) hg]
    have hx := mtsAtC_get l i f hi j hjn
    rw [hj, ← ht, List.getElem?_take] at hx
    split at hx
    · rw [← hx]; simp
    · cases hx

theorem mtsAt_open1 {H : Type} {enc : TypeId × Value → H} {w : World} {base : Nat} {spare : Nat → Bool} {held : Bool} {fuel : Nat} {cs : List Value} {x : DataW H × List MemPlace}
    (h : DataW.trod enc Tryd.prog w base spare held fuel 32 cs = some x) (hs : ∀ n ∈ x.1.weights Tryd.prog 32, n ≤ 140737488351232) : ∃ f : Mt, cs = f.cells ∧ f.ok := by
  obtain ⟨xs, n, -, rfl, hl, hlen, hg⟩ := DataW.trod_struct Tryd.underlying32 h
  rw [show Tryd.prog.cellsOf 32 = 15 from by kernel_rfl] at hl
  obtain ⟨c0, c1, c2, c3, c4, c5, c6, c7, c8, c9, c10, c11, c12, c13, c14, rfl⟩ := list_15 hl
  obtain ⟨y0, y1, y2, y3, y4, y5, y6, y7, y8, y9, y10, y11, y12, rfl⟩ := list_13 hlen
  have hw10 : ∀ n ∈ y10.1.weights Tryd.prog 28, n ≤ 140737488351232 := fun n hn => hs n (by simp [DataW.weights, Tryd.underlying32, DataW.weightsEach, hn])
  have g0 := hg 0 _ rfl
  simp only [List.getElem_toArray, List.getElem_cons_zero, List.getElem_cons_succ, show Tryd.prog.cellsOf 9 = 1 from by kernel_rfl, List.drop_zero, List.drop_succ_cons, List.take_succ_cons, List.take_zero, List.getElem?_cons_zero, List.getElem?_cons_succ] at g0
  obtain ⟨a0, q0, rfl, -⟩ := DataW.trod_string Tryd.underlying9 g0
  obtain rfl : c0 = .string a0 := by simpa using q0
  have g1 := hg 1 _ rfl
  simp only [List.getElem_toArray, List.getElem_cons_zero, List.getElem_cons_succ, show Tryd.prog.cellsOf 4 = 1 from by kernel_rfl, List.drop_zero, List.drop_succ_cons, List.take_succ_cons, List.take_zero, List.getElem?_cons_zero, List.getElem?_cons_succ] at g1
  obtain ⟨a1, q1, -⟩ := DataW.trod_bool Tryd.underlying4 g1
  obtain rfl : c1 = .bool a1 := by simpa using q1
  have g2 := hg 2 _ rfl
  simp only [List.getElem_toArray, List.getElem_cons_zero, List.getElem_cons_succ, show Tryd.prog.cellsOf 23 = 1 from by kernel_rfl, List.drop_zero, List.drop_succ_cons, List.take_succ_cons, List.take_zero, List.getElem?_cons_zero, List.getElem?_cons_succ] at g2
  obtain ⟨a2, q2, -, w2⟩ := DataW.trod_int Tryd.underlying23 g2
  obtain rfl : c2 = .int .u64 a2 := by simpa using q2
  have g3 := hg 3 _ rfl
  simp only [List.getElem_toArray, List.getElem_cons_zero, List.getElem_cons_succ, show Tryd.prog.cellsOf 23 = 1 from by kernel_rfl, List.drop_zero, List.drop_succ_cons, List.take_succ_cons, List.take_zero, List.getElem?_cons_zero, List.getElem?_cons_succ] at g3
  obtain ⟨a3, q3, -, w3⟩ := DataW.trod_int Tryd.underlying23 g3
  obtain rfl : c3 = .int .u64 a3 := by simpa using q3
  have g4 := hg 4 _ rfl
  simp only [List.getElem_toArray, List.getElem_cons_zero, List.getElem_cons_succ, show Tryd.prog.cellsOf 24 = 1 from by kernel_rfl, List.drop_zero, List.drop_succ_cons, List.take_succ_cons, List.take_zero, List.getElem?_cons_zero, List.getElem?_cons_succ] at g4
  obtain ⟨a4, q4, -, w4⟩ := DataW.trod_int Tryd.underlying24 g4
  obtain rfl : c4 = .int .u32 a4 := by simpa using q4
  have g5 := hg 5 _ rfl
  simp only [List.getElem_toArray, List.getElem_cons_zero, List.getElem_cons_succ, show Tryd.prog.cellsOf 4 = 1 from by kernel_rfl, List.drop_zero, List.drop_succ_cons, List.take_succ_cons, List.take_zero, List.getElem?_cons_zero, List.getElem?_cons_succ] at g5
  obtain ⟨a5, q5, -⟩ := DataW.trod_bool Tryd.underlying4 g5
  obtain rfl : c5 = .bool a5 := by simpa using q5
  have g6 := hg 6 _ rfl
  simp only [List.getElem_toArray, List.getElem_cons_zero, List.getElem_cons_succ, show Tryd.prog.cellsOf 4 = 1 from by kernel_rfl, List.drop_zero, List.drop_succ_cons, List.take_succ_cons, List.take_zero, List.getElem?_cons_zero, List.getElem?_cons_succ] at g6
  obtain ⟨a6, q6, -⟩ := DataW.trod_bool Tryd.underlying4 g6
  obtain rfl : c6 = .bool a6 := by simpa using q6
  have g7 := hg 7 _ rfl
  simp only [List.getElem_toArray, List.getElem_cons_zero, List.getElem_cons_succ, show Tryd.prog.cellsOf 4 = 1 from by kernel_rfl, List.drop_zero, List.drop_succ_cons, List.take_succ_cons, List.take_zero, List.getElem?_cons_zero, List.getElem?_cons_succ] at g7
  obtain ⟨a7, q7, -⟩ := DataW.trod_bool Tryd.underlying4 g7
  obtain rfl : c7 = .bool a7 := by simpa using q7
  have g8 := hg 8 _ rfl
  simp only [List.getElem_toArray, List.getElem_cons_zero, List.getElem_cons_succ, show Tryd.prog.cellsOf 25 = 1 from by kernel_rfl, List.drop_zero, List.drop_succ_cons, List.take_succ_cons, List.take_zero, List.getElem?_cons_zero, List.getElem?_cons_succ] at g8
  have l8 : isSl c8 := by
    rcases Go.Deep.open_slice Tryd.underlying25 g8 with ⟨hcs, -⟩ | ⟨a', len', cap', m, n, D, Pl, hcs, -⟩
    · exact ⟨_, _, _, by simpa using hcs⟩
    · exact ⟨_, _, _, by simpa using hcs⟩
  have g9 := hg 9 _ rfl
  simp only [List.getElem_toArray, List.getElem_cons_zero, List.getElem_cons_succ, show Tryd.prog.cellsOf 26 = 1 from by kernel_rfl, List.drop_zero, List.drop_succ_cons, List.take_succ_cons, List.take_zero, List.getElem?_cons_zero, List.getElem?_cons_succ] at g9
  have l9 : isSl c9 := by
    rcases Go.Deep.open_slice Tryd.underlying26 g9 with ⟨hcs, -⟩ | ⟨a', len', cap', m, n, D, Pl, hcs, -⟩
    · exact ⟨_, _, _, by simpa using hcs⟩
    · exact ⟨_, _, _, by simpa using hcs⟩
  have g10 := hg 10 _ rfl
  simp only [List.getElem_toArray, List.getElem_cons_zero, List.getElem_cons_succ, show Tryd.prog.cellsOf 28 = 3 from by kernel_rfl, List.drop_zero, List.drop_succ_cons, List.take_succ_cons, List.take_zero, List.getElem?_cons_zero, List.getElem?_cons_succ] at g10
  obtain ⟨k0, k1, k2, q10, e10, wk0, wk1⟩ := open_t28 g10
  simp only [List.cons.injEq, and_true] at q10
  obtain ⟨rfl, rfl, rfl⟩ := q10
  rw [e10] at hw10
  have z10 := hw10 k2.data.toList.length (by simp [DataW.weights, DataW.weightsEach, Tryd.underlying28, Tryd.underlying9])
  have g11 := hg 11 _ rfl
  simp only [List.getElem_toArray, List.getElem_cons_zero, List.getElem_cons_succ, show Tryd.prog.cellsOf 29 = 1 from by kernel_rfl, List.drop_zero, List.drop_succ_cons, List.take_succ_cons, List.take_zero, List.getElem?_cons_zero, List.getElem?_cons_succ] at g11
  have l11 : isSl c13 := by
    rcases Go.Deep.open_slice Tryd.underlying29 g11 with ⟨hcs, -⟩ | ⟨a', len', cap', m, n, D, Pl, hcs, -⟩
    · exact ⟨_, _, _, by simpa using hcs⟩
    · exact ⟨_, _, _, by simpa using hcs⟩
  have g12 := hg 12 _ rfl
  simp only [List.getElem_toArray, List.getElem_cons_zero, List.getElem_cons_succ, show Tryd.prog.cellsOf 30 = 1 from by kernel_rfl, List.drop_zero, List.drop_succ_cons, List.take_succ_cons, List.take_zero, List.getElem?_cons_zero, List.getElem?_cons_succ] at g12
  have l12 : isSl c14 := by
    rcases Go.Deep.open_slice Tryd.underlying30 g12 with ⟨hcs, -⟩ | ⟨a', len', cap', m, n, D, Pl, hcs, -⟩
    · exact ⟨_, _, _, by simpa using hcs⟩
    · exact ⟨_, _, _, by simpa using hcs⟩
  refine ⟨⟨a0, a1, a2, a3, a4, a5, a6, a7, c8, c9, k0, k1, k2, c13, c14⟩, rfl, ?_, w2, w4, wk0, wk1, by simpa using z10, l8, l9, l11, l12⟩
  have := hs a0.data.toList.length (by simp [DataW.weights, DataW.weightsEach, Tryd.underlying32, Tryd.underlying9])
  simpa using this
/-- A slice that came in reads as a list. -/
theorem open_mts {H : Type} {enc : TypeId × Value → H} {w : World} {fuel : Nat} {a : Option Addr} {len cap : Nat} {x : DataW H × List MemPlace}
    (h : DataW.trod enc Tryd.prog w 0 (fun _ => true) true fuel 22 [.slice a len cap] = some x) (hs : ∀ n ∈ x.1.weights Tryd.prog 22, n ≤ 140737488351232) :
    ∃ l : List Mt, MtsAt w (.slice a len cap) l ∧ ∀ f ∈ l, f.ok := by
  rcases Go.Deep.open_slice Tryd.underlying22 h with ⟨hcs, hx⟩ | ⟨a', len', cap', m, n, D, Pl, hcs, -, hl, hm, hmm, rfl, hx⟩
  · simp only [List.cons.injEq, Value.slice.injEq, and_true] at hcs
    obtain ⟨rfl, rfl, rfl⟩ := hcs
    exact ⟨[], mtsAt_nil _, by simp⟩
  · simp only [List.cons.injEq, Value.slice.injEq, and_true] at hcs
    obtain ⟨rfl, rfl, rfl⟩ := hcs
    have hml : len ≤ m := by rw [hmm]; split <;> omega
    have hbig : len ≤ 140737488351232 := by
      have hw := hs _ (by simp only [DataW.weights, Tryd.underlying22]; exact List.mem_cons_self)
      have hbo : 1 ≤ Tryd.prog.bytesOf 32 := Nat.le_of_ble_eq_true (by kernel_rfl)
      simp only [List.length_map, List.length_range] at hw
      exact Nat.le_trans (Nat.le_trans (Nat.le_add_right _ _) (Nat.le_mul_of_pos_right _ hbo)) hw
    have key : ∀ i, i < len → ∃ f : Mt, w.cells? 0 (a'.add (i * 15)) 15 = some f.cells ∧ f.ok := fun i hi => by
      obtain ⟨cs', h1, h2⟩ := hx i (by omega)
      rw [show Tryd.prog.cellsOf 32 = 15 from by kernel_rfl] at h1
      obtain ⟨f, rfl, ok⟩ := mtsAt_open1 h2 (fun n hn => hs n (by
        simp only [DataW.weights, Tryd.underlying22]
        refine List.mem_cons_of_mem _ (List.mem_append_left _ (weightsAll_mem' (d := D i) (List.mem_map.2 ⟨i, List.mem_range.2 hi, rfl⟩) n hn))))
      exact ⟨f, h1, ok⟩
    haveI : Inhabited Mt := ⟨⟨⟨#[]⟩, false, 0, 0, 0, false, false, false, .slice none 0 0, .slice none 0 0, 0, 0, ⟨#[]⟩, .slice none 0 0, .slice none 0 0⟩⟩
    obtain ⟨F, hF⟩ := Go.Deep.choose_lt key
    have hlen : ((List.range len).map F).length = len := by simp
    refine ⟨(List.range len).map F, ⟨some a', cap, by rw [hlen], by rw [hlen]; exact hbig, ?_⟩, ?_⟩
    · by_cases h0 : len = 0
      · subst h0; exact .inl rfl
      · right
        have hc0 := (hF 0 (by omega)).1
        obtain ⟨b, o, spot⟩ := a'
        have hc := (World.cells?_some hc0)
        have hsp : spot = none := by
          have := hc.2.2 0 (by omega)
          rw [show (Mt.cells (F 0))[0]? = some (.string (F 0).n) from rfl] at this
          simpa [Addr.add] using World.cell?_spot this
        subst hsp
        refine ⟨b, o, rfl, by have := World.cells?_block hc0 (by omega); simpa [Addr.add] using this, fun i f hi j u hj => ?_⟩
        have hil : i < len := by have := (List.getElem?_eq_some_iff.1 hi).1; simpa using this
        have hf : F i = f := by simpa [hil] using hi
        subst hf
        have hjn : j < 15 := (List.getElem?_eq_some_iff.1 hj).1
        have h0 := (World.cells?_some (hF i hil).1).2.2 j hjn
        rw [add_off', add_off', hj] at h0
        exact h0
    · intro f hf
      obtain ⟨i, hi, rfl⟩ := List.mem_map.1 hf
      exact (hF i (List.mem_range.1 hi)).2
end Go.Proofs.YtihblangceblhaaDoor
