/-
  LAYER 23: the flight's block: none, Len; what Ack, Rec and Comp say.
-/
import Derived.Test.YtceiipcdkonnlaaIo
namespace Go.Proofs.Ytceiipcdkonnlaa.Fli
set_option linter.unusedSimpArgs false
set_option linter.unusedVariables false
open Go.RowKit Que Hp Ids
structure Se where
  i : Int
  s : Int
  t : ByteArray
  x : ByteArray
  q : Int
  r : Bool
def Se.m (e : Se) : Value := .agg #[.string e.t, .string e.x, .int .i64 e.q, .bool e.r]
def Se.cells (e : Se) : List Value := [.int .i64 e.i, .int .i64 e.s, .string e.t, .string e.x, .int .i64 e.q, .bool e.r]
def Se.v (e : Se) : Value := .agg #[.int .i64 e.i, .int .i64 e.s, .string e.t, .string e.x, .int .i64 e.q, .bool e.r]
def seC (l : List Se) : List Value := l.flatMap Se.cells
theorem seC_len (l : List Se) : (seC l).length = l.length * 6 := by
  induction l with
  | nil => rfl
  | cons f l ih => simp only [seC, List.flatMap_cons, List.length_append] at ih ⊢; rw [ih]; simp [Se.cells]; omega
theorem seC_get (l : List Se) : ∀ (i : Nat) (f : Se), l[i]? = some f → ∀ j, j < 6 → (seC l)[i * 6 + j]? = f.cells[j]? := by
  induction l with
  | nil => intro i f h; simp at h
  | cons g l ih =>
    intro i f h j hj
    have e : seC (g :: l) = g.cells ++ seC l := by simp [seC]
    rw [e]
    cases i with
    | zero =>
      simp at h; subst h
      rw [Nat.zero_mul, Nat.zero_add, List.getElem?_append_left (by simp [Se.cells]; exact hj)]
    | succ i =>
      rw [List.getElem?_append_right (by simp [Se.cells]; omega)]
      rw [show (i + 1) * 6 + j - g.cells.length = i * 6 + j by simp [Se.cells]; omega]
      exact ih i f (by simpa using h) j hj
theorem seC_snoc (l : List Se) (f : Se) : seC (l ++ [f]) = seC l ++ f.cells := by simp [seC]
theorem seC_setS (l : List Se) : ∀ (i : Nat) (f : Se) (s : Int), l[i]? = some f → (seC l).set (i * 6 + 1) (.int .i64 s) = seC (l.set i { f with s := s }) := by
  induction l with
  | nil => intro i f s h; simp at h
  | cons g l ih =>
    intro i f s h
    have e : ∀ (g : Se) (l : List Se), seC (g :: l) = .int .i64 g.i :: .int .i64 g.s :: .string g.t :: .string g.x :: .int .i64 g.q :: .bool g.r :: seC l := fun g l => by simp [seC, Se.cells]
    cases i with
    | zero => simp at h; subst h; simp [e]
    | succ i =>
      rw [e, show (i + 1) * 6 + 1 = i * 6 + 1 + 1 + 1 + 1 + 1 + 1 + 1 by omega, List.set_cons_succ, List.set_cons_succ, List.set_cons_succ, List.set_cons_succ, List.set_cons_succ, List.set_cons_succ, List.set_cons_succ, e, ih i f s (by simpa using h)]
/-- The flight in block f, its numbers in block g. -/
structure Fw (B : Nat) (w : World) (f g : Nat) (v : Value) (L : List Se) : Prop where
  row : w.heap[f]? = some (.cells #[.pointer (some ⟨g, 0, none⟩), v] 94 (0, 0))
  its : w.ownsRow B 101 6 v L.length (seC L)
section
variable {B : Nat} {w w' : World} {f g : Nat} {v : Value} {L : List Se}
theorem Fw.lt (h : Fw B w f g v L) : f < w.heap.size := (Array.getElem?_eq_some_iff.1 h.row).1
theorem Fw.c0 (h : Fw B w f g v L) : w.cell? ⟨f, 0, none⟩ = some (.pointer (some ⟨g, 0, none⟩)) := cell_of_row w f 0 _ 94 (0, 0) h.row
theorem Fw.c1 (h : Fw B w f g v L) : w.cell? ⟨f, 1, none⟩ = some v := cell_of_row w f 1 _ 94 (0, 0) h.row
theorem Fw.fz (h : Fw B w f g v L) (j : Nat) : w.frozen? ⟨f, j, none⟩ = false := frozen_of_row w f j _ 94 h.row
theorem Fw.keep (h : Fw B w f g v L) (hb : Below w.heap.size w w') : Fw B w' f g v L := ⟨(hb.block f h.lt).trans h.row, own_keep h.its hb⟩
theorem Fw.far {S : Nat → Prop} (h : Fw B w f g v L) (F : Far S w w') (h1 : ¬ S f) (h2 : ∀ k, v.ownBlock = some k → ¬ S k) : Fw B w' f g v L :=
  ⟨(F.block f h.lt h1).trans h.row, own_fars h.its F h2⟩
/-- An element's cells. -/
theorem Fw.at (h : Fw B w f g v L) {gb n cb : Nat} (hv : v = .slice (some ⟨gb, 0, none⟩) n cb) {k : Nat} {e : Se} (hk : L[k]? = some e) : w.cell? ⟨gb, k * 6, none⟩ = some (.int .i64 e.i) ∧ w.cell? ⟨gb, k * 6 + 1, none⟩ = some (.int .i64 e.s) ∧ w.cell? ⟨gb, k * 6 + 2, none⟩ = some (.string e.t) ∧ w.cell? ⟨gb, k * 6 + 3, none⟩ = some (.string e.x) ∧ w.cell? ⟨gb, k * 6 + 4, none⟩ = some (.int .i64 e.q) ∧ w.cell? ⟨gb, k * 6 + 5, none⟩ = some (.bool e.r) := by
  subst hv
  have G := seC_get L k e hk
  exact ⟨own_get h.its (by have := G 0 (by omega); simpa [Se.cells] using this), own_get h.its (by have := G 1 (by omega); simpa [Se.cells] using this), own_get h.its (by have := G 2 (by omega); simpa [Se.cells] using this), own_get h.its (by have := G 3 (by omega); simpa [Se.cells] using this), own_get h.its (by have := G 4 (by omega); simpa [Se.cells] using this), own_get h.its (by have := G 5 (by omega); simpa [Se.cells] using this)⟩
theorem Fw.fzr (h : Fw B w f g v L) {gb cb n : Nat} (hv : v = .slice (some ⟨gb, 0, none⟩) n cb) (j : Nat) : w.frozen? ⟨gb, j, none⟩ = false := by
  have := h.its
  subst hv
  rcases this.2 with ⟨h, -⟩ | ⟨g', cap, cur, hv, hB, hcur, hn, hm, hs, ht⟩
  · cases h
  · simp only [Value.slice.injEq, Option.some.injEq, Addr.mk.injEq, and_true] at hv
    obtain ⟨rfl, -, -⟩ := hv
    exact frozen_of_row w gb j _ 101 hcur
theorem Fw.storeS (h : Fw B w f g v L) {gb cb : Nat} (hv : v = .slice (some ⟨gb, 0, none⟩) L.length cb) {k : Nat} {e : Se} (he : L[k]? = some e) (s : Int) : Fw B (w.setCell ⟨gb, k * 6 + 1, none⟩ (.int .i64 s)) f g v (L.set k { e with s := s }) := by
  subst hv
  have hne : f ≠ gb := fun e => own_far h.its h.row (by decide) (by rw [e]; rfl)
  refine ⟨?_, ?_⟩
  · rw [Below.heap_setCell _ _ _ _ hne]; exact h.row
  · have := (h.its.stored (k * 6 + 1) (.int .i64 s)).1
    rw [seC_setS _ _ _ _ he] at this
    simpa using this
theorem none_any (h : Fw B w f g v L) : Calls Try.prog 57 #[.pointer (some ⟨f, 0, none⟩)] w fun e w' => e = .returned (.bool false) ∧ w = w' := by
  have c0 := h.c0
  clear h
  go_enter Try.func57, Try.ntmps57
  go_wp2
  go_ret
  exact ⟨rfl, rfl⟩
theorem flen_any (h : Fw B w f g v L) : Calls Try.prog 54 #[.pointer (some ⟨f, 0, none⟩)] w fun e w' => e = .returned (.int .i64 (L.length : Nat)) ∧ w = w' := by
  have N := Lib.hid (none_any h)
  have c1 := h.c1
  obtain ⟨a, c, rfl⟩ := own_slice h.its
  clear h
  go_enter Try.func54, Try.ntmps54
  go_wp2_with fail
  refine N.out.mono ?_
  rintro e w1 ⟨rfl, rfl⟩
  go_wp2
  go_ret
  exact ⟨rfl, rfl⟩
end
set_option maxRecDepth 100000 in
theorem ack_any (e : Se) (w : World) : Calls Try.prog 62 #[.agg #[.int .i64 e.i, .int .i64 e.s, .string e.t, .string e.x, .int .i64 e.q, .bool e.r]] w fun x w' => x = .returned (.tuple #[.int .i64 0, .bool (e.s == 1)]) ∧ Below w.heap.size w w' := by
  go_enter Try.func62, Try.ntmps62
  go_wp2
  go_quiet (fail)
  go_wp2
  go_ret2
  exact ⟨rfl, below_drewN (ext_alloc _ _) _⟩
set_option maxRecDepth 100000 in
theorem comp_any (e : Se) (w : World) : Calls Try.prog 63 #[.agg #[.int .i64 e.i, .int .i64 e.s, .string e.t, .string e.x, .int .i64 e.q, .bool e.r]] w fun x w' => x = .returned (.tuple #[.int .i64 0, .bool (e.s == 3)]) ∧ Below w.heap.size w w' := by
  go_enter Try.func63, Try.ntmps63
  go_wp2
  go_quiet (fail)
  go_wp2
  go_ret2
  exact ⟨rfl, below_drewN (ext_alloc _ _) _⟩
set_option maxRecDepth 100000 in
theorem rec_any (e : Se) (w : World) : Calls Try.prog 64 #[.agg #[.int .i64 e.i, .int .i64 e.s, .string e.t, .string e.x, .int .i64 e.q, .bool e.r]] w fun x w' => x = .returned (.tuple #[.int .i64 3, .bool (e.s == 2 || e.s == 3)]) ∧ Below w.heap.size w w' := by
  cases h2 : (e.s == 2)
  · go_enter Try.func64, Try.ntmps64
    go_wp2
    go_region
    go_wp2
    go_ret2
    exact ⟨rfl, (ext_alloc _ _).trans ⟨rfl, rfl, rfl, Nat.le_refl _, fun _ _ => rfl⟩⟩
  · go_enter Try.func64, Try.ntmps64
    go_wp2
    go_region
    go_wp2
    go_ret2
    exact ⟨rfl, (ext_alloc _ _).trans ⟨rfl, rfl, rfl, Nat.le_refl _, fun _ _ => rfl⟩⟩
end Go.Proofs.Ytceiipcdkonnlaa.Fli
