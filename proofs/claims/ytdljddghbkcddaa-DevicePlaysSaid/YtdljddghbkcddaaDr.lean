/-
  LAYER 32: what a round of DevicePlays does, step by step.
-/
import Derived.Test.YtdljddghbkcddaaDq
namespace Go.Proofs.Ytdljddghbkcddaa
open Go.RowKit

/-- The program's device, the document's, the round's own copy of the act. -/
structure Lr (w W : World) (ba : Nat) (fk : Int) (fv : Value) (nm : ByteArray) (on onx : Bool) (v vx : Value) (L Lx : List It) (n nx : Int) : Prop where
  dv : Dv 79 W w.heap.size nm on v L n
  dx : Dv 33 W (w.heap.size + 1) nm onx vx Lx nx
  bw : Below w.heap.size w W
  ar : W.heap[ba]? = some (.cells #[.int .i64 fk, fv] 35 (0, 0))
  ab : w.heap.size + 1 < ba
section
variable {w W W' : World} {ba : Nat} {fk : Int} {fv : Value} {nm : ByteArray} {on onx on' : Bool} {v vx : Value} {L Lx L' : List It} {n nx n' r : Int}
theorem Lr.next (h : Lr w W ba fk fv nm on onx v vx L Lx n nx) (hb : Below W.heap.size W W') : Lr w W' ba fk fv nm on onx v vx L Lx n nx :=
  ⟨h.dv.keep hb, h.dx.keep hb, h.bw.trans (hb.mono h.bw.size), (hb.block _ (Array.getElem?_eq_some_iff.1 h.ar).1).trans h.ar, h.ab⟩
theorem Lr.take (h : Lr w W ba fk fv nm on onx v vx L Lx n nx) {vo : Option Value} {e : Ending} (ht : TakeP 79 w.heap.size nm on' L' n' r vo W e W') :
    e = .returned (.int .i64 r) ∧ ∃ v', Lr w W' ba fk fv nm on' onx v' vx L' Lx n' nx := by
  obtain ⟨he, ⟨v', d', -⟩, g⟩ := ht
  exact ⟨he, v', d', ⟨(g.block _ h.dx.lt (by simp)).trans h.dx.row, own_grown h.dx.its h.dv.row (by decide) g, h.dx.len⟩, h.bw.grown g h.bw.size (fun k hk => by cases hk; exact Nat.le_refl _), (g.block _ (Array.getElem?_eq_some_iff.1 h.ar).1 (by have := h.ab; simp; omega)).trans h.ar, h.ab⟩
theorem Lr.xtake (h : Lr w W ba fk fv nm on onx v vx L Lx n nx) {v' : Value} (d' : Dv 33 W' (w.heap.size + 1) nm on' v' L' n') (g : W.grownBy W' (some (w.heap.size + 1))) :
    Lr w W' ba fk fv nm on on' v v' L L' n n' :=
  ⟨⟨(g.block _ h.dv.lt (by simp)).trans h.dv.row, own_grown h.dv.its h.dx.row (by decide) g, h.dv.len⟩, d', h.bw.grown g h.bw.size (fun k hk => by cases hk; omega), (g.block _ (Array.getElem?_eq_some_iff.1 h.ar).1 (by have := h.ab; simp; omega)).trans h.ar, h.ab⟩
theorem Lr.cells (h : Lr w W ba fk fv nm on onx v vx L Lx n nx) : W.cell? ⟨ba, 0, none⟩ = some (.int .i64 fk) ∧ W.cell? ⟨ba, 1, none⟩ = some fv := by
  refine ⟨?_, ?_⟩ <;> (rw [cell_of_row W ba _ _ 35 (0, 0) h.ar]; simp)
end
theorem Lr.start {w wr : World} {fk : Int} {fv : Value} {nm : ByteArray} {on : Bool} {v vx : Value} {L : List It} {n : Int} (dv : Dv 79 wr w.heap.size nm on v L n) (dx : Dv 33 wr (w.heap.size + 1) nm on vx L n) (bw : Below w.heap.size w wr) :
    Lr w (wr.alloc (.cells #[.int .i64 fk, fv] 35)) wr.heap.size fk fv nm on on v vx L L n n :=
  ⟨dv.keep (ext_alloc _ _), dx.keep (ext_alloc _ _), bw.alloc bw.size _, heap_alloc_new _ _, dx.lt⟩
end Go.Proofs.Ytdljddghbkcddaa
