/-
  LAYER 32: what a round of DeviceLast does, step by step.
-/
import Derived.Test.YtdljddghbkcddaaDo
namespace Go.Proofs.Ytdljddghbkcddaa
open Go.RowKit

/-- A device, what was told last (not yet as it is), a list of the round's own. -/
structure Tm (w W : World) (on onb : Bool) (v vb v2 : Value) (L Lb l2 : List It) (n : Int) : Prop where
  dv : Dv 79 W w.heap.size tD on v L n
  bx : W.heap[w.heap.size + 1]? = some (.cells #[.string tD, .bool onb, vb] 31 (0, 0))
  ob : W.ownsRow 0 49 8 vb Lb.length (itsAtC Lb)
  ol : W.ownsRow 0 49 8 v2 l2.length (itsAtC l2)
  f1 : Apart v v2
  f2 : Apart vb v2
  bw : Below w.heap.size w W
  ge : ∀ k, v2.ownBlock = some k → w.heap.size ≤ k
theorem g_block {w W W' : World} {on : Bool} {v : Value} {L : List It} {n : Int} {t : TypeId} (G : W.grownBy W' (some (w.heap.size + 1))) (d : Dv t W w.heap.size tD on v L n) : W'.heap[w.heap.size]? = W.heap[w.heap.size]? := G.block _ d.lt (by simp)
theorem Tm.start {w wr w2 : World} {len k : Nat} {on : Bool} {v vb v2 : Value} {L l : List It} {n : Int} (h : Ls w wr len k on v vb L n) (hb : Below wr.heap.size wr w2) (ho : w2.ownsRow wr.heap.size 49 8 v2 l.length (itsAtC l)) :
    Tm w w2 on on v vb v2 L L l n :=
  ⟨h.dv.keep hb, (hb.block _ (Array.getElem?_eq_some_iff.1 h.bx).1).trans h.bx, own_keep h.ob hb, own_base ho (Nat.zero_le _), apart_of h.dv.its ho (Nat.le_refl _), apart_of h.ob ho (Nat.le_refl _), h.bw.trans (hb.mono h.bw.size), fun k hk => Nat.le_trans h.bw.size (ho.lt k hk).1⟩
theorem Tm.take {w W : World} {on on' onb : Bool} {v vb v2 : Value} {L L' Lb l2 : List It} {n n' r : Int} (h : Tm w W on onb v vb v2 L Lb l2 n) {vo : Option Value} (hvo : vo = none ∨ vo = some v) {e : Ending} {W' : World} (ht : TakeP 79 w.heap.size tD on' L' n' r vo W e W') :
    e = .returned (.int .i64 r) ∧ ∃ v', Tm w W' on' onb v' vb v2 L' Lb l2 n' := by
  obtain ⟨he, ⟨v', d', c⟩, g⟩ := ht
  refine ⟨he, v', d', (g.block _ (Array.getElem?_eq_some_iff.1 h.bx).1 (by simp)).trans h.bx, own_grown h.ob h.dv.row (by decide) g, own_grown h.ol h.dv.row (by decide) g, ?_, h.f2, h.bw.grown g h.bw.size (fun k hk => by cases hk; exact Nat.le_refl _), h.ge⟩
  rcases c with c | c
  · rcases hvo with rfl | rfl
    · cases c
    · cases c; exact h.f1
  · exact (apart_of h.ol c (Nat.le_refl _)).symm'
theorem Tm.told {w W W' : World} {on onb : Bool} {v vb v2 v4 : Value} {L Lb l2 l : List It} {n : Int} (h : Tm w W on onb v vb v2 L Lb l2 n) (hb : Below W.heap.size W W') (ho : W'.ownsRow W.heap.size 49 8 v4 l.length (itsAtC l)) :
    Tm w (W'.setCell ⟨w.heap.size + 1, 2, none⟩ v4) on onb v v4 v2 L l l2 n := by
  have bx' := (hb.block _ (Array.getElem?_eq_some_iff.1 h.bx).1).trans h.bx
  have G : W'.grownBy (W'.setCell ⟨w.heap.size + 1, 2, none⟩ v4) (some (w.heap.size + 1)) := set_grown _
  have d' := h.dv.keep hb
  refine ⟨⟨(g_block G d').trans d'.row, own_grown d'.its bx' (by decide) G, d'.len⟩, ?_, own_base (own_grown ho bx' (by decide) G) (Nat.zero_le _), own_grown (own_keep h.ol hb) bx' (by decide) G, h.f1, (apart_of h.ol ho (Nat.le_refl _)).symm', (h.bw.trans (hb.mono h.bw.size)).grown G (Nat.le_trans h.bw.size hb.size) (fun k hk => by cases hk; omega), h.ge⟩
  have := setRow bx' (j := 2) v4
  simpa using this
theorem Tm.last {w W : World} {on onb : Bool} {v vb v2 : Value} {L l2 : List It} {n : Int} (h : Tm w W on onb v vb v2 L L l2 n) :
    Tl w (W.setCell ⟨w.heap.size + 1, 1, none⟩ (.bool on)) on v vb v2 L l2 n := by
  obtain ⟨b, G⟩ := box_set1 (on' := on) h.bx
  exact ⟨⟨(g_block G h.dv).trans h.dv.row, own_grown h.dv.its h.bx (by decide) G, h.dv.len⟩, b, own_grown h.ob h.bx (by decide) G, own_grown h.ol h.bx (by decide) G, h.f1, h.f2, h.bw.grown G h.bw.size (fun k hk => by cases hk; omega), h.ge⟩
theorem Tm.cells {w W : World} {on onb : Bool} {v vb v2 : Value} {L Lb l2 : List It} {n : Int} (h : Tm w W on onb v vb v2 L Lb l2 n) :
    W.cell? ⟨w.heap.size + 1, 0, none⟩ = some (.string tD) ∧ W.cell? ⟨w.heap.size + 1, 1, none⟩ = some (.bool onb) ∧ W.cell? ⟨w.heap.size + 1, 2, none⟩ = some vb ∧ W.frozen? ⟨w.heap.size + 1, 1, none⟩ = false ∧ W.frozen? ⟨w.heap.size + 1, 2, none⟩ = false :=
  ⟨(box_cells h.bx).1, (box_cells h.bx).2.1, (box_cells h.bx).2.2, box_free h.bx 1, box_free h.bx 2⟩
theorem Tm.next {w W : World} {on onb : Bool} {v vb v2 : Value} {L Lb l2 : List It} {n : Int} (h : Tm w W on onb v vb v2 L Lb l2 n) {W' : World} (hb : Below W.heap.size W W') : Tm w W' on onb v vb v2 L Lb l2 n :=
  ⟨h.dv.keep hb, (hb.block _ (Array.getElem?_eq_some_iff.1 h.bx).1).trans h.bx, own_keep h.ob hb, own_keep h.ol hb, h.f1, h.f2, h.bw.trans (hb.mono h.bw.size), h.ge⟩
theorem Tm.its {w W : World} {on onb : Bool} {v vb v2 : Value} {L Lb l2 : List It} {n : Int} (h : Tm w W on onb v vb v2 L Lb l2 n) (hl : l2.length * 72 ≤ 140737488351232) : ItsAt W v2 l2 := ItsAt.of_own h.ol hl
end Go.Proofs.Ytdljddghbkcddaa
