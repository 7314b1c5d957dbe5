/-
  LAYER 22: QueuePlays: two queues and the document's two.
-/
import Derived.Test.YtoijdmchkjmpgaaQm
import Derived.Test.YtoijdmchkjmpgaaAs
namespace Go.Proofs.Ytoijdmchkjmpgaa.Que
open Go.RowKit
structure QS (w wr : World) (na nb : Nat) (P : List Mg) (lp : Int) (vx : Value) (X : List Mg) (lx : Int) (Q : List Mg) (lq : Int) (vy : Value) (Y : List Mg) (ly : Int) : Prop where
  p : Qu wr (w.heap.size + 1) w.heap.size na P lp
  q : Qu wr (w.heap.size + 4) (w.heap.size + 3) nb Q lq
  xx : XX (w.heap.size + 6) wr (w.heap.size + 2) vx X na lx (w.heap.size + 5) vy Y nb ly
  bw : Below w.heap.size w wr
  sz : w.heap.size + 6 ≤ wr.heap.size
section
variable {w wr W : World} {na nb : Nat} {P P' Q Q' X X' Y Y' : List Mg} {lp lp' lx lx' lq lq' ly ly' : Int} {vx vx' vy vy' : Value}
theorem QS.ext (h : QS w wr na nb P lp vx X lx Q lq vy Y ly) (hb : Below wr.heap.size wr W) : QS w W na nb P lp vx X lx Q lq vy Y ly :=
  ⟨h.p.keep hb, h.q.keep hb, h.xx.keep hb, h.bw.trans (hb.mono h.bw.size), Nat.le_trans h.sz hb.size⟩
theorem Qu.fars {S : Nat → Prop} {w w' : World} {g c cap : Nat} {l : List Mg} {lost : Int} (h : Qu w g c cap l lost) (F : Far S w w') (h1 : ¬ S g) (h2 : ¬ S c) : Qu w' g c cap l lost := by
  obtain ⟨s, r, hc⟩ := h.ch
  exact ⟨(F.block g h.lt h1).trans h.row, s, r, (F.block c h.clt h2).trans hc⟩
theorem QS.xs (h : QS w wr na nb P lp vx X lx Q lq vy Y ly) {k : Nat} (hk : vx.ownBlock = some k) : w.heap.size + 6 ≤ k := (h.xx.x1.its.lt k hk).1
theorem QS.ys (h : QS w wr na nb P lp vx X lx Q lq vy Y ly) {k : Nat} (hk : vy.ownBlock = some k) : w.heap.size + 6 ≤ k := (h.xx.x2.its.lt k hk).1
theorem QS.onp (h : QS w wr na nb P lp vx X lx Q lq vy Y ly) {k : Nat} (hk : k = w.heap.size ∨ k = w.heap.size + 1) (p : Qu W (w.heap.size + 1) w.heap.size na P' lp') (G : wr.grownBy W (some k)) : QS w W na nb P' lp' vx X lx Q lq vy Y ly := by
  have F : Far (fun j => j = k) wr W := Far.of_grown G (fun j _ e => by simpa using e.symm)
  refine ⟨p, h.q.beside G (by omega) (by omega), h.xx.far F (by omega) (by omega) (fun j hj => ?_) (fun j hj => ?_), h.bw.grown G h.bw.size (fun j hj => by cases hj; omega), Nat.le_trans h.sz G.size⟩
  · have := h.xs hj; omega
  · have := h.ys hj; omega
theorem QS.onq (h : QS w wr na nb P lp vx X lx Q lq vy Y ly) {k : Nat} (hk : k = w.heap.size + 3 ∨ k = w.heap.size + 4) (q : Qu W (w.heap.size + 4) (w.heap.size + 3) nb Q' lq') (G : wr.grownBy W (some k)) : QS w W na nb P lp vx X lx Q' lq' vy Y ly := by
  have F : Far (fun j => j = k) wr W := Far.of_grown G (fun j _ e => by simpa using e.symm)
  refine ⟨h.p.beside G (by omega) (by omega), q, h.xx.far F (by omega) (by omega) (fun j hj => ?_) (fun j hj => ?_), h.bw.grown G h.bw.size (fun j hj => by cases hj; omega), Nat.le_trans h.sz G.size⟩
  · have := h.xs hj; omega
  · have := h.ys hj; omega
theorem QS.onx (h : QS w wr na nb P lp vx X lx Q lq vy Y ly) (n : XNew (w.heap.size + 6) wr W (w.heap.size + 2) vx X' na lx' vx') : QS w W na nb P lp vx' X' lx' Q lq vy Y ly := by
  have hS : ∀ k, SX (w.heap.size + 2) vx k → k = w.heap.size + 2 ∨ w.heap.size + 6 ≤ k := fun k hk => hk.imp id (fun e => h.xs e)
  refine ⟨h.p.fars n.far (fun e => ?_) (fun e => ?_), h.q.fars n.far (fun e => ?_) (fun e => ?_), h.xx.on1 n, h.bw.trans (n.far.below h.bw.size (fun k e => ?_)), Nat.le_trans h.sz n.far.size⟩
  all_goals (have := hS _ e; omega)
theorem QS.ony (h : QS w wr na nb P lp vx X lx Q lq vy Y ly) (n : XNew (w.heap.size + 6) wr W (w.heap.size + 5) vy Y' nb ly' vy') : QS w W na nb P lp vx X lx Q lq vy' Y' ly' := by
  have hS : ∀ k, SX (w.heap.size + 5) vy k → k = w.heap.size + 5 ∨ w.heap.size + 6 ≤ k := fun k hk => hk.imp id (fun e => h.ys e)
  refine ⟨h.p.fars n.far (fun e => ?_) (fun e => ?_), h.q.fars n.far (fun e => ?_) (fun e => ?_), h.xx.on2 n, h.bw.trans (n.far.below h.bw.size (fun k e => ?_)), Nat.le_trans h.sz n.far.size⟩
  all_goals (have := hS _ e; omega)
theorem QS.moved (h : QS w wr na nb P lp vx X lx Q lq vy Y ly) (p : Qu W (w.heap.size + 1) w.heap.size na P' lp') (q : Qu W (w.heap.size + 4) (w.heap.size + 3) nb Q' lq') (T : Far (fun k => k = w.heap.size ∨ k = w.heap.size + 3) wr W) : QS w W na nb P' lp' vx X lx Q' lq' vy Y ly := by
  refine ⟨p, q, h.xx.far T (by omega) (by omega) (fun j hj => ?_) (fun j hj => ?_), h.bw.trans (T.below h.bw.size (fun k e => by omega)), Nat.le_trans h.sz T.size⟩
  · have := h.xs hj; omega
  · have := h.ys hj; omega
theorem QS.xmoved (h : QS w wr na nb P lp vx X lx Q lq vy Y ly) (x : XX (w.heap.size + 6) W (w.heap.size + 2) vx' X' na lx' (w.heap.size + 5) vy' Y' nb ly') {S : Nat → Prop} (F : Far S wr W) (hS : ∀ k, S k → k = w.heap.size + 2 ∨ k = w.heap.size + 5 ∨ vx.ownBlock = some k ∨ vy.ownBlock = some k) : QS w W na nb P lp vx' X' lx' Q lq vy' Y' ly' := by
  have hS' : ∀ k, S k → k = w.heap.size + 2 ∨ k = w.heap.size + 5 ∨ w.heap.size + 6 ≤ k := fun k hk => by
    rcases hS k hk with e | e | e | e
    · exact .inl e
    · exact .inr (.inl e)
    · exact .inr (.inr (h.xs e))
    · exact .inr (.inr (h.ys e))
  refine ⟨h.p.fars F (fun e => ?_) (fun e => ?_), h.q.fars F (fun e => ?_) (fun e => ?_), x, h.bw.trans (F.below h.bw.size (fun k e => ?_)), Nat.le_trans h.sz F.size⟩
  all_goals (have := hS' _ e; omega)
theorem Two.far {c1 c2 : Nat} {S : Nat → Prop} {a b : World} (T : Two c1 c2 a b) (h1 : S c1) (h2 : S c2) : Far S a b :=
  ⟨T.os, T.tape, T.output, T.size, fun k hk hn => T.block k hk (fun e => hn (e ▸ h1)) (fun e => hn (e ▸ h2))⟩
/-- Both sides agree: between two rounds. -/
structure QR (w wr : World) (len k na nb : Nat) (P : List Mg) (lp : Int) (vx : Value) (Q : List Mg) (lq : Int) (vy : Value) : Prop where
  s : QS w wr na nb P lp vx P lp Q lq vy Q lq
  kl : k ≤ len
  k6 : k ≤ 60
  hp : P.length ≤ na
  hq : Q.length ≤ nb
  l1 : 0 ≤ lp ∧ lp ≤ k
  l2 : 0 ≤ lq ∧ lq ≤ k
end
end Go.Proofs.Ytoijdmchkjmpgaa.Que
