/-
  LAYER 22: append of messages that stand elsewhere; what QueueMoves needs.
-/
import Derived.Test.YtoijdmchkjmpgaaQh
import Derived.Laws.AppendOwnNone
namespace Go.Proofs.Ytoijdmchkjmpgaa.Que
open Go.RowKit
theorem ms_cells {w : World} {b o : Nat} {L : List Mg} (h : ∀ i f, L[i]? = some f → ∀ j u, f.cells[j]? = some u → w.cell? ⟨b, o + i * 4 + j, none⟩ = some u) : ∀ j u, (msAtC L)[j]? = some u → w.cell? ((⟨b, o, none⟩ : Addr).add j) = some u := by
  intro j u hj
  have hlt : j < L.length * 4 := by
    have := (List.getElem?_eq_some_iff.1 hj).1
    rwa [msAtC_length] at this
  have hf : L[j / 4]? = some (L[j / 4]'(by omega)) := List.getElem?_eq_getElem (by omega)
  have hg := msAtC_get L (j / 4) _ hf (j % 4) (Nat.mod_lt _ (by decide))
  rw [show j / 4 * 4 + j % 4 = j by omega, hj] at hg
  have hr := h (j / 4) _ hf (j % 4) u hg.symm
  rw [add_off', show o + j = o + j / 4 * 4 + j % 4 by omega]
  exact hr
theorem run_append_owned_nil {w : World} {P : Program} (base : Nat) (t ty e : TypeId) (i : TypeInfo) (size : Nat) (ht : P.underlying t = some (.slice e)) (hi : P.info? e = some i)
    (v : Value) (n c : Nat) (xs : List Value) (hown : w.ownsRow base e size v n xs) :
    (Builtin.append_ #[t, t] ty #[v, .slice none 0 c]).run P w = .ok v w := by
  rcases hown.2 with ⟨rfl, rfl⟩ | ⟨g, cap, cur, rfl, _, _, hnc, _⟩
  · simp [Builtin.append_, run_underlying ht, sizeOf, typeInfo, hi, Builtin.lenOf, Builtin.firstCells]
  · simp [Builtin.append_, run_underlying ht, sizeOf, typeInfo, hi, Builtin.lenOf, Builtin.firstCells, hnc, storeCells]
theorem wpList_append_ms (w : World) {ops : Array Oper} {rest : List Oper} {o : Oper} {a : Act} {Q : Exit → Act → World → Prop} (hgd : o.guard = none) (s x : Operand)
    (ho : o.op = .call { callee := .builtin .append, args := #[s, x], argTypes := #[59, 59] })
    (base : Nat) (v : Value) (n : Nat) (xs : List Value) (l : List Mg) (hs : a.eval s = v) (hown : w.ownsRow base 53 4 v n xs) (hx : MsAt w (a.eval x) l) (hbase : base ≤ w.heap.size) (hn : n + l.length ≤ 1000000)
    (h : ∀ v' w', w'.ownsRow base 53 4 v' (n + l.length) (xs ++ msAtC l) → w.grownBy w' v.ownBlock → wpList Try.prog ops Q rest (a.put o.dst v') w') : wpList Try.prog ops Q (o :: rest) a w := by
  obtain ⟨i, hi, hz, hsz, hby⟩ := info_parts info53
  obtain ⟨ad, cap, hv, hm, hcase⟩ := hx
  cases ad with
  | none =>
    have hl : l = [] := by
      rcases hcase with h0 | ⟨b, o, h0, _⟩
      · exact h0
      · cases h0
    subst hl
    refine wpList_plain hgd fun K hK => ?_
    have hrun := run_append_owned_nil (P := Try.prog) (w := w) base 59 o.type 53 i 4 Try.underlying59 hi v n cap xs hown
    have hk := hK _ _ (h v w (by simpa [msAtC] using hown) ⟨rfl, rfl, rfl, Nat.le_refl _, fun _ _ _ => rfl⟩)
    unfold Oper.wp
    simp [execOp, ho, resolve, invoke, builtin, hs, hv, hrun, Result.andThen]
    exact hk
  | some ad =>
    have hcell : ∀ j u, (msAtC l)[j]? = some u → w.cell? (ad.add j) = some u := by
      rcases hcase with h | ⟨b, o, h, hlt, hcell⟩
      · subst h; intro j u hj; simp [msAtC] at hj
      · simp only [Option.some.injEq] at h
        subst h
        exact ms_cells hcell
    refine wpList_append_own w hgd s x 59 ho base 53 i zM 4 48 Try.underlying59 hi hz hsz hby rfl (by decide) v n xs hs hown ad l.length cap (msAtC l) hv (msAtC_length l) hcell (msAtC_one l) (by unfold maxLen; omega) (by omega) hbase ?_
    intro v' w' h1 h2 _
    exact h v' w' h1 h2
/-- What the two queues hold. -/
structure PQ (w wr : World) (n k : Nat) (P Q : List Mg) : Prop where
  p : Qu wr (w.heap.size + 1) w.heap.size n P 0
  q : Qu wr (w.heap.size + 3) (w.heap.size + 2) k Q 0
  bw : Below w.heap.size w wr
section
variable {w wr w2 : World} {n k : Nat} {P Q R S : List Mg}
theorem PQ.next (h : PQ w wr n k P Q) (b : Below wr.heap.size wr w2) : PQ w w2 n k P Q := ⟨h.p.keep b, h.q.keep b, h.bw.trans (b.mono h.bw.size)⟩
theorem PQ.onP (h : PQ w wr n k P Q) (p : Qu w2 (w.heap.size + 1) w.heap.size n R 0) (G : wr.grownBy w2 (some w.heap.size)) : PQ w w2 n k R Q :=
  ⟨p, h.q.two G (by omega) (by omega), h.bw.grown G h.bw.size (fun j hj => by cases hj; exact Nat.le_refl _)⟩
theorem PQ.onQ (h : PQ w wr n k P Q) (q : Qu w2 (w.heap.size + 3) (w.heap.size + 2) k R 0) (G : wr.grownBy w2 (some (w.heap.size + 2))) : PQ w w2 n k P R :=
  ⟨h.p.two G (by omega) (by omega), q, h.bw.grown G h.bw.size (fun j hj => by cases hj; omega)⟩
theorem PQ.both (h : PQ w wr n k P Q) (p : Qu w2 (w.heap.size + 1) w.heap.size n R 0) (q : Qu w2 (w.heap.size + 3) (w.heap.size + 2) k S 0) (T : Two w.heap.size (w.heap.size + 2) wr w2) : PQ w w2 n k R S :=
  ⟨p, q, h.bw.trans (T.below (Nat.le_refl _) (by omega) h.bw.size)⟩
theorem PQ.own (h : PQ w wr n k P Q) {B m : Nat} {v : Value} {xs : List Value} (o : wr.ownsRow B 53 4 v m xs) (hB : w.heap.size ≤ B) (G : wr.grownBy w2 v.ownBlock) : PQ w w2 n k P Q :=
  ⟨h.p.own o (by decide) G, h.q.own o (by decide) G, h.bw.grown G h.bw.size (fun j hj => Nat.le_trans hB (o.lt j hj).1)⟩
theorem PQ.ownP (h : PQ w wr n k P Q) {B m : Nat} {v : Value} {xs : List Value} (o : wr.ownsRow B 53 4 v m xs) (G : wr.grownBy w2 (some w.heap.size)) : w2.ownsRow B 53 4 v m xs := own_chan o h.p.ch.choose_spec.choose_spec G
theorem PQ.ownQ (h : PQ w wr n k P Q) {B m : Nat} {v : Value} {xs : List Value} (o : wr.ownsRow B 53 4 v m xs) (G : wr.grownBy w2 (some (w.heap.size + 2))) : w2.ownsRow B 53 4 v m xs := own_chan o h.q.ch.choose_spec.choose_spec G
theorem PQ.keepRow (h : PQ w wr n k P Q) {B m : Nat} {v : Value} {xs : List Value} (o : wr.ownsRow B 53 4 v m xs) (T : Two w.heap.size (w.heap.size + 2) wr w2) : w2.ownsRow B 53 4 v m xs := by
  refine ⟨o.1, o.2.imp id ?_⟩
  rintro ⟨g, cap, cur, hv, hg, hcur, rest⟩
  refine ⟨g, cap, cur, hv, hg, (T.block g (Array.getElem?_eq_some_iff.1 hcur).1 ?_ ?_).trans hcur, rest⟩
  · rintro rfl
    obtain ⟨s, r, hc⟩ := h.p.ch
    rw [hc] at hcur
    cases hcur
  · rintro rfl
    obtain ⟨s, r, hc⟩ := h.q.ch
    rw [hc] at hcur
    cases hcur
theorem Two.grow {a b c : World} {c1 c2 : Nat} (h : Two c1 c2 a b) {r : Option Nat} (g : b.grownBy c r) (hr : ∀ j, r = some j → a.heap.size ≤ j) : Two c1 c2 a c :=
  ⟨g.os.trans h.os, g.tape.trans h.tape, g.output.trans h.output, Nat.le_trans h.size g.size, fun k hk h1 h2 => (g.block k (Nat.lt_of_lt_of_le hk h.size) (fun e => by have := hr k e.symm; omega)).trans (h.block k hk h1 h2)⟩
theorem moved_all (P Q : List Mg) (k : Nat) : Q ++ P.take (movedN P Q k) ++ P.drop (movedN P Q k) = Q ++ P := by rw [List.append_assoc, List.take_append_drop]
theorem moved_le (P Q : List Mg) (k : Nat) : movedN P Q k ≤ P.length := by unfold movedN; omega
end
end Go.Proofs.Ytoijdmchkjmpgaa.Que
