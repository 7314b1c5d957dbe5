/-
  LAYER 32: append of items to a row of the call's own.
-/
import Derived.Test.YtdljddghbkcddaaDm
import Derived.Laws.AppendOwnNone
namespace Go.Proofs.Ytdljddghbkcddaa
open Go.RowKit

theorem run_append_owned_nil {w : World} {P : Program} (base : Nat) (t ty e : TypeId) (i : TypeInfo) (size : Nat) (ht : P.underlying t = some (.slice e)) (hi : P.info? e = some i)
    (v : Value) (n c : Nat) (xs : List Value) (hown : w.ownsRow base e size v n xs) :
    (Builtin.append_ #[t, t] ty #[v, .slice none 0 c]).run P w = .ok v w := by
  rcases hown.2 with ⟨rfl, rfl⟩ | ⟨g, cap, cur, rfl, _, _, hnc, _⟩
  · simp [Builtin.append_, run_underlying ht, sizeOf, typeInfo, hi, Builtin.lenOf, Builtin.firstCells]
  · simp [Builtin.append_, run_underlying ht, sizeOf, typeInfo, hi, Builtin.lenOf, Builtin.firstCells, hnc, storeCells]
theorem wpList_append_its {P : Program} (w : World) {ops : Array Oper} {rest : List Oper} {o : Oper} {a : Act} {Q : Exit → Act → World → Prop} (hgd : o.guard = none) (s x : Operand) (t : TypeId)
    (ho : o.op = .call { callee := .builtin .append, args := #[s, x], argTypes := #[t, t] })
    (base : Nat) (e : TypeId) (i : TypeInfo) (z : Value) (ht : P.underlying t = some (.slice e)) (hi : P.info? e = some i) (hz : i.zero = some z) (hzs : z.cells.size = 8) (hsize : i.size = 8) (hby : i.bytes = 72)
    (v : Value) (l : List It) (hs : a.eval s = v) (hown : w.ownsRow base e 8 v 0 []) (hx : ItsAt w (a.eval x) l) (hbase : base ≤ w.heap.size)
    (h : ∀ v' w', w'.ownsRow base e 8 v' l.length (itsAtC l) → w.grownBy w' v.ownBlock → wpList P ops Q rest (a.put o.dst v') w') : wpList P ops Q (o :: rest) a w := by
  obtain ⟨ad, cap, hv, hm, hcase⟩ := hx
  cases ad with
  | none =>
    have hl : l = [] := by
      rcases hcase with h0 | ⟨b, o, h0, _⟩
      · exact h0
      · cases h0
    subst hl
    refine wpList_plain hgd fun K hK => ?_
    have hrun := run_append_owned_nil (P := P) (w := w) base t o.type e i 8 ht hi v 0 cap [] hown
    have hk := hK _ _ (h v w (by simpa [itsAtC] using hown) ⟨rfl, rfl, rfl, Nat.le_refl _, fun _ _ _ => rfl⟩)
    unfold Oper.wp
    simp [execOp, ho, resolve, invoke, builtin, hs, hv, hrun, Result.andThen]
    exact hk
  | some ad =>
    have hcell : ∀ j u, (itsAtC l)[j]? = some u → w.cell? (ad.add j) = some u := by
      rcases hcase with h | ⟨b, o, h, hlt, hcell⟩
      · subst h; intro j u hj; simp [itsAtC] at hj
      · simp only [Option.some.injEq] at h
        subst h
        exact its_cells hcell
    refine wpList_append_own w hgd s x t ho base e i z 8 72 ht hi hz hsize hby hzs (by decide) v 0 [] hs hown ad l.length cap (itsAtC l) hv (itsAtC_length l) hcell (itsAtC_one l) (by unfold maxLen; omega) (by omega) hbase ?_
    intro v' w' h1 h2 _
    exact h v' w' (by simpa using h1) h2
end Go.Proofs.Ytdljddghbkcddaa
