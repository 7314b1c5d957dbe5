/-
  LAYER 3: append of fields to a row of the call's own.
-/
import Derived.Test.YtoglgdkeknojkaaWq
import Derived.Laws.OwnMore
import Derived.Laws.AppendOwnNone
namespace Go.Proofs.Ytoglgdkeknojkaa
open Go.RowKit

/-- An operation whose guard is met goes as one without a guard. -/
theorem wpList_struck {P : Program} {ops : Array Oper} {Q : Exit → Act → World → Prop} {a : Act} {w : World} {rest : List Oper} {o : Oper} (hw : Region.wanted o (yielded ops a.tmps) = true)
    (h : wpList P ops Q ({ o with guard := none } :: rest) a w) : wpList P ops Q (o :: rest) a w := by
  have hn : Region.wanted { o with guard := none } (yielded ops a.tmps) = true := rfl
  rw [wpList, if_pos hn] at h
  rw [wpList, if_pos hw]
  exact h
theorem run_append_owned_nil {w : World} {P : Program} (base : Nat) (t ty e : TypeId) (i : TypeInfo) (size : Nat) (ht : P.underlying t = some (.slice e)) (hi : P.info? e = some i)
    (v : Value) (n c : Nat) (xs : List Value) (hown : w.ownsRow base e size v n xs) :
    (Builtin.append_ #[t, t] ty #[v, .slice none 0 c]).run P w = .ok v w := by
  rcases hown.2 with ⟨rfl, rfl⟩ | ⟨g, cap, cur, rfl, _, _, hnc, _⟩
  · simp [Builtin.append_, run_underlying ht, sizeOf, typeInfo, hi, Builtin.lenOf, Builtin.firstCells]
  · simp [Builtin.append_, run_underlying ht, sizeOf, typeInfo, hi, Builtin.lenOf, Builtin.firstCells, hnc, storeCells]
theorem wpList_append_fds {P : Program} (w : World) {ops : Array Oper} {rest : List Oper} {o : Oper} {a : Act} {Q : Exit → Act → World → Prop} (hgd : o.guard = none) (s x : Operand) (t : TypeId)
    (ho : o.op = .call { callee := .builtin .append, args := #[s, x], argTypes := #[t, t] })
    (base : Nat) (e : TypeId) (i : TypeInfo) (z : Value) (ht : P.underlying t = some (.slice e)) (hi : P.info? e = some i) (hz : i.zero = some z) (hzs : z.cells.size = 4) (hsize : i.size = 4) (hby : i.bytes = 40)
    (v : Value) (xs l : List Fd) (hs : a.eval s = v) (hown : w.ownsRow base e 4 v xs.length (fcs xs)) (hx : FdsAt w (a.eval x) l)
    (hroom : xs.length + l.length ≤ 1000000) (hbase : base ≤ w.heap.size)
    (h : ∀ v' w', w'.ownsRow base e 4 v' (xs ++ l).length (fcs (xs ++ l)) → w.grownBy w' v.ownBlock → wpList P ops Q rest (a.put o.dst v') w') : wpList P ops Q (o :: rest) a w := by
  obtain ⟨ad, cap, hv, hm, hcase⟩ := hx
  cases ad with
  | none =>
    have hl : l = [] := by
      rcases hcase with h0 | ⟨b, o, h0, _⟩
      · exact h0
      · cases h0
    subst hl
    refine wpList_plain hgd fun K hK => ?_
    have hrun := run_append_owned_nil (P := P) (w := w) base t o.type e i 4 ht hi v xs.length cap (fcs xs) hown
    have hk := hK _ _ (h v w (by simpa using hown) ⟨rfl, rfl, rfl, Nat.le_refl _, fun _ _ _ => rfl⟩)
    unfold Oper.wp
    simp [execOp, ho, resolve, invoke, builtin, hs, hv, hrun, Result.andThen]
    exact hk
  | some ad =>
    refine wpList_append_own w hgd s x t ho base e i z 4 40 ht hi hz hsize hby hzs (by decide) v xs.length (fcs xs) hs hown ad l.length cap (fcs l) hv (fcs_length l) ?_ ?_ (by unfold maxLen; omega) (by omega) hbase ?_
    · intro j u hj
      rcases hcase with rfl | ⟨b, o, h0, hb, hcell⟩
      · simp [fcs] at hj
      · simp only [Option.some.injEq] at h0
        subst h0
        have hlt : j < l.length * 4 := by
          have := (List.getElem?_eq_some_iff.1 hj).1
          rwa [fcs_length] at this
        have hf : l[j / 4]? = some (l[j / 4]'(by omega)) := List.getElem?_eq_getElem (by omega)
        have hg := fcs_get l (j / 4) _ hf (j % 4) (Nat.mod_lt _ (by decide))
        rw [show j / 4 * 4 + j % 4 = j by omega, hj] at hg
        have hr := hcell (j / 4) _ hf (j % 4) u hg.symm
        rw [Addr.add_mid, show o + j = o + j / 4 * 4 + j % 4 by omega]
        exact hr
    · intro u hu
      unfold fcs at hu
      obtain ⟨f, -, hf⟩ := List.mem_flatMap.1 hu
      simp only [Fd.cells, List.mem_cons, List.not_mem_nil, or_false] at hf
      rcases hf with rfl | rfl | rfl | rfl <;> rfl
    · intro v' w' h1 h2 _
      exact h v' w' (by rw [List.length_append]; rw [show fcs (xs ++ l) = fcs xs ++ fcs l by simp [fcs]]; exact h1) h2
theorem fgrown_ext {B : Nat} {w w' : World} {v : Value} {n size : Nat} {xs : List Value} {e : TypeId} (hown : w.ownsRow B e size v n xs) (hg : w.grownBy w' v.ownBlock) (hB : B ≤ w.heap.size) : Below B w w' :=
  (Below.refl _ _).grown hg hB (fun k hk => (hown.lt k hk).1)
end Go.Proofs.Ytoglgdkeknojkaa
