/-
  APPEND OF BYTES TO A ROW OF THE CALL's OWN, whatever the source is.
-/
import Derived.Test.YtmpklaokgogigaaDoorByt
import Derived.Laws.AppendOwnNone
namespace Go.Proofs.YtmpklaokgogigaaDoor
set_option linter.unusedSimpArgs false
set_option linter.unusedVariables false
open Go.RowKit

theorem bl_append (l m : List Nat) : bl (l ++ m) = bl l ++ bl m := by simp [bl]
theorem bl_one (l : List Nat) : ∀ u ∈ bl l, u.oneCell' = true := by
  intro u hu
  simp only [bl, List.mem_map] at hu
  obtain ⟨x, _, rfl⟩ := hu
  rfl

theorem wpList_append_bytes {P : Program} (w : World) {ops : Array Oper} {rest : List Oper} {o : Oper} {a : Act} {Q : Exit → Act → World → Prop} (hgd : o.guard = none) (s x : Operand) (t : TypeId)
    (ho : o.op = .call { callee := .builtin .append, args := #[s, x], argTypes := #[t, t] })
    (base : Nat) (e : TypeId) (i : TypeInfo) (ht : P.underlying t = some (.slice e)) (hi : P.info? e = some i) (hz : i.zero = some (.int .u8 0)) (hsize : i.size = 1) (hby : i.bytes = 1)
    (v : Value) (xs l : List Nat) (hs : a.eval s = v) (hown : w.ownsRow base e 1 v xs.length (bl xs)) (hx : BytesAt w (a.eval x) l)
    (hroom : xs.length + l.length ≤ 140737488355328) (hbase : base ≤ w.heap.size)
    (h : ∀ v' w', w'.ownsRow base e 1 v' (xs ++ l).length (bl (xs ++ l)) → w.grownBy w' v.ownBlock → (v' = .slice none 0 0 ↔ v = .slice none 0 0 ∧ l.length = 0) → wpList P ops Q rest (a.put o.dst v') w') : wpList P ops Q (o :: rest) a w := by
  obtain ⟨ad, cap, hv, ⟨hc, hcn⟩, hcase⟩ := hx
  cases ad with
  | none =>
    have hl : l = [] := by
      rcases hcase with h0 | ⟨b, o, h0, _⟩
      · exact h0
      · cases h0
    subst hl
    obtain rfl := hcn rfl
    refine wpList_append_own_none hgd s x t ho base e i 1 ht hi v xs.length (bl xs) hs hown hv (h v w ?_ ?_ ?_)
    · simpa using hown
    · exact ⟨rfl, rfl, rfl, Nat.le_refl _, fun _ _ _ => rfl⟩
    · simp
  | some ad =>
    refine wpList_append_own w hgd s x t ho base e i (.int .u8 0) 1 1 ht hi hz hsize hby rfl (by decide) v xs.length (bl xs) hs hown ad l.length cap (bl l) hv (by simp [bl]) ?_ (bl_one l) (by unfold maxLen; omega) (by omega) hbase ?_
    · intro j u hj
      rcases hcase with rfl | ⟨b, o, h0, hb, hcell⟩
      · simp [bl] at hj
      · simp only [Option.some.injEq] at h0
        subst h0
        have hlt : j < l.length := by
          have := (List.getElem?_eq_some_iff.1 hj).1
          simpa [bl] using this
        have hadd : (⟨b, o, none⟩ : Addr).add j = ⟨b, o + j, none⟩ := by unfold Addr.add; split <;> simp_all
        rw [hadd, hcell j hlt, bl_get l j u hj]
    · intro v' w' h1 h2 h3
      exact h v' w' (by rw [List.length_append, bl_append]; exact h1) h2 h3
end Go.Proofs.YtmpklaokgogigaaDoor
