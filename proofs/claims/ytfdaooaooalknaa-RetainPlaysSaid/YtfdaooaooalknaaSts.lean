/-
  Strings that came in, each small.
-/
import Derived.Test.YtfdaooaooalknaaStr
import Derived.Test.YtfdaooaooalknaaMs
namespace Go.Proofs.Ytfdaooaooalknaa
set_option linter.unusedVariables false
set_option linter.unusedSimpArgs false
open Go.RowKit Go.ChangeShapes Go.WideShapes
theorem open_str_small {H : Type} {enc : TypeId × Value → H} {P : Program} {W : World} {t e : TypeId} (ht : P.underlying t = some (.slice e)) (he : P.underlying e = some .string) (hc : P.cellsOf e = 1) {a0 : Option Addr} {len cap fuel : Nat} {x : DataW H × List MemPlace}
    (hf : DataW.trod enc P W 0 (fun _ => true) true fuel t [.slice a0 len cap] = some x) (hs : ∀ n ∈ x.1.weights P t, n ≤ 140737488351232) : ∃ ss, StrRow W a0 len ss ∧ ∀ i, i < len → (ss.getD i ByteArray.empty).size ≤ 140737488351232 := by
  rcases open_strings ht he hc hf with ⟨hcs, hx⟩ | ⟨a, len', cap', ss, hcs, _, hl, hm, hz, hx, hcell, hsz⟩
  · simp at hcs
    obtain ⟨rfl, rfl, rfl⟩ := hcs
    exact ⟨[], ⟨rfl, Nat.zero_le _, .inl rfl⟩, fun i hi => absurd hi (Nat.not_lt_zero _)⟩
  · simp at hcs
    obtain ⟨rfl, rfl, rfl⟩ := hcs
    simp only [if_true] at hz
    have hg' : ∀ i, i < len → (ss.take len).getD i ByteArray.empty = ss.getD i ByteArray.empty := fun i hi => by simp [List.getD, List.getElem?_take, hi]
    refine ⟨ss.take len, ⟨by simp; omega, by omega, ?_⟩, fun i hi => ?_⟩
    rotate_left
    · rw [hg' i hi]
      have hi2 : i < ss.length := by omega
      have hm' : ss.getD i ByteArray.empty ∈ ss.take len := by
        rw [List.getD_eq_getElem?_getD, List.getElem?_eq_getElem hi2]
        exact List.mem_take_iff_getElem.2 ⟨i, by omega, rfl⟩
      refine hs _ ?_
      rw [hx]
      simp only [DataW.weights, ht]
      refine List.mem_cons_of_mem _ (List.mem_append_left _ (weightsAll_mem' (d := .lit (.string (ss.getD i ByteArray.empty).data.toList)) ?_ _ ?_))
      · exact List.mem_map.2 ⟨_, hm', rfl⟩
      · simp [DataW.weights]
    by_cases h0 : len = 0
    · exact .inl h0
    right
    obtain ⟨b, off, spot⟩ := a
    have hc0 := hcell 0 (by omega)
    have hs : spot = none := by simpa [Addr.add] using World.cell?_spot hc0
    subst hs
    refine ⟨b, off, rfl, by have := World.block_lt_of_cell? W _ hc0; simpa [Addr.add] using this, fun i hi => ?_⟩
    have := hcell i (by omega)
    have hadd : (⟨b, off, none⟩ : Addr).add i = ⟨b, off + i, none⟩ := by unfold Addr.add; split <;> simp_all
    rw [hadd] at this
    have hg : (ss.take len).getD i ByteArray.empty = ss.getD i ByteArray.empty := by
      simp [List.getD, List.getElem?_take, hi]
    rw [hg]
    refine ⟨this, hsz _ ?_⟩
    rw [List.getD_eq_getElem?_getD, List.getElem?_eq_getElem (by omega)]
    exact List.getElem_mem _
end Go.Proofs.Ytfdaooaooalknaa
