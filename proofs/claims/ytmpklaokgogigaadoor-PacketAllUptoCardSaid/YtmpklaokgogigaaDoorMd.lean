/-
  LAYER 16: a packet in a list that was read.
-/
import Derived.Test.YtmpklaokgogigaaDoorMc
import Derived.Test.YtmpklaokgogigaaDoorLi
namespace Go.Proofs.YtmpklaokgogigaaDoor.Pac
set_option linter.unusedVariables false
set_option linter.unusedSimpArgs false
open Go.Proofs.YtmpklaokgogigaaDoor
open Go.RowKit
theorem cells_get (L : List Pt) : ∀ (k : Nat) (x : Pt), L[k]? = some x → ∀ j, j < 24 → (L.flatMap Pt.cells)[k * 24 + j]? = x.cells[j]? := by
  induction L with
  | nil => intro k x h; simp at h
  | cons y L ih =>
    intro k x h j hj
    rw [List.flatMap_cons]
    cases k with
    | zero =>
      simp at h; subst h
      rw [Nat.zero_mul, Nat.zero_add, List.getElem?_append_left (by rw [Pt.len]; exact hj)]
    | succ k =>
      have h' : L[k]? = some x := by simpa using h
      rw [List.getElem?_append_right (by rw [Pt.len]; omega), Pt.len, show (k + 1) * 24 + j - 24 = k * 24 + j from by omega]
      exact ih k x h' j hj
theorem Pks.at {B : Nat} {v : Value} {L : List Pt} {w : World} (h : Pks B v L w) {k : Nat} {x : Pt} (hk : L[k]? = some x) : ∃ g cap, v = .slice (some ⟨g, 0, none⟩) L.length cap ∧ g < w.heap.size ∧ L.length ≤ cap ∧ w.rangeAt g (k * 24) x.cells := by
  have hkl := (List.getElem?_eq_some_iff.1 hk).1
  obtain ⟨h1, ⟨rfl, h0⟩ | ⟨g, cap, cur, hv, hg, hcur, hn, hm, hsz, ht⟩⟩ := h.o
  · omega
  · refine ⟨g, cap, hv, (Array.getElem?_eq_some_iff.1 hcur).1, hn, fun j u hj => ?_⟩
    have hj24 : j < 24 := by have := (List.getElem?_eq_some_iff.1 hj).1; rwa [Pt.len] at this
    have hc := cells_get L k x hk j hj24
    rw [hj, ← ht, List.getElem?_take] at hc
    have hlt : k * 24 + j < L.length * 24 := by omega
    rw [if_pos hlt] at hc
    rw [cell_of_row w g _ cur 33 (0, 0) hcur, ← Array.getElem?_toList]
    exact hc
end Go.Proofs.YtmpklaokgogigaaDoor.Pac
