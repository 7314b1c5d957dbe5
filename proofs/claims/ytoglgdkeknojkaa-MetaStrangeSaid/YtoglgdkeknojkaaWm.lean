/-
  LAYER 3: the law's own: awake; are two lists of fields one?
-/
import Derived.Test.YtoglgdkeknojkaaWl
namespace Go.Proofs.Ytoglgdkeknojkaa
open Go.RowKit

def one1 : Fd := ⟨1, 0, 300, ⟨#[]⟩⟩
theorem fds_lit (w : World) (f : Fd) : FdsAt (w.alloc (.cells f.cells.toArray 41)) (.slice (some ⟨w.heap.size, 0, none⟩) 1 1) [f] := by
  refine ⟨some ⟨w.heap.size, 0, none⟩, 1, rfl, by simp, .inr ⟨w.heap.size, 0, rfl, by simp, fun i g hi => ?_⟩⟩
  have hi0 : i = 0 := by
    have := (List.getElem?_eq_some_iff.1 hi).1
    simp at this; omega
  subst hi0
  simp at hi
  subst hi
  intro j u hj
  rw [World.cell?_alloc_at _ _ _ _ rfl]
  simpa using hj
theorem putsE1 : putsE [one1] = 0 := rfl
theorem putsL1 : putsL [one1] = [8, 172, 2] := rfl
theorem ofR1 : ofR [8, 172, 2] = ([one1], 0) := rfl
theorem Src.of_row {w : World} {a : Option Addr} {len cap : Nat} {zs : List Int} (h : IsRow .u8 w a len cap zs) : Src w (.slice a len cap) ((zs.take len).map Int.toNat) := by
  have hb := h.bytes
  obtain ⟨⟨a', cap', hv, ⟨h1, h2⟩, hcase⟩, hlen, _⟩ := hb
  rw [hlen] at hv h1
  simp only [Value.slice.injEq, true_and] at hv
  obtain ⟨rfl, rfl⟩ := hv
  refine ⟨a, cap, by rw [hlen], by omega, ?_, h2, ?_⟩
  · rcases h with ⟨_, _, rfl, _⟩ | ⟨x, _, _, hm, _⟩
    · omega
    · unfold maxLen at hm; omega
  · rcases hcase with h0 | ⟨b, o, ha, hb, hc⟩
    · by_cases hcap : cap = 0
      · exact .inl hcap
      · right
        rcases h with ⟨_, _, h3, _⟩ | ⟨x, rfl, hl, hm, hz, hcell, hwz⟩
        · exact absurd h3 hcap
        · obtain ⟨b, off, spot⟩ := x
          have hc0 := hcell 0 (by omega)
          have hs : spot = none := by simpa [Addr.add] using World.cell?_spot hc0
          subst hs
          refine ⟨b, off, rfl, by have := World.block_lt_of_cell? w _ hc0; simpa [Addr.add] using this, fun j hj => ?_⟩
          rw [h0] at hj
          simp at hj
    · exact .inr ⟨b, o, ha, hb, hc⟩
end Go.Proofs.Ytoglgdkeknojkaa
