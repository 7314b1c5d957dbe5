/-
  LAYER 3: the document's Put.
-/
import Derived.Test.YtoglgdkeknojkaaDoorWd
namespace Go.Proofs.YtoglgdkeknojkaaDoor
open Go.RowKit

theorem oneL_len (f : Fd) (h : f.ok) (hn : wrE f = 0) : f.text.size ≤ (oneL f).length ∧ (oneL f).length ≤ 20 + f.text.size := by
  obtain ⟨n1, n2, -⟩ := wrE_zero hn
  obtain ⟨kl, kg⟩ := kind_le hn
  have := putL_small (tag f) (by have := tag_le f n2 kg; omega)
  have := mid_len f h
  unfold oneL
  simp only [List.length_append, txtL_length]
  omega
end Go.Proofs.YtoglgdkeknojkaaDoor
