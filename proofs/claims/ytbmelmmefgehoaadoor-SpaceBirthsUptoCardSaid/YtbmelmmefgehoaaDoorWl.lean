/-
  LAYER 20: a spot that a topic tells is small; births; plain.
-/
import Derived.Test.YtbmelmmefgehoaaDoorWj
namespace Go.Proofs.YtbmelmmefgehoaaDoor
open Go.RowKit

theorem cand_mem (l : List ByteArray) : ((candL l).G = ⟨#[]⟩ ∨ (candL l).G ∈ l) ∧ ((candL l).N = ⟨#[]⟩ ∨ (candL l).N ∈ l) ∧ ((candL l).D = ⟨#[]⟩ ∨ (candL l).D ∈ l) := by
  match l with
  | [] => exact ⟨.inl rfl, .inl rfl, .inl rfl⟩
  | [_] => exact ⟨.inl rfl, .inl rfl, .inl rfl⟩
  | [_, _] => exact ⟨.inl rfl, .inl rfl, .inl rfl⟩
  | [a, m, n] =>
    by_cases h : m = state'
    · rw [show candL [a, m, n] = ⟨9, ⟨#[]⟩, n, ⟨#[]⟩⟩ from by show (if m = state' then (⟨9, ⟨#[]⟩, n, ⟨#[]⟩⟩ : Sp) else Sp.zero) = _; rw [if_pos h]]
      exact ⟨.inl rfl, .inr (by simp), .inl rfl⟩
    · rw [show candL [a, m, n] = Sp.zero from if_neg h]
      exact ⟨.inl rfl, .inl rfl, .inl rfl⟩
  | [a, g, k, n] => exact ⟨.inr (by show g ∈ _; simp), .inr (by show n ∈ _; simp), .inl rfl⟩
  | [a, g, k, n, d] => exact ⟨.inr (by show g ∈ _; simp), .inr (by show n ∈ _; simp), .inr (by show d ∈ _; simp)⟩
  | _ :: _ :: _ :: _ :: _ :: _ :: _ => exact ⟨.inl rfl, .inl rfl, .inl rfl⟩
theorem of_size (t : ByteArray) (hs : t.size ≤ 1048576) : (ofB t).G.size ≤ 1048576 ∧ (ofB t).N.size ≤ 1048576 ∧ (ofB t).D.size ≤ 1048576 := by
  have hm := cand_mem (spS t)
  have sz : ∀ x : ByteArray, (x = ⟨#[]⟩ ∨ x ∈ spS t) → x.size ≤ 1048576 := by
    rintro x (rfl | h)
    · decide
    · exact Nat.le_trans (part_size h) hs
  unfold ofB okB
  split
  · exact ⟨sz _ hm.1, sz _ hm.2.1, sz _ hm.2.2⟩
  · exact ⟨by decide, by decide, by decide⟩
end Go.Proofs.YtbmelmmefgehoaaDoor
