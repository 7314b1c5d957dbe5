/-
  LAYER 17: the document's: Split, wild, sized, Name, Filter; Hidden of both sides.
-/
import Derived.Test.YtceiipcdkonnlaaSc

namespace Go.Proofs.Ytceiipcdkonnlaa
set_option linter.unusedSimpArgs false
set_option linter.unusedVariables false
open Go.RowKit

theorem gB_idx (s : ByteArray) (k : Nat) (h : k < s.size) : (s[k]'h).toNat = gB s k := by
  unfold gB ByteArray.get!
  show (s.data[k]'h).toNat = (s.data[k]!).toNat
  rw [getElem!_pos s.data k h]
theorem byte_at (s : ByteArray) (k : Nat) (h : k < s.size) : ∃ c, s.data.toList[k]? = some c ∧ (s[k]'h).toNat = c.toNat := by
  obtain ⟨c, h1, h2⟩ := gB_get s k h
  exact ⟨c, h1, by rw [gB_idx, h2]⟩
theorem cut_mid (s : ByteArray) (a b : Nat) : s.extract a b = bs ((s.data.toList.drop a).take (b - a)) := by
  rw [Lib.extract_eq]; rfl
theorem spl_step {L : List UInt8} {f i : Nat} (hf : f ≤ i) (hi : L[i]? = some 47) (hno : ∀ j c, f ≤ j → j < i → L[j]? = some c → c ≠ 47) : spl (L.drop f) = (L.drop f).take (i - f) :: spl (L.drop (i + 1)) := by
  obtain ⟨hlt, he⟩ := List.getElem?_eq_some_iff.1 hi
  have e : L.drop f = (L.drop f).take (i - f) ++ 47 :: L.drop (i + 1) := by
    conv => lhs; rw [← List.take_append_drop (i - f) (L.drop f)]
    rw [List.drop_drop, show f + (i - f) = i by omega, List.drop_eq_getElem_cons hlt, he]
  have hn : ∀ c ∈ (L.drop f).take (i - f), c ≠ 47 := by
    intro c hc
    obtain ⟨j, hj, he2⟩ := List.mem_iff_getElem.1 hc
    rw [List.length_take, List.length_drop] at hj
    rw [List.getElem_take, List.getElem_drop] at he2
    exact hno (f + j) c (by omega) (by omega) (by rw [← he2]; exact List.getElem?_eq_getElem _)
  conv => lhs; rw [e]
  exact spl_at _ _ hn
theorem spl_last {L : List UInt8} {f : Nat} (hno : ∀ j c, f ≤ j → j < L.length → L[j]? = some c → c ≠ 47) : spl (L.drop f) = [L.drop f] := by
  refine spl_none _ fun c hc => ?_
  obtain ⟨j, hj, he2⟩ := List.mem_iff_getElem.1 hc
  rw [List.length_drop] at hj
  rw [List.getElem_drop] at he2
  exact hno (f + j) c (by omega) (by omega) (by rw [← he2]; exact List.getElem?_eq_getElem _)
theorem anyB_at {s : ByteArray} {k : Nat} {c : UInt8} (h : s.data.toList[k]? = some c) (hc : (c == 43 || c == 35) = true) : anyB s = true := List.any_eq_true.2 ⟨c, List.mem_of_getElem? h, hc⟩
theorem anyB_no {s : ByteArray} (h : ∀ (k : Nat) (c : UInt8), s.data.toList[k]? = some c → (c == 43 || c == 35) = false) : anyB s = false := by
  unfold anyB
  rw [Bool.eq_false_iff]
  intro ha
  obtain ⟨c, hc, hh⟩ := List.any_eq_true.1 ha
  obtain ⟨i, hi, he⟩ := List.mem_iff_getElem.1 hc
  have := h i c (by rw [← he]; exact List.getElem?_eq_getElem _)
  rw [this] at hh
  cases hh
end Go.Proofs.Ytceiipcdkonnlaa
