/-
  LAYER 18: what is covered, plain.
-/
import Derived.Test.YtfdaooaooalknaaTd
namespace Go.Proofs.Ytfdaooaooalknaa
set_option linter.unusedSimpArgs false
set_option linter.unusedVariables false
open Go.RowKit

theorem covF_refl : ∀ l : List ByteArray, covF l l = true
  | [] => by unfold covF; simp
  | x :: l => by
    by_cases h : x = isHash
    · rw [h, covF_hash]
    · rw [covF_yes _ _ h (.inr rfl), covF_refl l]
theorem covF_inv {x : ByteArray} {a B : List ByteArray} (h : covF (x :: a) B = true) (hh : x ≠ isHash) : ∃ y b, B = y :: b ∧ ((x = isPlus ∧ y ≠ isHash) ∨ x = y) ∧ covF a b = true := by
  cases B with
  | nil => rw [covF_end _ hh] at h; cases h
  | cons y b =>
    by_cases hc : (x = isPlus ∧ y ≠ isHash) ∨ x = y
    · rw [covF_yes _ _ hh hc] at h
      exact ⟨y, b, rfl, hc, h⟩
    · rw [covF_no _ _ hh hc] at h; cases h
theorem covF_trans : ∀ (A B C : List ByteArray), covF A B = true → covF B C = true → covF A C = true
  | [], B, C, h1, h2 => by
    unfold covF at h1
    have : B = [] := by simpa using h1
    rw [this] at h2; exact h2
  | x :: a, B, C, h1, h2 => by
    by_cases hh : x = isHash
    · rw [hh, covF_hash]
    obtain ⟨y, b, rfl, hc, h1⟩ := covF_inv h1 hh
    have hy : y ≠ isHash := by
      rcases hc with ⟨-, h⟩ | h
      · exact h
      · rw [← h]; exact hh
    obtain ⟨z, c, rfl, hd, h2⟩ := covF_inv h2 hy
    have hz : z ≠ isHash := by
      rcases hd with ⟨-, h⟩ | h
      · exact h
      · rw [← h]; exact hy
    rw [covF_yes _ _ hh (by
      rcases hc with ⟨h, -⟩ | h
      · exact .inl ⟨h, hz⟩
      · rw [h]; exact hd)]
    exact covF_trans a b c h1 h2
theorem covF_plain : ∀ (A B : List ByteArray), (∀ x ∈ A, x ≠ isPlus ∧ x ≠ isHash) → covF A B = true → A = B
  | [], B, _, h => by unfold covF at h; exact (by simpa using h : B = []).symm
  | x :: a, B, hp, h => by
    obtain ⟨p1, p2⟩ := hp x (by simp)
    obtain ⟨y, b, rfl, hc, h⟩ := covF_inv h p2
    rcases hc with ⟨h', -⟩ | h'
    · exact absurd h' p1
    · rw [h', covF_plain a b (fun z hz => hp z (by simp [hz])) h]
theorem any_part {s x : ByteArray} (h : anyB s = false) (hx : x ∈ spS s) : anyB x = false := by
  obtain ⟨p, hp, rfl⟩ := List.mem_map.1 hx
  unfold anyB at h ⊢
  rw [List.any_eq_false] at h ⊢
  intro c hc
  exact h c (spl_mem _ p hp c hc)
theorem plain_of_any {x : ByteArray} (h : anyB x = false) : x ≠ isPlus ∧ x ≠ isHash := by
  constructor
  · rintro rfl; exact absurd h (by decide)
  · rintro rfl; exact absurd h (by decide)
theorem name_any_false {s : ByteArray} (h : nameB s = true) : anyB s = false := by
  unfold nameB at h
  simp only [Bool.and_eq_true, Bool.not_eq_true'] at h
  exact h.2
theorem name_parts {s : ByteArray} (h : nameB s = true) : ∀ x ∈ spS s, x ≠ isPlus ∧ x ≠ isHash := fun _ hx => plain_of_any (any_part (name_any_false h) hx)
theorem name_filter {s : ByteArray} (h : nameB s = true) : filterB s = true := by
  have ha := name_any_false h
  unfold nameB at h
  simp only [Bool.and_eq_true] at h
  unfold filterB
  rw [h.1, Bool.true_and]
  refine filtL_yes fun i hi => ?_
  have hx : (spS s).getD i ⟨#[]⟩ ∈ spS s := by
    rw [List.getD_eq_getElem?_getD, List.getElem?_eq_getElem hi]
    exact List.getElem_mem hi
  have hq := any_part ha hx
  unfold okAt
  simp only [hq, Bool.not_false, Bool.or_true]
theorem first_mem (s : ByteArray) : (spS s).getD 0 ⟨#[]⟩ ∈ spS s := by
  have := spS_pos s
  rw [List.getD_eq_getElem?_getD, List.getElem?_eq_getElem (by omega)]
  exact List.getElem_mem _
theorem lead_plain {s : ByteArray} (h : ∀ x ∈ spS s, x ≠ isPlus ∧ x ≠ isHash) : leadB s = false := by
  obtain ⟨h1, h2⟩ := h _ (first_mem s)
  unfold leadB stK
  rw [if_neg h1, if_neg h2]; rfl
theorem hid_first (s : ByteArray) : hidB s = hidB ((spS s).getD 0 ⟨#[]⟩) := by
  unfold hidB spS
  generalize s.data.toList = l
  cases l with
  | nil => rfl
  | cons c r =>
    have hn := spl_ne r
    unfold spl
    by_cases hc : c = 47
    · subst hc; simp; rfl
    · cases hs : spl r with
      | nil => exact absurd hs hn
      | cons p ps => simp [hc, bs, Lib.hasPrefix, List.isPrefixOf]
theorem not_both (s : ByteArray) : (leadB s && hidB s) = false := by
  rw [hid_first]
  unfold leadB stK
  generalize (spS s).getD 0 ⟨#[]⟩ = x
  by_cases h1 : x = isPlus
  · subst h1; decide
  · by_cases h2 : x = isHash
    · subst h2; decide
    · rw [if_neg h1, if_neg h2]; rfl
theorem spS_inj {a b : ByteArray} (h : spS a = spS b) : a = b := by
  rw [← join_spS a, ← join_spS b, h]
theorem covers_self (a : ByteArray) : coversB a a = filterB a := by
  unfold coversB coverB
  rw [not_both, covF_refl]
  cases filterB a <;> rfl
/-- Its first level, too, is covered. -/
theorem lead_cov {a b : ByteArray} (h : covF (spS a) (spS b) = true) (ha : leadB a = false) : hidB a = hidB b ∧ leadB b = false := by
  have e : (spS a).getD 0 ⟨#[]⟩ = (spS b).getD 0 ⟨#[]⟩ := by
    unfold leadB at ha
    have pa := spS_pos a
    generalize spS a = A at *
    cases A with
    | nil => simp at pa
    | cons x l =>
      simp only [List.getD_cons_zero] at ha ⊢
      have hk : x ≠ isPlus ∧ x ≠ isHash := by
        unfold stK at ha
        constructor
        · rintro rfl; simp at ha
        · rintro rfl; simp [hash_plus] at ha
      obtain ⟨y, m, e, hc, -⟩ := covF_inv h hk.2
      rw [e]
      rcases hc with ⟨h', -⟩ | h'
      · exact absurd h' hk.1
      · simpa using h'
  constructor
  · rw [hid_first a, hid_first b, e]
  · unfold leadB at ha ⊢; rw [← e]; exact ha
theorem cover_trans {a b c : ByteArray} (h1 : coverB a b = true) (h2 : coverB b c = true) : coverB a c = true := by
  unfold coverB at *
  simp only [Bool.and_eq_true, Bool.not_eq_true', Bool.and_eq_false_iff] at *
  refine ⟨?_, covF_trans _ _ _ h1.2 h2.2⟩
  rcases h1.1 with h | h
  · exact .inl h
  · rcases h2.1 with h' | h'
    · exact .inr ((lead_cov h2.2 h').1 ▸ h)
    · exact .inr h'
theorem self_name {a : ByteArray} (h : nameB a = true) : matchB a a = true ∧ wideB a = false := by
  constructor
  · unfold matchB coverB
    rw [name_filter h, h, not_both, covF_refl]; rfl
  · unfold wideB; rw [h]; simp
theorem self_only {a b : ByteArray} (h1 : wideB a = false) (h2 : matchB a b = true) : a = b := by
  unfold matchB coverB at h2
  simp only [Bool.and_eq_true] at h2
  unfold wideB at h1
  rw [h2.1] at h1
  have hn : nameB a = true := by simpa using h1
  exact spS_inj (covF_plain _ _ (name_parts hn) h2.2.2.2)
theorem match_cov {a b n : ByteArray} (h1 : coversB a b = true) (h2 : matchB b n = true) : matchB a n = true := by
  unfold coversB at h1
  unfold matchB at h2 ⊢
  simp only [Bool.and_eq_true] at *
  exact ⟨h1.1, h2.2.1, cover_trans h1.2.2 h2.2.2⟩
theorem covers_cov {a b c : ByteArray} (h1 : coversB a b = true) (h2 : coversB b c = true) : coversB a c = true := by
  unfold coversB at *
  simp only [Bool.and_eq_true] at *
  exact ⟨h1.1, h2.2.1, cover_trans h1.2.2 h2.2.2⟩
end Go.Proofs.Ytfdaooaooalknaa
