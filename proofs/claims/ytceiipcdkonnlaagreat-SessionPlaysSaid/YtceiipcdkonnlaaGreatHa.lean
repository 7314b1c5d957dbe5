/-
  PLAIN: heaps of numbers in a list; a number that rises; a number that sinks.
-/
import Derived.WalkKit
namespace Go.Proofs.YtceiipcdkonnlaaGreat.Hp
set_option linter.unusedSimpArgs false
set_option linter.unusedVariables false
def at' (H : List Int) (i : Nat) : Int := H.getD i 0
def sw (H : List Int) (i j : Nat) : List Int := (H.set i (at' H j)).set j (at' H i)
theorem sw_len (H : List Int) (i j : Nat) : (sw H i j).length = H.length := by simp [sw]
theorem sw_at {H : List Int} {i j : Nat} (hi : i < H.length) (hj : j < H.length) (k : Nat) : at' (sw H i j) k = if k = j then at' H i else if k = i then at' H j else at' H k := by
  unfold sw at'
  simp only [List.getD_eq_getElem?_getD, List.getElem?_set, List.length_set]
  by_cases h1 : j = k
  · subst h1; simp [hj]
  · by_cases h2 : i = k
    · subst h2; simp [h1, hi, Ne.symm h1]
    · simp [h1, h2, Ne.symm h1, Ne.symm h2]
theorem sw_perm {H : List Int} {i j : Nat} (hi : i < H.length) (hj : j < H.length) : (sw H i j).Perm H := by
  have := Array.swap_perm (xs := H.toArray) (i := i) (j := j) (by simpa using hi) (by simpa using hj)
  have h2 := this.toList
  simpa [Array.swap, sw, at', hi, hj] using h2
def HeapP (H : List Int) (n : Nat) : Prop := ∀ i, 0 < i → i < n → at' H ((i - 1) / 2) ≤ at' H i
theorem HeapP.min {H : List Int} {n : Nat} (h : HeapP H n) : ∀ i, i < n → at' H 0 ≤ at' H i := by
  intro i
  induction i using Nat.strongRecOn with
  | ind i ih =>
    intro hi
    by_cases h0 : i = 0
    · subst h0; exact Int.le_refl _
    · exact Int.le_trans (ih ((i - 1) / 2) (by omega) (by omega)) (h i (by omega) hi)
/-- All is in order but the number at j, which may be less than its parent. -/
structure Up (H : List Int) (n j : Nat) : Prop where
  jn : j < n
  o : ∀ i, 0 < i → i < n → i ≠ j → at' H ((i - 1) / 2) ≤ at' H i
  c : ∀ i, 0 < i → i < n → (i - 1) / 2 = j → 0 < j → at' H ((j - 1) / 2) ≤ at' H i
theorem Up.done {H : List Int} {n j : Nat} (h : Up H n j) (hj : j = 0 ∨ at' H ((j - 1) / 2) ≤ at' H j) : HeapP H n := by
  intro i h0 hi
  by_cases e : i = j
  · subst e
    rcases hj with hj | hj
    · omega
    · exact hj
  · exact h.o i h0 hi e
theorem Up.next {H : List Int} {n j : Nat} (h : Up H n j) (hl : n ≤ H.length) (h0 : 0 < j) (hlt : at' H j < at' H ((j - 1) / 2)) : Up (sw H ((j - 1) / 2) j) n ((j - 1) / 2) := by
  have hj := h.jn
  have hp : (j - 1) / 2 < n := by omega
  have S := sw_at (H := H) (i := (j - 1) / 2) (j := j) (by omega) (by omega)
  refine ⟨hp, fun i hi0 hin hne => ?_, fun i hi0 hin hpi hpp => ?_⟩
  · rw [S, S]
    by_cases e1 : i = j
    · subst e1
      rw [if_neg (by omega), if_pos rfl, if_pos rfl]; omega
    · rw [if_neg e1, if_neg hne]
      by_cases e2 : (i - 1) / 2 = j
      · rw [if_pos e2]; exact h.c i hi0 hin e2 h0
      · rw [if_neg e2]
        by_cases e3 : (i - 1) / 2 = (j - 1) / 2
        · rw [if_pos e3]
          have := h.o i hi0 hin e1
          rw [e3] at this
          omega
        · rw [if_neg e3]; exact h.o i hi0 hin e1
  · rw [S, S]
    rw [if_neg (by omega), if_neg (by omega)]
    have hpo := h.o ((j - 1) / 2) hpp hp (by omega)
    by_cases e1 : i = j
    · subst e1; rw [if_pos rfl]; exact hpo
    · rw [if_neg e1]
      by_cases e2 : i = (j - 1) / 2
      · omega
      · rw [if_neg e2]
        have := h.o i hi0 hin e1
        rw [hpi] at this
        omega
/-- All is in order but the number at j, which may be more than its children. -/
structure Dn (H : List Int) (n j : Nat) : Prop where
  o : ∀ i, 0 < i → i < n → (i - 1) / 2 ≠ j → at' H ((i - 1) / 2) ≤ at' H i
  c : ∀ i, 0 < i → i < n → (i - 1) / 2 = j → 0 < j → at' H ((j - 1) / 2) ≤ at' H i
/-- The lesser child of j. -/
def kid (H : List Int) (n j : Nat) : Nat := if 2 * j + 2 < n ∧ at' H (2 * j + 2) < at' H (2 * j + 1) then 2 * j + 2 else 2 * j + 1
theorem kid_lt {H : List Int} {n j : Nat} (h : 2 * j + 1 < n) : kid H n j < n := by unfold kid; split <;> omega
theorem kid_par (H : List Int) (n j : Nat) : (kid H n j - 1) / 2 = j := by unfold kid; split <;> omega
theorem kid_gt (H : List Int) (n j : Nat) : j < kid H n j := by unfold kid; split <;> omega
theorem kid_min {H : List Int} {n j : Nat} : ∀ i, 0 < i → i < n → (i - 1) / 2 = j → at' H (kid H n j) ≤ at' H i := by
  intro i h0 hi hp
  have : i = 2 * j + 1 ∨ i = 2 * j + 2 := by omega
  unfold kid
  rcases this with rfl | rfl
  · split <;> omega
  · split <;> rename_i hc <;> omega
theorem Dn.leaf {H : List Int} {n j : Nat} (h : Dn H n j) (hj : n ≤ 2 * j + 1) : HeapP H n := fun i h0 hi => h.o i h0 hi (by omega)
theorem Dn.done {H : List Int} {n j : Nat} (h : Dn H n j) (hle : at' H j ≤ at' H (kid H n j)) : HeapP H n := by
  intro i h0 hi
  by_cases e : (i - 1) / 2 = j
  · have := kid_min (H := H) i h0 hi e
    rw [e]; omega
  · exact h.o i h0 hi e
theorem Dn.next {H : List Int} {n j : Nat} (h : Dn H n j) (hl : n ≤ H.length) (hj : 2 * j + 1 < n) (hlt : at' H (kid H n j) < at' H j) : Dn (sw H j (kid H n j)) n (kid H n j) := by
  have hk := kid_lt (H := H) hj
  have hp := kid_par H n j
  have hg := kid_gt H n j
  have hm := kid_min (H := H) (n := n) (j := j)
  generalize kid H n j = k at *
  have S := sw_at (H := H) (i := j) (j := k) (by omega) (by omega)
  refine ⟨fun i hi0 hin hne => ?_, fun i hi0 hin hpi hpp => ?_⟩
  · rw [S, S, if_neg hne]
    by_cases e1 : i = k
    · subst e1
      rw [if_pos hp, if_pos rfl]; omega
    · rw [if_neg e1]
      by_cases e2 : (i - 1) / 2 = j
      · rw [if_pos e2, if_neg (by omega)]; exact hm i hi0 hin e2
      · rw [if_neg e2]
        by_cases e3 : i = j
        · subst e3
          rw [if_pos rfl]
          exact h.c k (by omega) hk hp hi0
        · rw [if_neg e3]; exact h.o i hi0 hin e2
  · rw [S, S, hp, if_neg (by omega), if_pos rfl, if_neg (by omega), if_neg (by omega)]
    have := h.o i hi0 hin (by omega)
    rw [hpi] at this
    exact this
end Go.Proofs.YtceiipcdkonnlaaGreat.Hp
