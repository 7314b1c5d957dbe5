/-
  LAYER 21: which numbers are taken: plain.
-/
import Derived.Test.YtceiipcdkonnlaaIi
namespace Go.Proofs.Ytceiipcdkonnlaa.Ids
set_option linter.unusedSimpArgs false
set_option linter.unusedVariables false
open Go.RowKit Que Hp
def trues (T : List Bool) : Nat := T.count true
/-- The place of the first that is free. -/
def nxt (T : List Bool) : Nat := T.findIdx (fun b => !b)
def tk (T : List Bool) : List Bool := if nxt T < T.length then T.set (nxt T) true else T ++ [true]
theorem trues_set_true {T : List Bool} {k : Nat} (hk : k < T.length) (hf : T.getD k true = false) : trues (T.set k true) = trues T + 1 := by
  unfold trues
  rw [List.getD_eq_getElem?_getD, List.getElem?_eq_getElem hk] at hf
  simp at hf
  rw [List.count_set hk]
  simp [hf]
theorem trues_set_false {T : List Bool} {k : Nat} (hk : k < T.length) (ht : T.getD k true = true) : trues (T.set k false) = trues T - 1 ∧ 0 < trues T := by
  unfold trues
  rw [List.getD_eq_getElem?_getD, List.getElem?_eq_getElem hk] at ht
  simp at ht
  rw [List.count_set hk]
  refine ⟨by simp [ht], List.count_pos_iff.2 (ht ▸ List.getElem_mem _)⟩
theorem trues_more (T : List Bool) : trues (T ++ [true]) = trues T + 1 := by simp [trues]
theorem trues_le (T : List Bool) : trues T ≤ T.length := List.count_le_length
theorem trues_full {T : List Bool} (h : ∀ k, k < T.length → T.getD k true = true) : trues T = T.length := by
  unfold trues
  rw [List.count_eq_length]
  intro b hb
  obtain ⟨k, hk, rfl⟩ := List.getElem_of_mem hb
  have := h k hk
  rw [List.getD_eq_getElem?_getD, List.getElem?_eq_getElem hk] at this
  simpa using this.symm
structure Good (T : List Bool) (H : List Int) : Prop where
  mem : ∀ x : Int, x ∈ H ↔ ∃ k : Nat, k < T.length ∧ T.getD k true = false ∧ x = k + 1
  nd : H.Nodup
  hp : HeapP H H.length
  ln : H.length + trues T = T.length
theorem good_nil : Good [] [] := ⟨fun x => by simp, List.nodup_nil, fun i h0 hi => by simp at hi, rfl⟩
theorem nxt_eq {T : List Bool} {k : Nat} (hk : k < T.length) (hf : T.getD k true = false) (hl : ∀ j, j < k → T.getD j true = true) : nxt T = k := by
  unfold nxt
  rw [List.findIdx_eq hk]
  refine ⟨?_, fun j hj => ?_⟩
  · rw [List.getD_eq_getElem?_getD, List.getElem?_eq_getElem hk] at hf
    simpa using hf
  · have := hl j hj
    rw [List.getD_eq_getElem?_getD, List.getElem?_eq_getElem (by omega)] at this
    simpa using this
theorem nxt_none {T : List Bool} (h : ∀ k, k < T.length → T.getD k true = true) : nxt T = T.length := by
  unfold nxt
  rw [List.findIdx_eq_length]
  intro b hb
  obtain ⟨k, hk, rfl⟩ := List.getElem_of_mem hb
  have := h k hk
  rw [List.getD_eq_getElem?_getD, List.getElem?_eq_getElem hk] at this
  simpa using this
theorem Good.none {T : List Bool} (h : Good T []) : ∀ k, k < T.length → T.getD k true = true := fun k hk => by
  cases e : T.getD k true with
  | true => rfl
  | false => have := (h.mem (k + 1)).2 ⟨k, hk, e, rfl⟩; simp at this
theorem Good.least {T : List Bool} {H : List Int} (h : Good T H) (hn : 0 < H.length) : at' H 0 = (nxt T : Int) + 1 ∧ nxt T < T.length ∧ T.getD (nxt T) true = false := by
  have h0 : at' H 0 ∈ H := by unfold at'; rw [List.getD_eq_getElem?_getD, List.getElem?_eq_getElem hn]; exact List.getElem_mem _
  obtain ⟨k, hk, hf, he⟩ := (h.mem _).1 h0
  have : nxt T = k := nxt_eq hk hf (fun j hj => by
    cases e : T.getD j true with
    | true => rfl
    | false =>
      have hm := (h.mem (j + 1)).2 ⟨j, by omega, e, rfl⟩
      obtain ⟨i, hi, hx⟩ := List.getElem_of_mem hm
      have := h.hp.min i hi
      rw [he] at this
      unfold at' at this
      rw [List.getD_eq_getElem?_getD, List.getElem?_eq_getElem hi] at this
      simp at this
      omega)
  rw [this]
  exact ⟨he, hk, hf⟩
theorem Good.taken {T : List Bool} {H R : List Int} (h : Good T H) (hn : 0 < H.length) (hp : List.Perm (at' H 0 :: R) H) (hh : HeapP R R.length) : Good (T.set (nxt T) true) R := by
  obtain ⟨he, hk, hf⟩ := h.least hn
  have hnd := (List.Perm.nodup_iff hp).2 h.nd
  rw [List.nodup_cons] at hnd
  refine ⟨fun x => ?_, hnd.2, hh, by have h1 := hp.length_eq; have h2 := h.ln; rw [trues_set_true hk hf, List.length_set]; simp at h1; omega⟩
  have hx : x ∈ R ↔ x ∈ H ∧ x ≠ at' H 0 := by
    rw [← hp.mem_iff, List.mem_cons]
    constructor
    · exact fun hx => ⟨.inr hx, fun e => hnd.1 (e ▸ hx)⟩
    · rintro ⟨hx | hx, hne⟩
      · exact absurd hx hne
      · exact hx
  rw [hx, h.mem, he]
  constructor
  · rintro ⟨⟨k, h1, h2, rfl⟩, h3⟩
    refine ⟨k, by simpa using h1, ?_, rfl⟩
    rw [List.getD_eq_getElem?_getD, List.getElem?_set_ne (by omega), ← List.getD_eq_getElem?_getD]; exact h2
  · rintro ⟨k, h1, h2, rfl⟩
    have h1' : k < T.length := by simpa using h1
    by_cases e : k = nxt T
    · subst e
      rw [List.getD_eq_getElem?_getD, List.getElem?_set_self hk] at h2
      simp at h2
    · rw [List.getD_eq_getElem?_getD, List.getElem?_set_ne (fun h => e h.symm), ← List.getD_eq_getElem?_getD] at h2
      exact ⟨⟨k, h1', h2, rfl⟩, by omega⟩
theorem Good.more {T : List Bool} (h : Good T []) : Good (T ++ [true]) [] := by
  refine ⟨fun x => ⟨fun hx => by simp at hx, ?_⟩, List.nodup_nil, fun i h0 hi => by simp at hi, by have h2 := h.ln; rw [trues_more]; simp at h2 ⊢; omega⟩
  rintro ⟨k, h1, h2, rfl⟩
  by_cases e : k < T.length
  · rw [List.getD_eq_getElem?_getD, List.getElem?_append_left e, ← List.getD_eq_getElem?_getD] at h2
    rw [h.none k e] at h2; cases h2
  · obtain rfl : k = T.length := by simp at h1; omega
    simp at h2
theorem Good.given {T : List Bool} {H G : List Int} (h : Good T H) {k : Nat} (hk : k < T.length) (ht : T.getD k true = true) (hp : List.Perm G (H ++ [(k : Int) + 1])) (hh : HeapP G G.length) : Good (T.set k false) G := by
  have hni : ((k : Int) + 1) ∉ H := fun hm => by
    obtain ⟨j, h1, h2, h3⟩ := (h.mem _).1 hm
    obtain rfl : j = k := by omega
    rw [ht] at h2; cases h2
  refine ⟨fun x => ?_, ?_, hh, by have h1 := hp.length_eq; have h2 := h.ln; have h3 := trues_set_false hk ht; rw [h3.1, List.length_set]; simp at h1; omega⟩
  · rw [hp.mem_iff, List.mem_append, h.mem]
    constructor
    · rintro (⟨j, h1, h2, rfl⟩ | hx)
      · refine ⟨j, by simpa using h1, ?_, rfl⟩
        by_cases e : k = j
        · subst e; rw [ht] at h2; cases h2
        · rw [List.getD_eq_getElem?_getD, List.getElem?_set_ne e, ← List.getD_eq_getElem?_getD]; exact h2
      · simp at hx
        refine ⟨k, by simpa using hk, ?_, hx⟩
        rw [List.getD_eq_getElem?_getD, List.getElem?_set_self hk]; rfl
    · rintro ⟨j, h1, h2, rfl⟩
      by_cases e : k = j
      · subst e; simp
      · rw [List.getD_eq_getElem?_getD, List.getElem?_set_ne e, ← List.getD_eq_getElem?_getD] at h2
        exact .inl ⟨j, by simpa using h1, h2, rfl⟩
  · rw [List.Perm.nodup_iff hp, List.nodup_append]
    exact ⟨h.nd, by simp, fun a ha b hb => by simp at hb; subst hb; exact fun e => hni (e ▸ ha)⟩
theorem Good.len {T : List Bool} {H : List Int} (h : Good T H) : H.length ≤ T.length := by have := h.ln; omega
end Go.Proofs.Ytceiipcdkonnlaa.Ids
