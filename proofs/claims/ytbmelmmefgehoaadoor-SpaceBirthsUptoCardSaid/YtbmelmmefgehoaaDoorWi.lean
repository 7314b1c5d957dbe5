/-
  LAYER 20: there and back, plain; Births; awake.
-/
import Derived.Test.YtbmelmmefgehoaaDoorWh
namespace Go.Proofs.YtbmelmmefgehoaaDoor
open Go.RowKit

theorem spl_cons (c : UInt8) (r : List UInt8) : spl (c :: r) = if c = 47 then [] :: spl r else match spl r with | h :: t => (c :: h) :: t | [] => [[c]] := by
  rw [spl]
  split
  · rfl
  · cases spl r <;> rfl
theorem spl_app : ∀ x y : List UInt8, spl (x ++ 47 :: y) = spl x ++ spl y
  | [], y => by simp [spl]
  | c :: x, y => by
    have ih := spl_app x y
    have hn := spl_ne x
    rw [List.cons_append, spl_cons c (x ++ 47 :: y), spl_cons c x]
    by_cases hc : c = 47
    · rw [if_pos hc, if_pos hc, ih]; rfl
    · rw [if_neg hc, if_neg hc, ih]
      cases hs : spl x with
      | nil => exact absurd hs hn
      | cons p ps => rfl
theorem spS_join : ∀ ll : List ByteArray, ll ≠ [] → (∀ x ∈ ll, spS x = [x]) → spS (joinB ll) = ll
  | [], h, _ => absurd rfl h
  | [x], _, h => by
    have : joinB [x] = x := rfl
    rw [this]; exact h x (by simp)
  | x :: y :: l, _, h => by
    have ih := spS_join (y :: l) (by simp) (fun z hz => h z (by simp at hz ⊢; exact .inr hz))
    have hx := h x (by simp)
    have e : (joinB (x :: y :: l)).data.toList = x.data.toList ++ 47 :: (joinB (y :: l)).data.toList := by
      unfold joinB bs
      simp [joi]
    unfold spS at ih hx ⊢
    rw [e, spl_app, List.map_append, hx, ih]; rfl
theorem part_one {x : ByteArray} (h : partB x = true) : spS x = [x] := by
  unfold partB at h
  simp only [Bool.and_eq_true, decide_eq_true_eq] at h
  have hl := h.2
  have hj := join_spS x
  match hs : spS x, hl with
  | [y], _ =>
    rw [hs, lib_join] at hj
    have e : y = x := by rw [← hj]; rfl
    rw [e]
theorem one_first : spS fst' = [fst'] := by decide +kernel
theorem one_state : spS state' = [state'] := by decide +kernel
theorem one_word (k : Nat) (hk : k < 10) : spS (wordI k) = [wordI k] := by
  match k, hk with
  | 0, _ => decide +kernel
  | 1, _ => decide +kernel
  | 2, _ => decide +kernel
  | 3, _ => decide +kernel
  | 4, _ => decide +kernel
  | 5, _ => decide +kernel
  | 6, _ => decide +kernel
  | 7, _ => decide +kernel
  | 8, _ => decide +kernel
  | 9, _ => decide +kernel
theorem kind_word (k : Nat) (h : isk k = true) : kindB (wordI k) = k := by
  have hk : k < 10 := by unfold isk at h; simp at h; omega
  match k, hk with
  | 0, _ => exact absurd h (by decide)
  | 1, _ => decide +kernel
  | 2, _ => decide +kernel
  | 3, _ => decide +kernel
  | 4, _ => decide +kernel
  | 5, _ => decide +kernel
  | 6, _ => decide +kernel
  | 7, _ => decide +kernel
  | 8, _ => decide +kernel
  | 9, _ => decide +kernel
theorem kindF_is (s : ByteArray) : ∀ n k, kindF s k n = 0 ∨ (isk (kindF s k n : Nat) = true ∧ word (kindF s k n) = s)
  | 0, _ => .inl rfl
  | n + 1, k => by
    by_cases h : isk k = true ∧ word k = s
    · rw [kindF_yes h.1 h.2]; exact .inr h
    · rw [kindF_no h]; exact kindF_is s n (k + 1)
theorem word_kind (s : ByteArray) (h : kindB s ≠ 0) : isk (kindB s : Nat) = true ∧ wordI (kindB s : Nat) = s := by
  rcases kindF_is s 10 0 with h' | h'
  · exact absurd h' h
  · refine ⟨h'.1, ?_⟩
    unfold wordI
    rw [if_pos (show isk ((kindB s : Nat) : Int) = true from h'.1)]; exact h'.2
/-- A spot's topic tells its levels. -/
theorem put_inv {K : Int} {G N D t : ByteArray} (h : putB K G N D = (t, 0)) : ∃ k : Nat, K = k ∧ k < 10 ∧ isk (k : Int) = true ∧ (dB k = true ∨ D = ⟨#[]⟩) ∧ (gB' k = true ∨ G = ⟨#[]⟩) ∧ goodParts k G N D = true ∧ nameB t = true ∧ t = topicB k G N D := by
  unfold putB at h
  by_cases hk : isk K = true
  · rw [if_pos hk] at h
    have h0 : 0 ≤ K ∧ K < 10 := by unfold isk at hk; simp at hk; omega
    obtain ⟨k, rfl⟩ : ∃ k : Nat, K = k := ⟨K.toNat, by omega⟩
    refine ⟨k, rfl, by omega, hk, ?_⟩
    rw [Int.toNat_natCast] at h
    unfold putN at h
    by_cases hb : badForm k G D = true
    · rw [if_pos hb] at h; simp at h
    rw [if_neg hb] at h
    have hbad' : badForm k G D = false := by simpa using hb
    unfold badForm at hbad'
    simp only [Bool.or_eq_false_iff, Bool.and_eq_false_iff, Bool.not_eq_false', decide_eq_false_iff_not, Decidable.not_not] at hbad'
    by_cases hg : goodParts k G N D = false
    · rw [if_pos hg] at h; simp at h
    rw [if_neg hg] at h
    by_cases hn : nameB (topicB k G N D) = false
    · rw [if_pos hn] at h; simp at h
    rw [if_neg hn] at h
    have e := congrArg Prod.fst h
    simp only at e
    refine ⟨hbad'.1, hbad'.2, by simpa using hg, by rw [← e]; simpa using hn, e.symm⟩
  · rw [if_neg hk] at h; simp at h
theorem split_topic {k : Nat} {G N D : ByteArray} (hk : k < 10) (hD : dB k = true ∨ D = ⟨#[]⟩) (hG : gB' k = true ∨ G = ⟨#[]⟩) (hg : goodParts k G N D = true) : spS (topicB k G N D) = levelsL k G N D := by
  unfold goodParts at hg
  rw [List.all_eq_true] at hg
  have hN := part_one (hg N (by unfold partsL; simp))
  refine spS_join _ (by unfold levelsL; split <;> simp) fun x hx => ?_
  unfold levelsL at hx
  split at hx
  · simp only [List.mem_cons, List.not_mem_nil, or_false] at hx
    rcases hx with rfl | rfl | rfl
    · exact one_first
    · exact one_state
    · exact hN
  · rename_i h9
    have hG' : k ≠ 0 → spS G = [G] := fun h0 => part_one (hg G (by
      have : gB' k = true := by unfold gB'; simp; omega
      unfold partsL; simp [this]))
    simp only [List.mem_append, List.mem_cons, List.not_mem_nil, or_false] at hx
    rcases hx with (rfl | rfl | rfl | rfl) | hx
    · exact one_first
    · by_cases h0 : k = 0
      · subst h0
        rcases hG with h | h
        · exact absurd h (by decide)
        · subst h; decide +kernel
      · exact hG' h0
    · exact one_word k hk
    · exact hN
    · split at hx
      · rename_i hd
        simp at hx; subst hx
        exact part_one (hg x (by unfold partsL; simp [hd]))
      · simp at hx
/-- There. -/
theorem of_put {K : Int} {G N D t : ByteArray} (h : putB K G N D = (t, 0)) : ∃ k : Nat, K = k ∧ ofB t = ⟨k, G, N, D⟩ := by
  have h' := h
  obtain ⟨k, rfl, hk, hi, hD, hG, hg, hn, rfl⟩ := put_inv h
  refine ⟨k, rfl, ?_⟩
  unfold ofB okB
  rw [split_topic hk hD hG hg]
  have hc : candL (levelsL k G N D) = ⟨k, G, N, D⟩ := by
    unfold levelsL
    by_cases h9 : k = 9
    · rw [if_pos h9]
      subst h9
      have e1 : D = ⟨#[]⟩ := by rcases hD with h | h; exact absurd h (by decide); exact h
      have e2 : G = ⟨#[]⟩ := by rcases hG with h | h; exact absurd h (by decide); exact h
      rw [e1, e2]
      show (if state' = state' then (⟨9, ⟨#[]⟩, N, ⟨#[]⟩⟩ : Sp) else Sp.zero) = _
      rw [if_pos rfl]
    · rw [if_neg h9]
      cases hd : dB k with
      | true =>
        show (⟨kindB (wordI k), G, N, D⟩ : Sp) = _
        rw [kind_word k hi]
      | false =>
        have e1 : D = ⟨#[]⟩ := by rcases hD with h | h; rw [hd] at h; exact absurd h (by decide); exact h
        rw [e1]
        show (⟨kindB (wordI k), G, N, ⟨#[]⟩⟩ : Sp) = _
        rw [kind_word k hi]
  rw [hc, if_pos h']
/-- And back. -/
theorem put_of (t : ByteArray) : ofB t = Sp.zero ∨ ((ofB t).K ≠ 0 ∧ putB (ofB t).K (ofB t).G (ofB t).N (ofB t).D = (t, 0)) := by
  unfold ofB okB
  generalize candL (spS t) = c
  by_cases h : putB c.K c.G c.N c.D = (t, 0)
  · rw [if_pos h]
    refine .inr ⟨fun h0 => ?_, h⟩
    rw [h0] at h
    unfold putB at h
    rw [if_neg (by decide)] at h
    simp at h
  · rw [if_neg h]; exact .inl rfl
theorem put_err {K : Int} {G N D : ByteArray} (h : (putB K G N D).2 ≠ 0) : (putB K G N D).1 = ⟨#[]⟩ := by
  unfold putB putN at *
  split
  · rename_i hk
    rw [if_pos hk] at h
    split
    · rfl
    · rename_i h1
      rw [if_neg h1] at h
      split
      · rfl
      · rename_i h2
        rw [if_neg h2] at h
        split
        · rfl
        · rename_i h3
          rw [if_neg h3] at h
          exact absurd rfl h
  · rfl
end Go.Proofs.YtbmelmmefgehoaaDoor
