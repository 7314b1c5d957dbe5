/-
  LAYER 21: the taken numbers as a list: those below the first that is free, those above: plain; Give of one that is not taken.
-/
import Derived.Test.YtceiipcdkonnlaaIn
namespace Go.Proofs.Ytceiipcdkonnlaa.Ids
set_option linter.unusedSimpArgs false
set_option linter.unusedVariables false
open Go.RowKit Que Hp
theorem lstF_trues (T : List Bool) : ∀ k, k ≤ T.length → (lstF T k).length = trues (T.take k)
  | 0, _ => by simp [lstF, trues]
  | k + 1, h => by
    have ih := lstF_trues T k (by omega)
    have hk : k < T.length := by omega
    have e : T.take (k + 1) = T.take k ++ [T.getD k false] := by
      rw [List.take_succ_eq_append_getElem hk]; simp [List.getD_eq_getElem?_getD, hk]
    cases hf : T.getD k false
    · rw [lstF_no hf, e, hf]; simp [trues, List.count_append] at ih ⊢; exact ih
    · rw [lstF_yes hf, e, hf]; simp [trues, List.count_append] at ih ⊢; exact ih
theorem lstF_len_trues (T : List Bool) : (lstF T T.length).length = trues T := by rw [lstF_trues T _ (Nat.le_refl _), List.take_length]
theorem nxt_lo {T : List Bool} {j : Nat} (h : j < nxt T) : T.getD j false = true := by
  have hl : nxt T ≤ T.length := List.findIdx_le_length
  have := List.not_of_lt_findIdx (xs := T) (p := fun b => !b) (i := j) h
  simp at this
  simp [List.getD_eq_getElem?_getD, show j < T.length by omega, this]
theorem nxt_hi (T : List Bool) : T.getD (nxt T) false = false := by
  by_cases h : nxt T < T.length
  · have := List.findIdx_getElem (xs := T) (p := fun b => !b) (w := h)
    simp at this
    rw [List.getD_eq_getElem?_getD, List.getElem?_eq_getElem h]
    exact this
  · rw [List.getD_eq_getElem?_getD, List.getElem?_eq_none (by omega)]; rfl
/-- The first ones are the numbers from 1 on; all behind them are greater than the first that is free. -/
theorem lstF_split (T : List Bool) : ∀ k, k ≤ T.length → ∃ R : List Int, lstF T k = (List.range (min k (nxt T))).map (fun j : Nat => (j : Int) + 1) ++ R ∧ ∀ x ∈ R, (nxt T : Int) + 1 < x
  | 0, _ => ⟨[], by simp [lstF], by simp⟩
  | k + 1, h => by
    obtain ⟨R, e, hR⟩ := lstF_split T k (by omega)
    by_cases hk : k < nxt T
    · rw [lstF_yes (nxt_lo hk), e]
      have hR0 : R = [] := by
        have h1 := lstF_len T k
        rw [e] at h1
        simp [Nat.min_eq_left (Nat.le_of_lt hk)] at h1
        exact List.eq_nil_of_length_eq_zero (by omega)
      subst hR0
      refine ⟨[], ?_, by simp⟩
      rw [Nat.min_eq_left (by omega), Nat.min_eq_left (by omega), List.range_succ]
      simp
    · cases hf : T.getD k false
      · rw [lstF_no hf, e]
        exact ⟨R, by rw [Nat.min_eq_right (by omega), Nat.min_eq_right (by omega)], hR⟩
      · rw [lstF_yes hf, e]
        have hne : k ≠ nxt T := fun h => by rw [h, nxt_hi] at hf; cases hf
        refine ⟨R ++ [(k : Int) + 1], by rw [Nat.min_eq_right (by omega), Nat.min_eq_right (by omega), List.append_assoc], fun x hx => ?_⟩
        rcases List.mem_append.1 hx with hx | hx
        · exact hR x hx
        · simp at hx; omega
theorem tk_get (T : List Bool) : nxt T < (tk T).length ∧ (tk T).getD (nxt T) false = true := by
  have hl : nxt T ≤ T.length := List.findIdx_le_length
  unfold tk
  by_cases h : nxt T < T.length
  · rw [if_pos h]
    refine ⟨by simpa using h, ?_⟩
    rw [List.getD_eq_getElem?_getD, List.getElem?_set_self h]; rfl
  · rw [if_neg h]
    have e : nxt T = T.length := by omega
    refine ⟨by simp; omega, ?_⟩
    rw [List.getD_eq_getElem?_getD, e, List.getElem?_append_right (Nat.le_refl _)]; simp
/-- The k-th of them. -/
theorem lst_at {T : List Bool} {L : List Int} (hL : L = lstF T T.length) {k : Nat} {x : Int} (hx : L[k]? = some x) : (k < nxt T → x = (k : Int) + 1) ∧ (nxt T ≤ k → (nxt T : Int) + 1 < x) := by
  obtain ⟨R, e, hR⟩ := lstF_split T T.length (Nat.le_refl _)
  have hl : nxt T ≤ T.length := List.findIdx_le_length
  rw [hL, e, Nat.min_eq_right hl] at hx
  refine ⟨fun h => ?_, fun h => ?_⟩
  · rw [List.getElem?_append_left (by simpa using h), List.getElem?_map, List.getElem?_range h] at hx
    simpa using hx.symm
  · rw [List.getElem?_append_right (by simpa using h)] at hx
    exact hR x (List.mem_of_getElem? hx)
theorem lst_ge (T : List Bool) : nxt T ≤ (lstF T T.length).length := by
  obtain ⟨R, e, hR⟩ := lstF_split T T.length (Nat.le_refl _)
  have hl : nxt T ≤ T.length := List.findIdx_le_length
  rw [e, Nat.min_eq_right hl]; simp
theorem Ds.weaken {A A' : Nat → Prop} {w : World} {g most : Nat} {T : List Bool} (h : Ds A' w g most T) (hA : ∀ k, A k → A' k) : Ds A w g most T := by
  obtain ⟨tv, bv, H, i, G, av⟩ := h.ex
  exact ⟨⟨tv, bv, H, i, G, fun k hk => av k (hA k hk)⟩, h.le, h.m1, h.m4⟩
section
variable {A : Nat → Prop} {w w' : World} {g most : Nat} {T : List Bool}
set_option maxHeartbeats 4000000 in
set_option maxRecDepth 100000 in
theorem has_out (h : Ds A w g most T) {k : Nat} (hk : T.length ≤ k) (hk4 : k ≤ 1000) : Calls Try.prog 81 #[.pointer (some ⟨g, 0, none⟩), .int .i64 ((k : Int) + 1)] w fun e w' => e = .returned (.bool false) ∧ w = w' := by
  obtain ⟨tv, bv, H, i, G, av⟩ := h.ex
  have N := Lib.hid (none_no i (by have := h.m1; omega))
  obtain ⟨at', ct, hv⟩ := own_slice i.tk
  have k1 := i.c1
  rw [hv] at k1
  have hk2 : ¬ (k : Int) + 1 ≤ (T.length : Int) := by omega
  have hk3 : (k : Int) ≤ 1000 := by omega
  clear i G av h hv
  go_enter Try.func81, Try.ntmps81
  go_wp2_with fail
  refine N.out.mono ?_
  rintro e w1 ⟨rfl, rfl⟩
  go_wp2
  go_ret
  exact ⟨rfl, rfl⟩
set_option maxHeartbeats 4000000 in
set_option maxRecDepth 100000 in
theorem give_out (h : Ds A w g most T) {k : Nat} (hk : T.length ≤ k) (hkm : k < most) : Calls Try.prog 73 #[.pointer (some ⟨g, 0, none⟩), .int .i64 ((k : Int) + 1)] w fun e w' => e = .returned (.int .i64 7) ∧ w = w' := by
  obtain ⟨tv, bv, H, i, G, av⟩ := h.ex
  have hm4 := h.m4
  have N := Lib.hid (none_no i (by have := h.m1; omega))
  have HS := Lib.hid (has_out h hk (by omega))
  have c0 := i.c0
  have hk2 : (k : Int) + 1 ≤ (most : Int) := by omega
  have hT : (most : Int) ≤ 400 := by omega
  clear i G av h
  go_enter Try.func73, Try.ntmps73
  go_wp2_with fail
  refine N.out.mono ?_
  rintro e w1 ⟨rfl, rfl⟩
  go_wp2_with fail
  refine HS.out.mono ?_
  rintro e w1 ⟨rfl, rfl⟩
  go_wp2
  go_ret
  exact ⟨rfl, rfl⟩
/-- Whatever is given back. -/
theorem give_any (h : Ds A w g most T) {k : Nat} (hkm : k < most) : Calls Try.prog 73 #[.pointer (some ⟨g, 0, none⟩), .int .i64 ((k : Int) + 1)] w fun e w' => ∃ c T', e = .returned (.int .i64 c) ∧ Ds A w' g most T' ∧ Kp A w w' := by
  by_cases hk : k < T.length
  · cases hf : T.getD k false
    · exact (give_no h hk hf).mono fun e w' ⟨he, hw⟩ => ⟨7, T, he, hw ▸ h, hw ▸ Far.refl _ _⟩
    · exact (give_ok h hk hf).mono fun e w' ⟨he, d, kp⟩ => ⟨0, _, he, d, kp⟩
  · exact (give_out h (by omega) hkm).mono fun e w' ⟨he, hw⟩ => ⟨7, T, he, hw ▸ h, hw ▸ Far.refl _ _⟩
end
end Go.Proofs.Ytceiipcdkonnlaa.Ids
