/-
  LAYER 5: there and back: a value's field is a field of wire's, and tells the value.
-/
import Derived.Test.YtoglgdkeknojkaaDoorAi
import Derived.Test.YtoglgdkeknojkaaDoorWr
namespace Go.Proofs.YtoglgdkeknojkaaDoor
open Go.RowKit

theorem vk_cases {v : Va} (hE : rightE v = 0) (hk : v.k ≠ 0) : v.k = 1 ∨ v.k = 2 ∨ v.k = 3 ∨ v.k = 4 ∨ v.k = 5 ∨ v.k = 6 ∨ v.k = 7 := by
  obtain ⟨h0, h7, -⟩ := rightE_zero hE
  omega
theorem wrE_of {f : Fd} (h1 : 1 ≤ f.num) (h2 : f.num ≤ 536870911) (hk : isK f.kind) (h2t : f.kind = 2 → f.val = 0) (hnt : f.kind ≠ 2 → f.text.size = 0) (h5 : f.kind = 5 → f.val ≤ 4294967295) : wrE f = 0 := by
  unfold wrE
  rw [if_neg (by omega), if_neg (by simpa using hk), if_neg (by rintro (⟨h, h'⟩ | ⟨h, h'⟩); exact h' (h2t h); exact h' (hnt h)), if_neg (by rintro ⟨h, h'⟩; have := h5 h; omega)]
theorem vfd_ok {v : Va} {b : Int} (hE : rightE v = 0) (hk : v.k ≠ 0) (h1 : 1 ≤ b) (h2 : b ≤ 256) (hn : v.n ≤ 18446744073709551615) (hs : v.s.size ≤ 140737488351232) : (vfd v b).ok ∧ wrE (vfd v b) = 0 := by
  obtain ⟨k0, k7, -, h67, h15, hm⟩ := rightE_zero hE
  have hc := vk_cases hE hk
  have hkind : vkind v.k = 0 ∨ vkind v.k = 1 ∨ vkind v.k = 2 ∨ vkind v.k = 5 := by
    rcases hc with h | h | h | h | h | h | h <;> rw [h] <;> decide
  refine ⟨⟨by simp only [vfd]; omega, by simp only [vfd]; omega, hn, hs⟩, ?_⟩
  have h2t : vkind v.k = 2 → v.n = 0 := by
    intro h
    rcases hc with e | e | e | e | e | e | e <;> rw [e] at h <;> simp [vkind] at h
    · exact h67 (.inl e)
    · exact h67 (.inr e)
  have hnt : vkind v.k ≠ 2 → v.s.size = 0 := by
    intro h
    rcases hc with e | e | e | e | e | e | e
    · exact h15 (by omega)
    · exact h15 (by omega)
    · exact h15 (by omega)
    · exact h15 (by omega)
    · exact h15 (by omega)
    · rw [e] at h; simp [vkind] at h
    · rw [e] at h; simp [vkind] at h
  have h5 : vkind v.k = 5 → v.n ≤ 4294967295 := by
    intro h
    rcases hc with e | e | e | e | e | e | e <;> rw [e] at h hm <;> simp [vkind, vmost] at h hm
    exact hm
  exact wrE_of (f := vfd v b) (by show 1 ≤ b + v.k - 1; omega) (by show b + v.k - 1 ≤ 536870911; omega) hkind h2t hnt h5
theorem ofVs_put {v : Va} {b : Int} (hE : rightE v = 0) (hk : v.k ≠ 0) (l : List Fd) (u : Va) : ofVs b 7 (vfd v b :: l) u = ofVs b 7 l v := by
  obtain ⟨k0, k7, -, -, -, hm⟩ := rightE_zero hE
  have e : (vfd v b).num - b + 1 = v.k := by simp only [vfd]; omega
  rw [ofVs_take (by simp only [vfd]; omega) (by rw [e]; rfl) (by rw [e]; simp only [vfd]; omega), e]
  rfl
theorem right_none {v : Va} (hE : rightE v = 0) (hk : v.k = 0) : v = v0 := by
  obtain ⟨-, -, hz, -⟩ := rightE_zero hE
  obtain ⟨h1, h2⟩ := hz hk
  obtain ⟨k, n, s⟩ := v
  simp only at hk h1 h2
  subst hk; subst h1
  rw [vsize0 h2]
  rfl
theorem putVL_is {v : Va} {b : Int} (hE : rightE v = 0) (h : ¬ (b < 1 ∨ 1000 < b)) : putVE v b true = 0 ∧ putVL v b true = if v.k = 0 then [] else [vfd v b] := by
  have e := (putVE_raw v b h).1
  rw [hE] at e
  refine ⟨e, ?_⟩
  unfold putVL
  by_cases hk : v.k = 0
  · rw [if_neg (by rintro ⟨-, h⟩; exact h hk), if_pos hk]
  · rw [if_pos ⟨e, hk⟩, if_neg hk]
/-- The last one counts. -/
theorem ofVs_two {a c : Va} {b : Int} (ha : rightE a = 0) (hc : rightE c = 0) (h : ¬ (b < 1 ∨ 1000 < b)) : ofVs b 7 (putVL a b true ++ putVL c b true) v0 = (if c.k = 0 then a else c, 0) := by
  rw [(putVL_is ha h).2, (putVL_is hc h).2]
  by_cases ka : a.k = 0
  · rw [if_pos ka]
    by_cases kc : c.k = 0
    · rw [if_pos kc, if_pos kc, right_none ha ka]; rfl
    · rw [if_neg kc, if_neg kc, List.nil_append, ofVs_put hc kc]; rfl
  · rw [if_neg ka]
    by_cases kc : c.k = 0
    · rw [if_pos kc, if_pos kc, List.append_nil, ofVs_put ha ka]; rfl
    · rw [if_neg kc, if_neg kc, List.cons_append, List.nil_append, ofVs_put ha ka, ofVs_put hc kc]; rfl
theorem put_fine {v : Va} {b : Int} (hE : rightE v = 0) (h1 : 1 ≤ b) (h2 : b ≤ 256) (hn : v.n ≤ 18446744073709551615) (hs : v.s.size ≤ 140737488351232) : (∀ f ∈ putVL v b true, f.ok ∧ wrE f = 0) ∧ (putVL v b true).length ≤ 1 := by
  rw [(putVL_is hE (by omega)).2]
  by_cases hk : v.k = 0
  · rw [if_pos hk]; exact ⟨by simp, by simp⟩
  · rw [if_neg hk]
    refine ⟨fun f hf => ?_, by simp⟩
    rw [List.mem_singleton.1 hf]
    exact vfd_ok hE hk h1 h2 hn hs
/-- Few fields, none of them wrong, are put, or are too long. -/
theorem puts_few {l : List Fd} (h : ∀ f ∈ l, f.ok ∧ wrE f = 0) (hl : l.length ≤ 2) : putsE l = 0 ∨ putsE l = 3 := by
  unfold putsE
  rw [if_neg (by rw [firstE_zero.2 fun f hf => (h f hf).2]; simp), if_neg (by omega)]
  by_cases hj : 4096 < (joinL l).length
  · rw [if_pos hj]; exact .inr rfl
  · rw [if_neg hj]; exact .inl rfl
theorem wput_any (v : Value) (l : List Fd) (w : World) (hs : FdsAt w v l) (h : ∀ f ∈ l, f.ok ∧ wrE f = 0) : Calls Tryd.prog 17 #[v] w (Puts (putsE l) (putsL l) w) :=
  puts_2 v l w hs (fun f hf => (h f hf).1) (firstE_zero.2 fun f hf => (h f hf).2)
end Go.Proofs.YtoglgdkeknojkaaDoor
