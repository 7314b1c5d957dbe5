/-
  LAYER 3: two messages, one behind the other: plain lists.
-/
import Derived.Test.YtoglgdkeknojkaaWp
namespace Go.Proofs.Ytoglgdkeknojkaa
open Go.RowKit

theorem getF_app : ∀ (l : List Nat) (i acc : Nat) (c : List Nat), (getF i acc l).2.2 = 0 → getF i acc (l ++ c) = getF i acc l
  | [], i, acc, c, h => by simp [getF] at h
  | x :: r, i, acc, c, h => by
    rw [List.cons_append, getF, getF]
    rw [getF] at h
    split
    · rfl
    · rename_i h9
      rw [if_neg h9] at h
      split
      · rfl
      · rename_i h1
        rw [if_neg h1] at h
        exact getF_app r _ _ c h
theorem g_app {a c : List Nat} {k : Nat} (hk : k ≤ a.length) (h : gE a k = 0) : gE (a ++ c) k = 0 ∧ gN (a ++ c) k = gN a k ∧ gAt (a ++ c) k = gAt a k := by
  have e : getF 0 0 ((a ++ c).drop k) = getF 0 0 (a.drop k) := by
    rw [List.drop_append_of_le_length hk]
    exact getF_app _ _ _ _ h
  unfold gE gN gAt at *
  rw [e]
  exact ⟨h, rfl, rfl⟩
theorem valF_app (a c : List Nat) (p : Nat) : ∀ m, p + m ≤ a.length → valF (a ++ c) p m = valF a p m
  | 0, _ => rfl
  | m + 1, h => by
    rw [valF, valF, valF_app a c p m (by omega)]
    congr 2
    simp only [List.getD_eq_getElem?_getD]
    rw [List.getElem?_append_left (by omega)]
theorem v_app {a c : List Nat} {p kd : Nat} (hb : ∀ x ∈ a, x < 256) (hp : p ≤ a.length) (h : vE a p kd = 0) : vE (a ++ c) p kd = 0 ∧ (∀ n, vF (a ++ c) p n kd = vF a p n kd) ∧ vA (a ++ c) p kd = vA a p kd := by
  have hg := g_spec a p hb hp
  unfold vE at h
  unfold vE vF vA
  by_cases k0 : kd = 0
  · subst k0
    rw [if_pos rfl] at h
    obtain ⟨g1, g2, g3⟩ := g_app (c := c) hp h
    simp [g1, g2, g3]
  by_cases k1 : kd = 1
  · subst k1
    rw [if_neg (by decide), if_pos rfl] at h
    have h8 : p + 8 ≤ a.length := by
      split at h
      · assumption
      · cases h
    simp [valF_app a c p 8 h8]
    omega
  by_cases k5 : kd = 5
  · subst k5
    rw [if_neg (by decide), if_neg (by decide), if_pos rfl] at h
    have h8 : p + 4 ≤ a.length := by
      split at h
      · assumption
      · cases h
    simp [valF_app a c p 4 h8]
    omega
  by_cases k2 : kd = 2
  · subst k2
    rw [if_neg (by decide), if_neg (by decide), if_neg (by decide), if_pos rfl] at h
    have h0 : gE a p = 0 := by
      split at h
      · rename_i hn; exact absurd h hn
      · rename_i hn; simpa using hn
    rw [if_neg (by simp [h0])] at h
    have hq : ¬ a.length - gAt a p < gN a p := by
      split at h
      · cases h
      · assumption
    obtain ⟨g1, g2, g3⟩ := g_app (c := c) hp h0
    simp only [g1, g2, g3]
    have hA : gAt a p ≤ a.length := by omega
    have hd : ((a ++ c).drop (gAt a p)).take (gN a p) = (a.drop (gAt a p)).take (gN a p) := by
      rw [List.drop_append_of_le_length hA, List.take_append_of_le_length (by rw [List.length_drop]; omega)]
    simp [hd]
    omega
  · rw [if_neg k0, if_neg k1, if_neg k5, if_neg k2] at h
    cases h
theorem step_app {a c : List Nat} {s s' : St} (hb : ∀ x ∈ a, x < 256) (hp : s.place ≤ a.length) (h : stepF a s = .ok s') : stepF (a ++ c) s = .ok s' := by
  have hg := g_spec a s.place hb hp
  unfold stepF at h ⊢
  by_cases h0 : gE a s.place = 0
  · obtain ⟨g1, g2, g3⟩ := g_app (c := c) hp h0
    rw [if_neg (by simp [h0])] at h
    rw [if_neg (by simp [g1]), g2, g3]
    by_cases c1 : gN a s.place / 8 < 1 ∨ 536870912 ≤ gN a s.place / 8
    · rw [if_pos c1] at h; cases h
    rw [if_neg c1] at h ⊢
    by_cases m3 : gN a s.place % 8 = 3
    · rw [if_pos m3] at h ⊢; exact h
    rw [if_neg m3] at h ⊢
    by_cases m4 : gN a s.place % 8 = 4
    · rw [if_pos m4] at h ⊢; exact h
    rw [if_neg m4] at h ⊢
    by_cases hv : vE a (gAt a s.place) (gN a s.place % 8) = 0
    · obtain ⟨v1, v2, v3⟩ := v_app (c := c) hb (show gAt a s.place ≤ a.length by omega) hv
      rw [if_neg (by simp [hv])] at h
      rw [if_neg (by simp [v1]), v2, v3]
      exact h
    · rw [if_pos hv] at h; cases h
  · rw [if_pos h0] at h; cases h
theorem g_sh (c b : List Nat) (k : Nat) : gE (c ++ b) (c.length + k) = gE b k ∧ gN (c ++ b) (c.length + k) = gN b k ∧ gAt (c ++ b) (c.length + k) = c.length + gAt b k := by
  have e : (c ++ b).drop (c.length + k) = b.drop k := by rw [List.drop_append]; simp
  unfold gE gN gAt
  rw [e]
  exact ⟨rfl, rfl, by omega⟩
theorem valF_sh (c b : List Nat) (p : Nat) : ∀ m, valF (c ++ b) (c.length + p) m = valF b p m
  | 0 => rfl
  | m + 1 => by
    rw [valF, valF, valF_sh c b p m]
    congr 2
    simp only [List.getD_eq_getElem?_getD]
    rw [List.getElem?_append_right (by omega)]
    congr 2
    omega
theorem v_sh (c b : List Nat) (p kd : Nat) : vE (c ++ b) (c.length + p) kd = vE b p kd ∧ (∀ n, vF (c ++ b) (c.length + p) n kd = vF b p n kd) ∧ (vE b p kd = 0 → vA (c ++ b) (c.length + p) kd = c.length + vA b p kd) := by
  obtain ⟨g1, g2, g3⟩ := g_sh c b p
  unfold vE vF vA
  simp only [g1, g2, g3, valF_sh, List.length_append]
  have hd : (c ++ b).drop (c.length + gAt b p) = b.drop (gAt b p) := by rw [List.drop_append]; simp
  refine ⟨?_, ?_, ?_⟩
  · by_cases k0 : kd = 0
    · simp [k0]
    by_cases k1 : kd = 1
    · subst k1
      simp [Nat.add_assoc]
    by_cases k5 : kd = 5
    · subst k5
      simp [Nat.add_assoc]
    by_cases k2 : kd = 2
    · subst k2
      have e : c.length + b.length - (c.length + gAt b p) = b.length - gAt b p := by omega
      simp [e]
    · simp [k0, k1, k5, k2]
  · intro n
    rw [hd]
  · intro _
    split
    · rfl
    split
    · omega
    split
    · omega
    · omega
/-- A step in the second message. -/
theorem step_sh {c b : List Nat} {p : Nat} {op : List Nat} {o x : List Fd} {s' : St} (h : stepF b ⟨p, op, o⟩ = .ok s') (hx : x.length + s'.out.length ≤ 256) : stepF (c ++ b) ⟨c.length + p, op, x ++ o⟩ = .ok ⟨c.length + s'.place, s'.op, x ++ s'.out⟩ := by
  obtain ⟨g1, g2, g3⟩ := g_sh c b p
  unfold stepF at h ⊢
  simp only [g1, g2, g3] at h ⊢
  by_cases h0 : gE b p = 0
  · rw [if_neg (by simp [h0])] at h ⊢
    by_cases c1 : gN b p / 8 < 1 ∨ 536870912 ≤ gN b p / 8
    · rw [if_pos c1] at h; cases h
    rw [if_neg c1] at h ⊢
    by_cases m3 : gN b p % 8 = 3
    · rw [if_pos m3] at h ⊢
      split at h
      · cases h
      · cases h
        rename_i h8
        rw [if_neg h8]
    rw [if_neg m3] at h ⊢
    by_cases m4 : gN b p % 8 = 4
    · rw [if_pos m4] at h ⊢
      split at h
      · cases h
      · cases h
        rename_i h8
        rw [if_neg h8]
    rw [if_neg m4] at h ⊢
    obtain ⟨v1, v2, v3⟩ := v_sh c b (gAt b p) (gN b p % 8)
    rw [v1]
    by_cases hv : vE b (gAt b p) (gN b p % 8) = 0
    · rw [if_neg (by simp [hv])] at h ⊢
      rw [v3 hv, v2]
      split at h
      · cases h
        rename_i ho
        rw [if_pos ho]
      · rename_i ho
        rw [if_neg ho]
        split at h
        · cases h
        · cases h
          simp only [List.length_append, List.length_singleton] at hx
          rw [if_neg (by simp; omega), List.append_assoc]
    · rw [if_pos hv] at h; cases h
  · rw [if_pos h0] at h; cases h
theorem out_grows {b : List Nat} {s s' : St} (h : stepF b s = .ok s') : s.out.length ≤ s'.out.length := by
  unfold stepF at h
  split at h
  · cases h
  split at h
  · cases h
  split at h
  · split at h <;> cases h; exact Nat.le_refl _
  split at h
  · split at h <;> cases h; exact Nat.le_refl _
  split at h
  · cases h
  split at h
  · cases h; exact Nat.le_refl _
  split at h <;> cases h
  simp
theorem stepF_err {b : List Nat} {s : St} {e : Nat} (he : stepF b s = .error e) : e ≠ 0 := by
  rw [step_next] at he
  cases hN : nextF b s.place s.op with
  | error E => rw [hN] at he; cases he; exact nextF_err hN
  | ok q =>
    obtain ⟨p, op', F⟩ := q
    rw [hN] at he
    cases F with
    | none => cases he
    | some F =>
      simp only at he
      split at he
      · cases he; decide
      · cases he
theorem lead_ok (a c : List Nat) (ha : ∀ x ∈ a, x < 256) (hc : ∀ x ∈ a ++ c, x < 256) : ∀ (n : Nat) (s : St) (m : List Fd), a.length - s.place < n → s.place ≤ a.length → ofF a n s = (m, 0) → Leads (a ++ c) s ⟨a.length, [], m⟩
  | 0, _, _, h, _, _ => by omega
  | n + 1, s, m, hn, hp, h => by
    rw [ofF] at h
    split at h
    · rename_i hend
      split at h
      · rename_i ho
        cases h
        obtain ⟨p, op, o⟩ := s
        simp only at ho hp hend
        subst ho
        obtain rfl : p = a.length := by omega
        exact Leads.refl _ _
      · cases h
    · split at h
      · rename_i e he
        cases h
        exact absurd rfl (stepF_err he)
      · rename_i hlt s' he
        have hs := stepF_spec ha hp he
        exact (Leads.step hc (by rw [List.length_append]; omega) (step_app ha hp he)).trans (lead_ok a c ha hc n s' m (by omega) hs.2 h)
theorem lead_sh (c b : List Nat) (x : List Fd) (hb : ∀ y ∈ b, y < 256) (hc : ∀ y ∈ c ++ b, y < 256) : ∀ (n : Nat) (s : St) (m : List Fd), b.length - s.place < n → s.place ≤ b.length → ofF b n s = (m, 0) → x.length + m.length ≤ 256 →
    s.out.length ≤ m.length ∧ Leads (c ++ b) ⟨c.length + s.place, s.op, x ++ s.out⟩ ⟨c.length + b.length, [], x ++ m⟩
  | 0, _, _, h, _, _, _ => by omega
  | n + 1, s, m, hn, hp, h, hx => by
    rw [ofF] at h
    split at h
    · rename_i hend
      split at h
      · rename_i ho
        cases h
        obtain ⟨p, op, o⟩ := s
        simp only at ho hp hend
        subst ho
        obtain rfl : p = b.length := by omega
        exact ⟨Nat.le_refl _, Leads.refl _ _⟩
      · cases h
    · split at h
      · rename_i e he
        cases h
        exact absurd rfl (stepF_err he)
      · rename_i hlt s' he
        have hs := stepF_spec hb hp he
        obtain ⟨h1, h2⟩ := lead_sh c b x hb hc n s' m (by omega) hs.2 h hx
        have hst := step_sh (c := c) (x := x) (p := s.place) (op := s.op) (o := s.out) he (by omega)
        exact ⟨Nat.le_trans (out_grows he) h1, (Leads.step hc (by rw [List.length_append]; simp only; omega) hst).trans h2⟩
theorem step_le {l : List Nat} {s s' : St} (h : stepF l s = .ok s') (h6 : s.out.length ≤ 256) : s'.out.length ≤ 256 := by
  unfold stepF at h
  split at h
  · cases h
  split at h
  · cases h
  split at h
  · split at h <;> cases h; exact h6
  split at h
  · split at h <;> cases h; exact h6
  split at h
  · cases h
  split at h
  · cases h; exact h6
  split at h
  · cases h
  · cases h; simp; omega
theorem ofF_le (l : List Nat) : ∀ (n : Nat) (s : St), s.out.length ≤ 256 → (ofF l n s).1.length ≤ 256
  | 0, _, _ => by simp [ofF]
  | n + 1, s, h => by
    rw [ofF]
    split
    · split
      · exact h
      · simp
    · split
      · simp
      · rename_i s' he
        exact ofF_le l n s' (step_le he h)
theorem ofR_le (l : List Nat) : (ofR l).1.length ≤ 256 := by
  unfold ofR
  split
  · simp
  · exact ofF_le l _ _ (by simp)
/-- Two messages, one behind the other. -/
theorem of_two (a b : List Nat) (l m : List Fd) (ha : ∀ x ∈ a, x < 256) (hb : ∀ x ∈ b, x < 256) (h1 : ofR a = (l, 0)) (h2 : ofR b = (m, 0)) (h4 : a.length + b.length ≤ 4096) (hn : l.length + m.length ≤ 256) : ofR (a ++ b) = (l ++ m, 0) := by
  have hc : ∀ x ∈ a ++ b, x < 256 := fun x hx => (List.mem_append.1 hx).elim (ha x) (hb x)
  unfold ofR at h1 h2
  rw [if_neg (by omega)] at h1 h2
  have k1 := lead_ok a b ha hc _ _ _ (by simp) (by simp) h1
  have k2 := (lead_sh a b l hb hc _ _ _ (by simp) (by simp) h2 hn).2
  simp only [Nat.add_zero, List.append_nil] at k2
  have := k1.trans k2
  rw [← List.length_append] at this
  exact of_leads (by rw [List.length_append]; omega) this
end Go.Proofs.Ytoglgdkeknojkaa
