/-
  LAYER 3: what Of reads, as a function of the bytes.
-/
import Derived.Test.YtoglgdkeknojkaaWe
namespace Go.Proofs.Ytoglgdkeknojkaa
open Go.RowKit

def gN (l : List Nat) (k : Nat) : Nat := (getF 0 0 (l.drop k)).1
def gAt (l : List Nat) (k : Nat) : Nat := k + (getF 0 0 (l.drop k)).2.1
def gE (l : List Nat) (k : Nat) : Nat := (getF 0 0 (l.drop k)).2.2
theorem getF_spec : ∀ (l : List Nat) (i acc : Nat), (∀ x ∈ l, x < 256) → i ≤ 9 → acc < 128 ^ i →
    ((getF i acc l).2.2 = 0 ∧ (getF i acc l).1 ≤ 18446744073709551615 ∧ i < (getF i acc l).2.1 ∧ (getF i acc l).2.1 ≤ i + l.length) ∨ ((getF i acc l).1 = 0 ∧ ((getF i acc l).2.2 = 2 ∨ (getF i acc l).2.2 = 3))
  | [], i, acc, _, _, _ => by simp [getF]
  | c :: r, i, acc, h, hi, ha => by
    have hc : c < 256 := h c (by simp)
    rw [getF]
    split
    · simp
    · rename_i h9
      split
      · rename_i h1
        refine .inl ⟨rfl, ?_, by simp, by simp⟩
        show acc + c * 128 ^ i ≤ _
        by_cases e : i = 9
        · subst e
          have : c ≤ 1 := by omega
          have : c * 128 ^ 9 ≤ 1 * 128 ^ 9 := Nat.mul_le_mul_right _ this
          omega
        · have h8 : 128 ^ (i + 1) ≤ 128 ^ 9 := Nat.pow_le_pow_right (by decide) (by omega)
          rw [Nat.pow_succ] at h8
          have : (c + 1) * 128 ^ i ≤ 128 * 128 ^ i := Nat.mul_le_mul_right _ (by omega)
          rw [Nat.add_mul] at this
          omega
      · rename_i h1
        by_cases e : i = 9
        · omega
        · have hs : acc + (c - 128) * 128 ^ i < 128 ^ (i + 1) := by
            have : (c - 128 + 1) * 128 ^ i ≤ 128 * 128 ^ i := Nat.mul_le_mul_right _ (by omega)
            rw [Nat.add_mul] at this
            rw [Nat.pow_succ]
            omega
          rcases getF_spec r (i + 1) _ (fun x hx => h x (by simp [hx])) (by omega) hs with ⟨h1, h2, h3, h4⟩ | h
          · refine .inl ⟨h1, h2, by omega, by simp; omega⟩
          · exact .inr h
theorem g_spec (l : List Nat) (k : Nat) (h : ∀ x ∈ l, x < 256) (hk : k ≤ l.length) : (gE l k = 0 ∧ gN l k ≤ 18446744073709551615 ∧ k < gAt l k ∧ gAt l k ≤ l.length) ∨ (gN l k = 0 ∧ (gE l k = 2 ∨ gE l k = 3)) := by
  rcases getF_spec (l.drop k) 0 0 (fun x hx => h x (List.mem_of_mem_drop hx)) (by omega) (by decide) with ⟨h1, h2, h3, h4⟩ | h
  · rw [List.length_drop] at h4
    exact .inl ⟨h1, h2, by unfold gAt; omega, by unfold gAt; omega⟩
  · exact .inr h
theorem getV_ok {l : List Nat} {k : Nat} (h : gE l k = 0) : getV l k = .tuple #[.int .u64 (gN l k : Nat), .int .i64 (gAt l k : Nat), .int .i64 0] := by
  unfold getV
  rw [show (getF 0 0 (l.drop k)).2.2 = 0 from h, if_pos rfl]
  unfold gN gAt
  simp
theorem getV_no {l : List Nat} {k : Nat} (h : gE l k ≠ 0) : getV l k = .tuple #[.int .u64 (gN l k : Nat), .int .i64 0, .int .i64 (gE l k : Nat)] := by
  unfold getV
  rw [if_neg (show ¬ (getF 0 0 (l.drop k)).2.2 = 0 from h)]
  rfl
def vE (l : List Nat) (a kd : Nat) : Nat :=
  if kd = 0 then gE l a else if kd = 1 then (if a + 8 ≤ l.length then 0 else 2) else if kd = 5 then (if a + 4 ≤ l.length then 0 else 2) else
  if kd = 2 then (if gE l a ≠ 0 then gE l a else if l.length - gAt l a < gN l a then 2 else 0) else 11
def vF (l : List Nat) (a num kd : Nat) : Fd :=
  ⟨num, kd, if kd = 0 then gN l a else if kd = 1 then valF l a 8 else if kd = 5 then valF l a 4 else 0, if kd = 2 then strB ((l.drop (gAt l a)).take (gN l a)) else ⟨#[]⟩⟩
def vA (l : List Nat) (a kd : Nat) : Nat := if kd = 0 then gAt l a else if kd = 1 then a + 8 else if kd = 5 then a + 4 else gAt l a + gN l a
structure St where
  place : Nat
  op : List Nat
  out : List Fd
def stepF (l : List Nat) (s : St) : Except Nat St :=
  if gE l s.place ≠ 0 then .error (gE l s.place)
  else if gN l s.place / 8 < 1 ∨ 536870912 ≤ gN l s.place / 8 then .error 5
  else if gN l s.place % 8 = 3 then (if 8 ≤ s.op.length then .error 12 else .ok ⟨gAt l s.place, s.op ++ [gN l s.place / 8], s.out⟩)
  else if gN l s.place % 8 = 4 then (if s.op.getLast? ≠ some (gN l s.place / 8) then .error 4 else .ok ⟨gAt l s.place, s.op.dropLast, s.out⟩)
  else if vE l (gAt l s.place) (gN l s.place % 8) ≠ 0 then .error (vE l (gAt l s.place) (gN l s.place % 8))
  else if s.op ≠ [] then .ok ⟨vA l (gAt l s.place) (gN l s.place % 8), s.op, s.out⟩
  else if 256 ≤ s.out.length then .error 6
  else .ok ⟨vA l (gAt l s.place) (gN l s.place % 8), s.op, s.out ++ [vF l (gAt l s.place) (gN l s.place / 8) (gN l s.place % 8)]⟩
def ofF (l : List Nat) : Nat → St → List Fd × Nat
  | 0, _ => ([], 0)
  | n + 1, s => if l.length ≤ s.place then (if s.op = [] then (s.out, 0) else ([], 2)) else
    match stepF l s with
    | .error e => ([], e)
    | .ok s' => ofF l n s'
/-- What Of answers. -/
def ofR (l : List Nat) : List Fd × Nat := if 4096 < l.length then ([], 3) else ofF l (l.length + 1) ⟨0, [], []⟩
theorem vA_spec (l : List Nat) (a kd : Nat) (h : ∀ x ∈ l, x < 256) (ha : a ≤ l.length) (he : vE l a kd = 0) : a ≤ vA l a kd ∧ vA l a kd ≤ l.length := by
  have := g_spec l a h ha
  unfold vE at he
  unfold vA
  by_cases k0 : kd = 0
  · rw [if_pos k0] at he ⊢; omega
  rw [if_neg k0] at he ⊢
  by_cases k1 : kd = 1
  · rw [if_pos k1] at he ⊢; split at he <;> omega
  rw [if_neg k1] at he ⊢
  by_cases k5 : kd = 5
  · rw [if_pos k5] at he ⊢; split at he <;> omega
  rw [if_neg k5] at he ⊢
  by_cases k2 : kd = 2
  · rw [if_pos k2] at he
    split at he
    · omega
    · split at he <;> omega
  · rw [if_neg k2] at he; omega
theorem stepF_spec {l : List Nat} {s s' : St} (h : ∀ x ∈ l, x < 256) (hs : s.place ≤ l.length) (he : stepF l s = .ok s') : s.place < s'.place ∧ s'.place ≤ l.length := by
  have hg := g_spec l s.place h hs
  unfold stepF at he
  split at he
  · cases he
  split at he
  · cases he
  split at he
  · split at he
    · cases he
    · cases he; exact ⟨by simp; omega, by simp; omega⟩
  split at he
  · split at he
    · cases he
    · cases he; exact ⟨by simp; omega, by simp; omega⟩
  split at he
  · cases he
  rename_i hv
  have := vA_spec l (gAt l s.place) (gN l s.place % 8) h (by omega) (by simpa using hv)
  split at he
  · cases he; exact ⟨by simp; omega, by simp; omega⟩
  · split at he
    · cases he
    · cases he; exact ⟨by simp; omega, by simp; omega⟩
/-- With fuel enough the answer is that of the next state. -/
def Leads (l : List Nat) (s s' : St) : Prop := ∀ n, l.length - s.place < n → ∃ n', l.length - s'.place < n' ∧ ofF l n s = ofF l n' s'
theorem Leads.refl (l : List Nat) (s : St) : Leads l s s := fun n hn => ⟨n, hn, rfl⟩
theorem Leads.trans {l : List Nat} {a b c : St} (h : Leads l a b) (k : Leads l b c) : Leads l a c := fun n hn => by
  obtain ⟨n', h1, h2⟩ := h n hn
  obtain ⟨m, h3, h4⟩ := k n' h1
  exact ⟨m, h3, h2.trans h4⟩
theorem Leads.step {l : List Nat} {s s' : St} (h : ∀ x ∈ l, x < 256) (hs : s.place < l.length) (he : stepF l s = .ok s') : Leads l s s' := fun n hn => by
  have := stepF_spec h (by omega) he
  cases n with
  | zero => omega
  | succ n =>
    refine ⟨n, by omega, ?_⟩
    rw [ofF, if_neg (by omega), he]
theorem ofF_end {l : List Nat} {s : St} {n : Nat} (hn : l.length - s.place < n) (hs : l.length ≤ s.place) : ofF l n s = if s.op = [] then (s.out, 0) else ([], 2) := by
  cases n with
  | zero => omega
  | succ n => rw [ofF, if_pos hs]
theorem ofF_bad {l : List Nat} {s : St} {n e : Nat} (hn : l.length - s.place < n) (hs : s.place < l.length) (he : stepF l s = .error e) : ofF l n s = ([], e) := by
  cases n with
  | zero => omega
  | succ n => rw [ofF, if_neg (by omega), he]
end Go.Proofs.Ytoglgdkeknojkaa
