/-
  LAYER 12: chunks play no part, plain.
-/
import Derived.Test.YtceiipcdkonnlaaDoorTn
namespace Go.Proofs.YtceiipcdkonnlaaDoor
open Go.RowKit
set_option linter.unusedVariables false
set_option linter.unusedSimpArgs false
theorem lenF_ok : ∀ (g i n : Nat) (l : List Nat), (lenF g i n l).2.2 = 0 → 1 ≤ (lenF g i n l).2.1
  | 0, i, n, l => by simp [lenF]
  | g + 1, i, n, [] => by simp [lenF]
  | g + 1, i, n, c :: r => by
    simp only [lenF]
    split
    · split
      · intro _; show 1 ≤ i + 1; omega
      · simp
    · exact lenF_ok g (i + 1) (n + (c - 128) * 128 ^ i) r
theorem lenF_more : ∀ (g i n : Nat) (l m : List Nat), (lenF g i n l).2.2 ≠ 2 → lenF g i n (l ++ m) = lenF g i n l
  | 0, i, n, l, m => by simp [lenF]
  | g + 1, i, n, [], m => by simp [lenF]
  | g + 1, i, n, c :: r, m => by
    intro h
    simp only [lenF, List.cons_append] at h ⊢
    split
    · rfl
    · rename_i hc
      rw [if_neg hc] at h
      exact lenF_more g (i + 1) (n + (c - 128) * 128 ^ i) r m h
theorem hd_to (l : List Nat) (h : (hd l).e = 0) : 2 ≤ (hd l).to := by
  unfold hd at h ⊢
  split at h
  · cases h
  · rename_i h0
    rw [if_neg h0]
    split at h
    · rename_i h1; exact absurd h h1
    · rename_i h1
      rw [if_neg h1]
      split at h
      · rename_i h2
        rw [if_pos h2]
        have := lenF_ok 4 0 0 (l.drop 1) h2
        show 2 ≤ 1 + _
        omega
      · rename_i h2; exact absurd h h2
theorem hd_more (l m : List Nat) (h : (hd l).e ≠ 2) : hd (l ++ m) = hd l := by
  by_cases h0 : 0 = l.length
  · exfalso; apply h; unfold hd; rw [if_pos h0]
  have h0' : ¬ 0 = (l ++ m).length := by rw [List.length_append]; omega
  cases l with
  | nil => exact absurd rfl h0
  | cons c r =>
    unfold hd at h ⊢
    rw [if_neg h0] at h
    rw [if_neg h0, if_neg h0']
    simp only [List.cons_append, List.getD_cons_zero, List.drop_succ_cons, List.drop_zero] at h ⊢
    by_cases h1 : RightN (c / 16) (c % 16) ≠ 0
    · rw [if_pos h1, if_pos h1]
    · rw [if_neg h1] at h
      rw [if_neg h1, if_neg h1]
      have h2 : (lenF 4 0 0 r).2.2 ≠ 2 := by
        intro e
        rw [if_neg (by omega)] at h
        exact h e
      rw [lenF_more 4 0 0 r m h2]
def St.more (s : St) (x : List Nat) : St := if s.d = 0 then ⟨s.l ++ x, s.n, 0⟩ else s
theorem feed_more (s : St) (x : ByteArray) : s.feed x = s.more (nb x) := rfl
theorem more_more (s : St) (x y : List Nat) : (s.more x).more y = s.more (x ++ y) := by
  unfold St.more
  split
  · simp
  · rfl
theorem more_nil (s : St) : s.more [] = s := by
  obtain ⟨l, n, d⟩ := s
  unfold St.more
  split
  · rename_i h; simp at h; simp [h]
  · rfl
/-- What Next is, by its four ways. -/
theorem next_cases (s : St) : (s.d ≠ 0 ∧ s.next = (s, zR, false, s.d)) ∨ (s.d = 0 ∧ (hd s.l).e ≠ 2 ∧ (hd s.l).e ≠ 0 ∧ s.next = (⟨[], s.n, (hd s.l).e⟩, zR, false, (hd s.l).e)) ∨
    (s.d = 0 ∧ s.next = (s, zR, false, 0) ∧ ((hd s.l).e = 2 ∨ (hd s.l).e = 0 ∧ s.l.length < (hd s.l).to + (hd s.l).n)) ∨
    (s.d = 0 ∧ (hd s.l).e = 0 ∧ (hd s.l).to + (hd s.l).n ≤ s.l.length ∧ s.next = (⟨s.l.drop ((hd s.l).to + (hd s.l).n), s.n + 1, 0⟩, rawV s.l, true, 0)) := by
  unfold St.next
  by_cases h0 : s.d = 0
  · rw [if_neg (by omega)]
    by_cases h2 : (hd s.l).e = 2
    · rw [if_pos h2]; exact .inr (.inr (.inl ⟨h0, rfl, .inl h2⟩))
    · rw [if_neg h2]
      by_cases h1 : (hd s.l).e = 0
      · rw [if_neg (by omega)]
        by_cases h3 : s.l.length < (hd s.l).to + (hd s.l).n
        · rw [if_pos h3]; exact .inr (.inr (.inl ⟨h0, rfl, .inr ⟨h1, h3⟩⟩))
        · rw [if_neg h3]; exact .inr (.inr (.inr ⟨h0, h1, by omega, rfl⟩))
      · rw [if_pos h1]; exact .inr (.inl ⟨h0, h2, h1, rfl⟩)
  · rw [if_pos h0]; exact .inl ⟨h0, rfl⟩
/-- From s on, next by next, to the first that is none. -/
inductive Runs : St → List Rw → St → Nat → Prop
  | stop {s : St} : s.next.2.2.1 = false → Runs s [] s.next.1 s.next.2.2.2
  | step {s s' : St} {L : List Rw} {e : Nat} : s.next.2.2.1 = true → Runs s.next.1 L s' e → Runs s (rawW s.l :: L) s' e
theorem Runs.det {s s1 : St} {L1 : List Rw} {e1 : Nat} (h1 : Runs s L1 s1 e1) : ∀ {L2 s2 e2}, Runs s L2 s2 e2 → L1 = L2 ∧ s1 = s2 ∧ e1 = e2 := by
  induction h1 with
  | stop h =>
    intro L2 s2 e2 h2
    cases h2 with
    | stop _ => exact ⟨rfl, rfl, rfl⟩
    | step h' _ => rw [h] at h'; cases h'
  | step h _ ih =>
    intro L2 s2 e2 h2
    cases h2 with
    | stop h' => rw [h] at h'; cases h'
    | step _ r =>
      obtain ⟨a, b, c⟩ := ih r
      exact ⟨by rw [a], b, c⟩
theorem Runs.count {s s1 : St} {L : List Rw} {e : Nat} (h : Runs s L s1 e) : s1.n = s.n + L.length := by
  induction h with
  | @stop s h =>
    rcases next_cases s with ⟨-, hn⟩ | ⟨-, -, -, hn⟩ | ⟨-, hn, -⟩ | ⟨-, -, -, hn⟩
    · rw [hn]; simp
    · rw [hn]; simp
    · rw [hn]; simp
    · rw [hn] at h; cases h
  | @step s s' L e h _ ih =>
    rcases next_cases s with ⟨-, hn⟩ | ⟨-, -, -, hn⟩ | ⟨-, hn, -⟩ | ⟨-, -, -, hn⟩
    · rw [hn] at h; cases h
    · rw [hn] at h; cases h
    · rw [hn] at h; cases h
    · rw [ih, hn]; simp only [List.length_cons]; omega
theorem allS_runs : ∀ (m : Nat) (s : St), s.l.length < 2 * m → Runs s (allS m s).1 (allS m s).2.1 (allS m s).2.2
  | 0, s, h => by omega
  | m + 1, s, h => by
    cases hok : s.next.2.2.1
    · rw [allS_no hok]; exact .stop hok
    · rw [allS_ok hok]
      refine .step hok (allS_runs m s.next.1 ?_)
      rcases next_cases s with ⟨-, hn⟩ | ⟨-, -, -, hn⟩ | ⟨-, hn, -⟩ | ⟨h0, h1, h2, hn⟩
      · rw [hn] at hok; cases hok
      · rw [hn] at hok; cases hok
      · rw [hn] at hok; cases hok
      · rw [hn]
        have := hd_to s.l h1
        simp only [List.length_drop]
        omega
theorem rawW_more (l m : List Nat) (h : (hd l).e ≠ 2) (hs : (hd l).to + (hd l).n ≤ l.length) : rawW (l ++ m) = rawW l := by
  unfold rawW
  rw [hd_more l m h]
  congr 2
  rw [List.drop_append_of_le_length (by omega), List.take_append_of_le_length (by simp; omega)]
/-- A next, and then more bytes: the same as more bytes first. -/
theorem runs_more {t : St} {y : List Nat} {L : List Rw} {s' : St} {e : Nat} (h : Runs (t.more y) L s' e) :
    (t.next.2.2.1 = true → ∃ L', L = rawW t.l :: L' ∧ Runs (t.next.1.more y) L' s' e) ∧ (t.next.2.2.1 = false → Runs (t.next.1.more y) L s' e) := by
  rcases next_cases t with ⟨h0, hn⟩ | ⟨h0, h2, h1, hn⟩ | ⟨h0, hn, h3⟩ | ⟨h0, h1, h2, hn⟩
  · rw [hn]; exact ⟨fun h => (by cases h), fun _ => h⟩
  · rw [hn]
    refine ⟨fun h => (by cases h), fun _ => ?_⟩
    have em : t.more y = ⟨t.l ++ y, t.n, 0⟩ := by unfold St.more; rw [if_pos h0]
    have eD : (St.more ⟨[], t.n, (hd t.l).e⟩ y) = ⟨[], t.n, (hd t.l).e⟩ := by unfold St.more; rw [if_neg h1]
    have e1 : (St.next ⟨t.l ++ y, t.n, 0⟩) = (⟨[], t.n, (hd t.l).e⟩, zR, false, (hd t.l).e) := by
      have := hd_more t.l y h2
      simp [St.next, this, h2, h1]
    have e2 : (St.next ⟨[], t.n, (hd t.l).e⟩) = (⟨[], t.n, (hd t.l).e⟩, zR, false, (hd t.l).e) := nx_dead _ _ _ h1
    show Runs (St.more ⟨[], t.n, (hd t.l).e⟩ y) L s' e
    rw [eD]
    rw [em] at h
    have r1 : Runs ⟨t.l ++ y, t.n, 0⟩ [] ⟨[], t.n, (hd t.l).e⟩ (hd t.l).e := by
      have := Runs.stop (s := ⟨t.l ++ y, t.n, 0⟩) (by rw [e1])
      rwa [e1] at this
    have r2 : Runs ⟨[], t.n, (hd t.l).e⟩ [] ⟨[], t.n, (hd t.l).e⟩ (hd t.l).e := by
      have := Runs.stop (s := ⟨[], t.n, (hd t.l).e⟩) (by rw [e2])
      rwa [e2] at this
    obtain ⟨rfl, rfl, rfl⟩ := h.det r1
    exact r2
  · rw [hn]; exact ⟨fun h => (by cases h), fun _ => h⟩
  · have h2' : (hd t.l).e ≠ 2 := by omega
    have em : t.more y = ⟨t.l ++ y, t.n, 0⟩ := by unfold St.more; rw [if_pos h0]
    have e1 : (St.next ⟨t.l ++ y, t.n, 0⟩) = (⟨(t.l ++ y).drop ((hd t.l).to + (hd t.l).n), t.n + 1, 0⟩, rawV (t.l ++ y), true, 0) := by
      have := hd_more t.l y h2'
      have hlen : ¬ (t.l ++ y).length < (hd t.l).to + (hd t.l).n := by rw [List.length_append]; omega
      simp [St.next, this, h1]
      rw [List.length_append] at hlen
      omega
    rw [hn]
    refine ⟨fun _ => ?_, fun h => (by cases h)⟩
    rw [em] at h
    have eM : (St.more ⟨t.l.drop ((hd t.l).to + (hd t.l).n), t.n + 1, 0⟩ y) = ⟨(t.l ++ y).drop ((hd t.l).to + (hd t.l).n), t.n + 1, 0⟩ := by
      unfold St.more
      rw [if_pos rfl, List.drop_append_of_le_length h2]
    show ∃ L', L = rawW t.l :: L' ∧ Runs (St.more ⟨t.l.drop ((hd t.l).to + (hd t.l).n), t.n + 1, 0⟩ y) L' s' e
    rw [eM]
    cases h with
    | stop h' => rw [e1] at h'; cases h'
    | step _ r =>
      rw [e1] at r
      exact ⟨_, by rw [show rawW ((⟨t.l ++ y, t.n, 0⟩ : St).l) = rawW t.l from rawW_more t.l y h2' h2], r⟩
theorem nb_ex (r : ByteArray) (a b : Nat) : nb (r.extract a b) = ((nb r).drop a).take (b - a) := by
  unfold nb
  rw [ByteArray.data_extract, Array.toList_extract, List.extract_eq_take_drop, List.map_take, List.map_drop]
theorem nb_extract (r : ByteArray) (n : Nat) : nb r = nb (r.extract 0 n) ++ nb (r.extract n r.size) := by
  rw [nb_ex, nb_ex, List.drop_zero, Nat.sub_zero, List.take_of_length_le (l := (nb r).drop n) (by rw [List.length_drop, nb_length]; omega), List.take_append_drop]
end Go.Proofs.YtceiipcdkonnlaaDoor
