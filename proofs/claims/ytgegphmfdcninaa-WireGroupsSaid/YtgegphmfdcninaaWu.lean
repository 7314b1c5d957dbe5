/-
  LAYER 3: groups in between: plain lists.
-/
import Derived.Test.YtgegphmfdcninaaWr
namespace Go.Proofs.Ytgegphmfdcninaa
open Go.RowKit

theorem puts_all {l : List Fd} (hok : ∀ f ∈ l, f.ok) (h : putsE l = 0) : ∀ f ∈ l, f.ok ∧ wrE f = 0 := by
  unfold putsE at h
  split at h
  · rename_i hn; exact absurd h hn
  rename_i h0
  exact fun f hf => ⟨hok f hf, firstE_zero.1 (by simpa using h0) f hf⟩
theorem putL_two (n : Nat) (h : n < 16384) : (putL 9 n).length ≤ 2 := by
  unfold putL
  split
  · simp
  · unfold putL
    rw [if_pos (by omega)]
    simp
theorem rep_lt {t : List Nat} (h : ∀ x ∈ t, x < 256) : ∀ k, ∀ x ∈ rep t k, x < 256
  | 0, x, hx => by simp [rep] at hx
  | k + 1, x, hx => by
    rw [rep] at hx
    rcases List.mem_append.1 hx with hx | hx
    · exact h x hx
    · exact rep_lt h k x hx
theorem app_lt {a b : List Nat} (ha : ∀ x ∈ a, x < 256) (hb : ∀ x ∈ b, x < 256) : ∀ x ∈ a ++ b, x < 256 := fun x hx => (List.mem_append.1 hx).elim (ha x) (hb x)
theorem nil_lt : ∀ x ∈ ([] : List Nat), x < 256 := fun x hx => by cases hx
def grp (x y : List Nat) (n k : Nat) : List Nat := x ++ rep (putL 9 (8 * n + 3)) k ++ (if 0 < k then y else []) ++ rep (putL 9 (8 * n + 4)) k ++ y
theorem grp_lt (x y : List Nat) (n k : Nat) (hx : ∀ u ∈ x, u < 256) (hy : ∀ u ∈ y, u < 256) (hn : n ≤ 536870911) : ∀ u ∈ grp x y n k, u < 256 := by
  unfold grp
  have ho := put_lt (8 * n + 3) (by omega)
  have hc := put_lt (8 * n + 4) (by omega)
  refine app_lt (app_lt (app_lt (app_lt hx (rep_lt ho k)) ?_) (rep_lt hc k)) hy
  split
  · exact hy
  · exact nil_lt
theorem grp_le (x y : List Nat) (n k : Nat) (h1 : 1 ≤ n) (h2 : n ≤ 2000) (hk : k ≤ 9) : (grp x y n k).length ≤ x.length + y.length + y.length + 36 := by
  have ho := putL_two (8 * n + 3) (by omega)
  have hc := putL_two (8 * n + 4) (by omega)
  unfold grp
  simp only [List.length_append, rep_length]
  have : k * (putL 9 (8 * n + 3)).length ≤ 9 * 2 := Nat.mul_le_mul hk ho
  have : k * (putL 9 (8 * n + 4)).length ≤ 9 * 2 := Nat.mul_le_mul hk hc
  have : (if 0 < k then y else []).length ≤ y.length := by split <;> simp
  omega
theorem of_groups (A B : List Fd) (n k : Nat) (hA : ∀ f ∈ A, f.ok ∧ wrE f = 0) (hB : ∀ f ∈ B, f.ok ∧ wrE f = 0) (h1 : 1 ≤ n) (h2 : n ≤ 536870911) (hk : k ≤ 8) (hn : A.length + B.length ≤ 256) (h4 : (grp (joinL A) (joinL B) n k).length ≤ 4096) :
    ofR (grp (joinL A) (joinL B) n k) = (A ++ B, 0) := by
  have hall := grp_lt _ _ n k (join_lt A hA) (join_lt B hB) h2
  refine of_leads h4 ?_
  generalize hM : grp (joinL A) (joinL B) n k = M at *
  unfold grp at hM
  have p1 : Leads M ⟨0, [], []⟩ ⟨(joinL A).length, [], A⟩ := by
    have e : [] ++ joinL A ++ (rep (putL 9 (8 * n + 3)) k ++ (if 0 < k then joinL B else []) ++ rep (putL 9 (8 * n + 4)) k ++ joinL B) = M := by rw [← hM]; simp only [List.nil_append, List.append_assoc]
    have := lead_join A [] (rep (putL 9 (8 * n + 3)) k ++ (if 0 < k then joinL B else []) ++ rep (putL 9 (8 * n + 4)) k ++ joinL B) [] (by rw [e]; exact hall) hA (by simp; omega)
    rw [e] at this
    simpa using this
  have p2 : Leads M ⟨(joinL A).length, [], A⟩ ⟨(joinL A).length + (rep (putL 9 (8 * n + 3)) k).length, List.replicate k n, A⟩ := by
    have e : joinL A ++ rep (putL 9 (8 * n + 3)) k ++ ((if 0 < k then joinL B else []) ++ rep (putL 9 (8 * n + 4)) k ++ joinL B) = M := by rw [← hM]; simp only [List.append_assoc]
    have := lead_open n h1 h2 k (joinL A) ((if 0 < k then joinL B else []) ++ rep (putL 9 (8 * n + 4)) k ++ joinL B) [] A (by rw [e]; exact hall) (by simpa using hk)
    rw [e] at this
    simpa using this
  have p3 : Leads M ⟨(joinL A ++ rep (putL 9 (8 * n + 3)) k).length, List.replicate k n, A⟩ ⟨(joinL A ++ rep (putL 9 (8 * n + 3)) k).length + (if 0 < k then joinL B else []).length, List.replicate k n, A⟩ := by
    by_cases k0 : 0 < k
    · rw [if_pos k0] at hM ⊢
      have e : (joinL A ++ rep (putL 9 (8 * n + 3)) k) ++ joinL B ++ (rep (putL 9 (8 * n + 4)) k ++ joinL B) = M := by rw [← hM]; simp only [List.append_assoc]
      have := lead_skip B (joinL A ++ rep (putL 9 (8 * n + 3)) k) (rep (putL 9 (8 * n + 4)) k ++ joinL B) (List.replicate k n) A (by rw [Ne, List.replicate_eq_nil_iff]; omega) (by rw [e]; exact hall) hB
      rw [e] at this
      exact this
    · rw [if_neg k0]
      simpa using Leads.refl _ _
  have p4 : Leads M ⟨(joinL A ++ rep (putL 9 (8 * n + 3)) k ++ (if 0 < k then joinL B else [])).length, List.replicate k n, A⟩ ⟨(joinL A ++ rep (putL 9 (8 * n + 3)) k ++ (if 0 < k then joinL B else [])).length + (rep (putL 9 (8 * n + 4)) k).length, [], A⟩ := by
    have e : (joinL A ++ rep (putL 9 (8 * n + 3)) k ++ (if 0 < k then joinL B else [])) ++ rep (putL 9 (8 * n + 4)) k ++ joinL B = M := by rw [← hM]
    have := lead_close n h1 h2 k (joinL A ++ rep (putL 9 (8 * n + 3)) k ++ (if 0 < k then joinL B else [])) (joinL B) [] A (by rw [e]; exact hall)
    rw [e] at this
    simpa using this
  have p5 : Leads M ⟨(joinL A ++ rep (putL 9 (8 * n + 3)) k ++ (if 0 < k then joinL B else []) ++ rep (putL 9 (8 * n + 4)) k).length, [], A⟩ ⟨M.length, [], A ++ B⟩ := by
    have e : (joinL A ++ rep (putL 9 (8 * n + 3)) k ++ (if 0 < k then joinL B else []) ++ rep (putL 9 (8 * n + 4)) k) ++ joinL B ++ [] = M := by rw [← hM]; simp only [List.append_nil]
    have := lead_join B (joinL A ++ rep (putL 9 (8 * n + 3)) k ++ (if 0 < k then joinL B else []) ++ rep (putL 9 (8 * n + 4)) k) [] A (by rw [e]; exact hall) hB (by omega)
    rw [e] at this
    rw [show M.length = (joinL A ++ rep (putL 9 (8 * n + 3)) k ++ (if 0 < k then joinL B else []) ++ rep (putL 9 (8 * n + 4)) k).length + (joinL B).length from by rw [← hM]; simp only [List.length_append]]
    exact this
  rw [List.length_append] at p3
  rw [List.length_append, List.length_append] at p4
  rw [List.length_append, List.length_append, List.length_append] at p5
  exact (((p1.trans p2).trans p3).trans p4).trans p5
theorem of_deep (A B : List Fd) (n : Nat) (hA : ∀ f ∈ A, f.ok ∧ wrE f = 0) (hB : ∀ f ∈ B, f.ok ∧ wrE f = 0) (h1 : 1 ≤ n) (h2 : n ≤ 536870911) (hn : A.length ≤ 256) (h4 : (grp (joinL A) (joinL B) n 9).length ≤ 4096) :
    ofR (grp (joinL A) (joinL B) n 9) = ([], 12) := by
  have hall := grp_lt _ _ n 9 (join_lt A hA) (join_lt B hB) h2
  generalize hM : grp (joinL A) (joinL B) n 9 = M at *
  unfold grp at hM
  rw [rep_snoc _ 8] at hM
  generalize hR : (if 0 < 9 then joinL B else []) ++ rep (putL 9 (8 * n + 4)) 9 ++ joinL B = R at *
  have hM2 : joinL A ++ rep (putL 9 (8 * n + 3)) 8 ++ putL 9 (8 * n + 3) ++ R = M := by rw [← hM, ← hR]; simp only [List.append_assoc]
  have p1 : Leads M ⟨0, [], []⟩ ⟨(joinL A).length, [], A⟩ := by
    have e : [] ++ joinL A ++ (rep (putL 9 (8 * n + 3)) 8 ++ putL 9 (8 * n + 3) ++ R) = M := by rw [← hM2]; simp only [List.nil_append, List.append_assoc]
    have := lead_join A [] (rep (putL 9 (8 * n + 3)) 8 ++ putL 9 (8 * n + 3) ++ R) [] (by rw [e]; exact hall) hA (by simp; omega)
    rw [e] at this
    simpa using this
  have p2 : Leads M ⟨(joinL A).length, [], A⟩ ⟨(joinL A).length + (rep (putL 9 (8 * n + 3)) 8).length, List.replicate 8 n, A⟩ := by
    have e : joinL A ++ rep (putL 9 (8 * n + 3)) 8 ++ (putL 9 (8 * n + 3) ++ R) = M := by rw [← hM2]; simp only [List.append_assoc]
    have := lead_open n h1 h2 8 (joinL A) (putL 9 (8 * n + 3) ++ R) [] A (by rw [e]; exact hall) (by simp)
    rw [e] at this
    simpa using this
  have he : stepF M ⟨(joinL A ++ rep (putL 9 (8 * n + 3)) 8).length, List.replicate 8 n, A⟩ = .error 12 := by
    have := step_open (joinL A ++ rep (putL 9 (8 * n + 3)) 8) R n h1 h2 (List.replicate 8 n) A
    rw [if_pos (by simp), hM2] at this
    exact this
  rw [List.length_append] at he
  refine of_bad h4 ?_ (p1.trans p2) he
  have := put_pos (8 * n + 3)
  rw [← hM2]
  simp only [List.length_append]
  omega
end Go.Proofs.Ytgegphmfdcninaa
