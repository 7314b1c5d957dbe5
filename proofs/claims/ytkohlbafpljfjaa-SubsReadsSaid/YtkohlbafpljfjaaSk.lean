/-
  LAYER 15: what Of reads: plain.
-/
import Derived.Test.YtkohlbafpljfjaaSg
namespace Go.Proofs.Ytkohlbafpljfjaa
open Go.RowKit

theorem rawV_end {l : List Nat} {at' : Int} (h : (rawV l at').2.2 = 0) (h256 : ∀ x ∈ l, x < 256) : ∃ k : Nat, (rawV l at').2.1 = k ∧ at' + 2 ≤ k ∧ k ≤ l.length := by
  by_cases h0 : (get2V l at').2.2 = 0
  · obtain ⟨k, m, rfl, hk, hm, e⟩ := get2_ok h0 h256
    unfold rawV at *
    rw [e] at h ⊢
    simp only [ne_eq, not_true, if_false] at h ⊢
    by_cases hlt : (l.length : Int) - ((k + 2 : Nat) : Int) < m
    · rw [if_pos hlt] at h; cases h
    · rw [if_neg hlt]; exact ⟨k + 2 + m, by simp, by omega, by omega⟩
  · unfold rawV at h; rw [if_pos h0] at h; exact absurd h h0
theorem getV_end {l : List Nat} {at' : Int} (h : (getV l at').2.2 = 0) (h256 : ∀ x ∈ l, x < 256) : ∃ k : Nat, (getV l at').2.1 = k ∧ at' + 2 ≤ k ∧ k ≤ l.length := by
  unfold getV at *
  split at h
  · cases h
  · rename_i hn
    rw [if_neg hn]
    exact rawV_end h h256
def noF : Fi := ⟨ByteArray.empty, 0⟩
/-- The filter at a place, the place behind it, and why there is none. -/
def filtV (l : List Nat) (k : Nat) (ends : Bool) : Fi × Nat × Int :=
  if (getV l k).2.2 ≠ 0 then (noF, 0, (getV l k).2.2)
  else if ends then (⟨(getV l k).1, 0⟩, (getV l k).2.1.toNat, 0)
  else if (getV l k).2.1.toNat = l.length then (noF, 0, 2)
  else if 2 < l.getD (getV l k).2.1.toNat 0 then (noF, 0, 5)
  else (⟨(getV l k).1, (l.getD (getV l k).2.1.toNat 0 : Nat)⟩, (getV l k).2.1.toNat + 1, 0)
theorem filtV_end {l : List Nat} {k : Nat} {ends : Bool} (h : (filtV l k ends).2.2 = 0) (h256 : ∀ x ∈ l, x < 256) : k < (filtV l k ends).2.1 ∧ (filtV l k ends).2.1 ≤ l.length := by
  unfold filtV at *
  by_cases h0 : (getV l k).2.2 ≠ 0
  · rw [if_pos h0] at h; exact absurd h h0
  obtain ⟨m, e, h1, h2⟩ := getV_end (Decidable.not_not.1 h0) h256
  rw [if_neg h0] at *
  rw [e, Int.toNat_natCast] at h ⊢
  cases ends
  · simp only [Bool.false_eq_true, if_false] at h ⊢
    by_cases h3 : m = l.length
    · rw [if_pos h3] at h; cases h
    rw [if_neg h3] at h ⊢
    by_cases h4 : 2 < l.getD m 0
    · rw [if_pos h4] at h; cases h
    rw [if_neg h4]
    simp only; omega
  · simp only [if_true] at h ⊢; omega
/-- What is yielded from a place on. -/
def seqL (l : List Nat) (ends : Bool) : Nat → Nat → List (Fi × Int)
  | 0, _ => []
  | n + 1, k => if l.length ≤ k then [] else ((filtV l k ends).1, (filtV l k ends).2.2) :: if (filtV l k ends).2.2 ≠ 0 then [] else seqL l ends n (filtV l k ends).2.1
theorem seqL_end {l : List Nat} {ends : Bool} {n k : Nat} (h : l.length ≤ k) : seqL l ends n k = [] := by
  cases n with
  | zero => rfl
  | succ n => rw [seqL, if_pos h]
theorem seqL_step {l : List Nat} {ends : Bool} {n k : Nat} (h : k < l.length) (hn : l.length - k ≤ n) : ∃ m, n = m + 1 ∧ seqL l ends n k = ((filtV l k ends).1, (filtV l k ends).2.2) :: if (filtV l k ends).2.2 ≠ 0 then [] else seqL l ends m (filtV l k ends).2.1 := by
  cases n with
  | zero => omega
  | succ n => exact ⟨n, rfl, by rw [seqL, if_neg (by omega)]⟩
/-- What comes of it, with room for n more. -/
def seqR : List (Fi × Int) → Nat → List Fi → List Fi × Int
  | [], _, acc => if acc = [] then ([], 4) else (acc, 0)
  | _ :: _, 0, _ => ([], 6)
  | x :: t, n + 1, acc => if x.2 ≠ 0 then ([], x.2) else seqR t n (acc ++ [x.1])
theorem seqR_done (S : List (Fi × Int)) (n : Nat) (acc : List Fi) (h : ∀ x ∈ S, x.2 = 0) (hl : S.length ≤ n) : seqR S n acc = if acc ++ S.map Prod.fst = [] then ([], 4) else (acc ++ S.map Prod.fst, 0) := by
  induction S generalizing n acc with
  | nil => simp [seqR]
  | cons x t ih =>
    cases n with
    | zero => simp at hl
    | succ n =>
      rw [seqR, if_neg (by simpa using h x (by simp)), ih n _ (fun y hy => h y (List.mem_cons_of_mem _ hy)) (by simpa using hl)]
      simp
theorem seqR_full (S : List (Fi × Int)) (x : Fi × Int) (t : List (Fi × Int)) (n : Nat) (acc : List Fi) (h : ∀ x ∈ S, x.2 = 0) (hl : S.length = n) : seqR (S ++ x :: t) n acc = ([], 6) := by
  induction S generalizing n acc with
  | nil => simp at hl; subst hl; rfl
  | cons y u ih =>
    cases n with
    | zero => simp at hl
    | succ n =>
      rw [List.cons_append, seqR, if_neg (by simpa using h y (by simp)), ih n _ (fun y hy => h y (List.mem_cons_of_mem _ hy)) (by simpa using hl)]
theorem seqR_err (S : List (Fi × Int)) (x : Fi × Int) (t : List (Fi × Int)) (n : Nat) (acc : List Fi) (h : ∀ x ∈ S, x.2 = 0) (hl : S.length < n) (hx : x.2 ≠ 0) : seqR (S ++ x :: t) n acc = ([], x.2) := by
  induction S generalizing n acc with
  | nil =>
    cases n with
    | zero => simp at hl
    | succ n => rw [List.nil_append, seqR, if_pos hx]
  | cons y u ih =>
    cases n with
    | zero => simp at hl
    | succ n =>
      rw [List.cons_append, seqR, if_neg (by simpa using h y (by simp)), ih n _ (fun y hy => h y (List.mem_cons_of_mem _ hy)) (by simpa using hl)]
theorem seqR_len (S : List (Fi × Int)) (n : Nat) (acc : List Fi) : (seqR S n acc).1.length ≤ acc.length + n := by
  induction S generalizing n acc with
  | nil => rw [seqR]; split <;> simp
  | cons x t ih =>
    cases n with
    | zero => simp [seqR]
    | succ n =>
      rw [seqR]
      split
      · simp
      · have := ih n (acc ++ [x.1]); simp at this; omega
/-- What Of answers. -/
def ofW (l : List Nat) (ends : Bool) : List Fi × Int := seqR (seqL l ends (l.length + 1) 2) 8 []
def ofV (l : List Nat) (ends : Bool) : Int × List Fi × Int :=
  if (numV l).2 ≠ 0 then (0, [], (numV l).2) else if (ofW l ends).2 ≠ 0 then (0, [], (ofW l ends).2) else ((numV l).1, (ofW l ends).1, 0)
def OfP (r : Int × List Fi × Int) (w : World) (e : Ending) (w' : World) : Prop := ∃ v, e = .returned (.tuple #[.int .i64 r.1, v, .int .i64 r.2.2]) ∧ FisAt w' v r.2.1 ∧ Below w.heap.size w w'
def fisC (l : List Fi) : List Value := l.flatMap Fi.cells
theorem fisC_length (l : List Fi) : (fisC l).length = l.length * 2 := by
  induction l with
  | nil => rfl
  | cons f l ih => simp only [fisC, List.flatMap_cons, List.length_append] at ih ⊢; rw [ih]; simp [Fi.cells]; omega
theorem fisC_get (l : List Fi) : ∀ (i : Nat) (f : Fi), l[i]? = some f → (fisC l)[i * 2]? = some (.string f.t) ∧ (fisC l)[i * 2 + 1]? = some (.int .i64 f.q) := by
  induction l with
  | nil => intro i f h; simp at h
  | cons g l ih =>
    intro i f h
    cases i with
    | zero => simp at h; subst h; simp [fisC, Fi.cells]
    | succ i =>
      obtain ⟨h1, h2⟩ := ih i f (by simpa using h)
      have e : (i + 1) * 2 = i * 2 + 1 + 1 := by omega
      rw [e]
      have z : fisC (g :: l) = .string g.t :: .int .i64 g.q :: fisC l := by simp [fisC, Fi.cells]
      rw [z]
      simp only [List.getElem?_cons_succ]
      exact ⟨h1, h2⟩
theorem FisAt.of_own {w : World} {B : Nat} {v : Value} {l : List Fi} (h : w.ownsRow B 47 2 v l.length (fisC l)) (hl : l.length ≤ 9223372036854775807) : FisAt w v l := by
  obtain ⟨h1, h2⟩ := h
  rcases h2 with ⟨rfl, hn⟩ | ⟨g, cap, cur, hv, hb, hg, hnc, hcm, hcs, ht⟩
  · exact ⟨none, 0, by rw [hn], hl, .inl (List.eq_nil_of_length_eq_zero hn)⟩
  · refine ⟨_, cap, hv, hl, .inr ⟨g, 0, rfl, (Array.getElem?_eq_some_iff.1 hg).1, fun i f hi => ?_⟩⟩
    obtain ⟨x1, x2⟩ := fisC_get l i f hi
    rw [cell_of_row w g _ cur 47 (0, 0) hg, cell_of_row w g _ cur 47 (0, 0) hg, Nat.zero_add]
    rw [← ht, List.getElem?_take] at x1 x2
    split at x1
    · split at x2
      · exact ⟨by simpa using x1, by simpa using x2⟩
      · cases x2
    · cases x1
theorem cell_two_new (w : World) (x y : Value) (t : TypeId) : ∀ j u, [x, y][j]? = some u → (w.alloc (.cells #[x, y] t)).cell? ((⟨w.heap.size, 0, none⟩ : Addr).add j) = some u := by
  intro j u hj
  match j, hj with
  | 0, hj => simp at hj; subst hj; simp [Addr.add]
  | 1, hj => simp at hj; subst hj; simp [Addr.add]
theorem info47 : (Try.prog.info? 47).map (fun i => (i.zero, i.size, i.bytes)) = some (some (.agg #[.string ByteArray.empty, .int .i64 0]), 2, 24) := by kernel_rfl
end Go.Proofs.Ytkohlbafpljfjaa
