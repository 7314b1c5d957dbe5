/-
  LAYER 15: there and back, plain.
-/
import Derived.Test.YtkohlbafpljfjaaSq
import Derived.Test.YtkohlbafpljfjaaSj
import Derived.Test.YtkohlbafpljfjaaUh
namespace Go.Proofs.Ytkohlbafpljfjaa
open Go.RowKit

/-- What is told again of a filter. -/
def bk (ends : Bool) (f : Fi) : Fi := if ends then ⟨f.t, 0⟩ else f
theorem fiE_zero {ends : Bool} {f : Fi} (h : fiE ends f = 0) : f.t.size ≤ 65535 ∧ rightB f.t = true ∧ (ends = false → 0 ≤ f.q ∧ f.q ≤ 2) := by
  unfold fiE at h
  by_cases a : ends = false ∧ (f.q < 0 ∨ 2 < f.q)
  · rw [if_pos a] at h; cases h
  rw [if_neg a] at h
  unfold txtE at h
  by_cases b : 65535 < f.t.size
  · rw [if_pos b] at h; cases h
  rw [if_neg b] at h
  refine ⟨by omega, ?_, fun e => ?_⟩
  · cases hr : rightB f.t
    · rw [hr] at h; simp at h
    · rfl
  · by_cases z : f.q < 0 ∨ 2 < f.q
    · exact absurd ⟨e, z⟩ a
    · omega
theorem fisL_lt {ends : Bool} {l : List Fi} (h : ∀ f ∈ l, fiE ends f = 0) : ∀ x ∈ fisL ends l, x < 256 := by
  intro x hx
  simp only [fisL, List.mem_flatMap] at hx
  obtain ⟨f, hf, hx⟩ := hx
  obtain ⟨h1, h2, h3⟩ := fiE_zero (h f hf)
  unfold fiL at hx
  rcases List.mem_append.1 hx with hx | hx
  · unfold rawL at hx
    rcases List.mem_append.1 hx with hx | hx
    · simp only [List.mem_cons, List.not_mem_nil, or_false] at hx
      rcases hx with rfl | rfl <;> omega
    · exact txt_lt _ _ hx
  · cases ends
    · simp at hx; have := h3 rfl; omega
    · simp at hx
theorem seq_back (ends : Bool) : ∀ (r : List Fi) (P : List Nat) (n : Nat), (∀ f ∈ r, fiE ends f = 0) → (P ++ fisL ends r).length - P.length ≤ n → seqL (P ++ fisL ends r) ends n P.length = r.map fun f => (bk ends f, 0) := by
  intro r
  induction r with
  | nil => intro P n _ _; exact seqL_end (by simp [fisL])
  | cons f r ih =>
    intro P n hr hn
    obtain ⟨h1, h2, h3⟩ := fiE_zero (hr f (by simp))
    have hr' : ∀ g ∈ r, fiE ends g = 0 := fun g hg => hr g (List.mem_cons_of_mem _ hg)
    have eL : P ++ fisL ends (f :: r) = (P ++ fiL ends f) ++ fisL ends r := by simp [fisL]
    have hfl : (fiL ends f).length = 2 + f.t.size + if ends then 0 else 1 := by unfold fiL; cases ends <;> simp [rawL_length]
    have hlt : P.length < (P ++ fisL ends (f :: r)).length := by rw [eL]; simp; omega
    obtain ⟨m, rfl, hst⟩ := seqL_step (ends := ends) hlt hn
    rw [hst]
    have hF : filtV (P ++ fisL ends (f :: r)) P.length ends = (bk ends f, (P ++ fiL ends f).length, 0) := by
      have eM : P ++ fisL ends (f :: r) = P ++ rawL f.t ++ ((if ends then [] else [f.q.toNat]) ++ fisL ends r) := by simp [fisL, fiL]
      have eg := get_mid P ((if ends then [] else [f.q.toNat]) ++ fisL ends r) f.t h1
      rw [if_pos h2] at eg
      unfold filtV
      rw [eM, eg]
      simp only [ne_eq, not_true, if_false, Int.toNat_natCast]
      cases ends
      · obtain ⟨q1, q2⟩ := h3 rfl
        simp only [Bool.false_eq_true, if_false]
        have hk : (P ++ rawL f.t ++ ([f.q.toNat] ++ fisL false r)).getD (P.length + (2 + f.t.size)) 0 = f.q.toNat := by
          have hlen : (P ++ rawL f.t).length = P.length + (2 + f.t.size) := by rw [List.length_append, rawL_length]
          rw [← hlen]
          simp [List.getD]
        rw [if_neg (by simp [rawL_length] <;> omega), hk, if_neg (by omega)]
        have hq : ((f.q.toNat : Nat) : Int) = f.q := by omega
        rw [hq]
        simp only [bk, List.length_append, hfl]
        simp <;> omega
      · simp only [if_true]
        simp only [bk, List.length_append, hfl]
        simp <;> omega
    rw [hF]
    simp only [ne_eq, not_true, if_false]
    rw [eL, ih (P ++ fiL ends f) m hr' (by rw [eL] at hn; simp only [List.length_append] at hn ⊢; omega)]
    rfl
theorem subs_back {id : Int} {l : List Fi} {ends : Bool} (h : putE id l ends = 0) : ofV (txtL (strB (putLs id l ends))) ends = (id, l.map (bk ends), 0) ∧ (strB (putLs id l ends)).size ≤ 4096 ∧ 1 ≤ l.length ∧ l.length ≤ 8 := by
  have hB : beginE id l.length = 0 := by
    unfold putE at h
    by_cases hB : beginE id l.length ≠ 0
    · rw [if_pos hB] at h; exact absurd h hB
    · exact Decidable.not_not.1 hB
  obtain ⟨h8, h0, h1, h2⟩ := begin_zero (by omega) hB
  have hF : firstF ends l = 0 := by
    unfold putE at h
    rw [if_neg (by simpa using hB)] at h
    by_cases ha : firstF ends l ≠ 0
    · rw [if_pos ha] at h; exact absurd h ha
    · exact Decidable.not_not.1 ha
  have hlen : ¬ 4096 < 2 + (fisL ends l).length := by
    unfold putE at h
    rw [if_neg (by simpa using hB), if_neg (by simpa using hF)] at h
    intro hc
    rw [if_pos hc] at h; cases h
  have hall := firstF_zero.1 hF
  have eL : putLs id l ends = [(id / 256).toNat, (id % 256).toNat] ++ fisL ends l := by unfold putLs; rw [if_pos h]
  have hlt : ∀ x ∈ putLs id l ends, x < 256 := by
    rw [eL]; intro x hx
    rcases List.mem_append.1 hx with hx | hx
    · simp only [List.mem_cons, List.not_mem_nil, or_false] at hx
      rcases hx with rfl | rfl <;> omega
    · exact fisL_lt hall x hx
  rw [strB_size, txtL_strB hlt, eL]
  have hll : ([(id / 256).toNat, (id % 256).toNat] ++ fisL ends l).length = 2 + (fisL ends l).length := by simp; omega
  refine ⟨?_, by rw [hll]; omega, by omega, by omega⟩
  have hnum : numV ([(id / 256).toNat, (id % 256).toNat] ++ fisL ends l) = (id, 0) := by
    unfold numV
    rw [if_neg (by rw [hll]; omega)]
    have g0 : ([(id / 256).toNat, (id % 256).toNat] ++ fisL ends l).getD 0 0 = (id / 256).toNat := rfl
    have g1 : ([(id / 256).toNat, (id % 256).toNat] ++ fisL ends l).getD 1 0 = (id % 256).toNat := rfl
    rw [g0, g1, if_neg (by omega)]
    have : ((256 * (id / 256).toNat + (id % 256).toNat : Nat) : Int) = id := by omega
    rw [this]
  have hs := seq_back ends l [(id / 256).toNat, (id % 256).toNat] (([(id / 256).toNat, (id % 256).toNat] ++ fisL ends l).length + 1) hall (by omega)
  have hw : ofW ([(id / 256).toNat, (id % 256).toNat] ++ fisL ends l) ends = (l.map (bk ends), 0) := by
    unfold ofW
    rw [show (2 : Nat) = [(id / 256).toNat, (id % 256).toNat].length from rfl, hs, seqR_done _ _ _ (by simp) (by simpa using by omega)]
    have : l ≠ [] := by intro e; subst e; simp at h0
    simp [this]
  unfold ofV
  rw [hnum, hw, if_neg (by simp), if_neg (by simp)]
end Go.Proofs.Ytkohlbafpljfjaa
