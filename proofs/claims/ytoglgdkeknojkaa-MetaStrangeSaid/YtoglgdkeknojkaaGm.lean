/-
  LAYER 1: what Get's rounds add up to.
-/
import Derived.Test.YtoglgdkeknojkaaGd
namespace Go.Proofs.Ytoglgdkeknojkaa
open Go.RowKit Go.Shelf

theorem pow128 (i : Nat) : (2 : Nat) ^ (7 * i) = 128 ^ i := by rw [Nat.pow_mul]
theorem or_shift (n i c : Nat) (hi : i ≤ 9) (hn : n < 128 ^ i) (hc : c * 128 ^ i ≤ 18446744073709551615) : bits .or .u64 (n : Int) (shl7 i c) = ((n + c * 128 ^ i : Nat) : Int) := by
  have hp : (128 : Nat) ^ i ≤ 128 ^ 9 := Nat.pow_le_pow_right (by decide) hi
  have e : shl7 i c = ((c * 128 ^ i : Nat) : Int) := by
    unfold shl7
    rw [Nat.min_eq_left (by omega), IntKind.wrap_u64, show (2 : Int) ^ (7 * i) = ((2 ^ (7 * i) : Nat) : Int) from by simp, pow128, ← Int.natCast_mul]
    omega
  rw [e, u64_or_nat _ _ (by omega) (by omega), Nat.or_comm, nat_join (7 * i) _ _ (by rw [pow128]; exact Nat.mul_mod_left _ _) (by rw [pow128]; exact hn), Nat.add_comm]

section
variable (l : List Nat) (h : ∀ x ∈ l, x < 256) (hl : l.length ≤ 140737488355328) (k0 : Nat)
def accK : Nat → Nat
  | 0 => 0
  | k + 1 => accK k + (l.getD (k0 + k) 0 - 128) * 128 ^ k

theorem byte_lt (h : ∀ x ∈ l, x < 256) (j : Nat) : l.getD j 0 < 256 := by
  rw [List.getD_eq_getElem?_getD]
  cases e : l[j]? with
  | none => simp
  | some x => exact h x (List.mem_of_getElem? e)

theorem accF_upto : ∀ k, k ≤ 9 → (∀ j, j < k → 128 ≤ l.getD (k0 + j) 0) → accF (upto (ib l h hl k0) k) = (accK l k0 k : Int) ∧ accK l k0 k < 128 ^ k
  | 0, _, _ => ⟨rfl, by simp [accK]⟩
  | k + 1, hk, hj => by
    obtain ⟨e, hlt⟩ := accF_upto k (by omega) (fun j hj' => hj j (by omega))
    have hc := hj k (by omega)
    have hc2 := byte_lt l h (k0 + k)
    have hp : (128 : Nat) ^ k ≤ 128 ^ 8 := Nat.pow_le_pow_right (by decide) (by omega)
    have hmul : (l.getD (k0 + k) 0 - 128) * 128 ^ k ≤ 127 * 128 ^ k := Nat.mul_le_mul_right _ (by omega)
    have e1 : (ib l h hl k0 k).1.1 = k := Nat.min_eq_left (by omega)
    have e2 : (ib l h hl k0 k).1.2 % 128 = l.getD (k0 + k) 0 - 128 := by show l.getD (k0 + k) 0 % 128 = _; omega
    refine ⟨?_, ?_⟩
    · rw [upto_succ, accF_snoc, e, e1, e2, or_shift _ _ _ (by omega) hlt (by omega)]
      rfl
    · show accK l k0 k + (l.getD (k0 + k) 0 - 128) * 128 ^ k < 128 ^ (k + 1)
      rw [Nat.pow_succ]
      omega

theorem getF_goes (hk0 : k0 ≤ l.length) : ∀ k, k ≤ l.length - k0 → (∀ j, j < k → 128 ≤ l.getD (k0 + j) 0 ∧ ¬ (j = 9 ∧ 1 < l.getD (k0 + j) 0)) → getF 0 0 (l.drop k0) = getF k (accK l k0 k) (l.drop (k0 + k))
  | 0, _, _ => rfl
  | k + 1, hk, hj => by
    rw [getF_goes hk0 k (by omega) (fun j hj' => hj j (by omega)), List.drop_eq_getElem_cons (show k0 + k < l.length by omega)]
    obtain ⟨h1, h2⟩ := hj k (by omega)
    have e : l.getD (k0 + k) 0 = l[k0 + k]'(by omega) := by simp [List.getD, List.getElem?_eq_getElem (show k0 + k < l.length by omega)]
    rw [e] at h1 h2
    conv => lhs; rw [getF]
    rw [if_neg h2, if_neg (by omega), ← e]
    rfl

theorem goes_nine (k : Nat) (hj : ∀ j, j < k → 128 ≤ l.getD (k0 + j) 0 ∧ ¬ (j = 9 ∧ 1 < l.getD (k0 + j) 0)) : k ≤ 9 := by
  by_cases h9 : 9 < k
  · have := hj 9 h9
    omega
  · omega

theorem upto_goes {k : Nat} (hk : k ≤ 140737488355328) (hg : ∀ x ∈ upto (ib l h hl k0) k, Goes x) (j : Nat) (hj : j < k) : 128 ≤ l.getD (k0 + j) 0 ∧ ¬ (j = 9 ∧ 1 < l.getD (k0 + j) 0) := by
  have := hg (ib l h hl k0 j) (by simp only [upto, List.mem_map, List.mem_range]; exact ⟨j, hj, rfl⟩)
  obtain ⟨a, b⟩ := this
  have e1 : (ib l h hl k0 j).1.1 = j := Nat.min_eq_left (by omega)
  rw [e1] at b
  exact ⟨a, b⟩

theorem get_short (hk0 : k0 ≤ l.length) (hg : ∀ x ∈ upto (ib l h hl k0) (l.length - k0), Goes x) : getF 0 0 (l.drop k0) = (0, 0, 2) := by
  have hj := upto_goes l h hl k0 (by omega) hg
  rw [getF_goes l k0 hk0 (l.length - k0) (Nat.le_refl _) hj, show k0 + (l.length - k0) = l.length from by omega, List.drop_length]
  rfl
theorem get_at (hk0 : k0 ≤ l.length) {k : Nat} (hk : k < l.length - k0) (hg : ∀ x ∈ upto (ib l h hl k0) k, Goes x) :
    k ≤ 9 ∧ accF (upto (ib l h hl k0) k) = (accK l k0 k : Int) ∧ accK l k0 k < 128 ^ k ∧
      getF 0 0 (l.drop k0) = (if k = 9 ∧ 1 < l.getD (k0 + k) 0 then (0, 0, 3) else if l.getD (k0 + k) 0 < 128 then (accK l k0 k + l.getD (k0 + k) 0 * 128 ^ k, k + 1, 0) else getF (k + 1) (accK l k0 k + (l.getD (k0 + k) 0 - 128) * 128 ^ k) (l.drop (k0 + (k + 1)))) := by
  have hj := upto_goes l h hl k0 (by omega) hg
  have h9 := goes_nine l k0 k hj
  obtain ⟨e, hlt⟩ := accF_upto l h hl k0 k h9 (fun j hj' => (hj j hj').1)
  refine ⟨h9, e, hlt, ?_⟩
  rw [getF_goes l k0 hk0 k (by omega) hj, List.drop_eq_getElem_cons (show k0 + k < l.length by omega), getF]
  have e' : l.getD (k0 + k) 0 = l[k0 + k]'(by omega) := by simp [List.getD, List.getElem?_eq_getElem (show k0 + k < l.length by omega)]
  rw [← e']
  rfl
end
end Go.Proofs.Ytoglgdkeknojkaa
