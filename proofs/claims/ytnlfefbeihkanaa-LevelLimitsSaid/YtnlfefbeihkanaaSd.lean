/-
  LAYER 17: so long, so deep: closed texts.
-/
import Derived.Test.YtnlfefbeihkanaaSc
namespace Go.Proofs.Ytnlfefbeihkanaa
open Go.RowKit

def aS (n : Nat) : ByteArray := ⟨(List.replicate n 97).toArray⟩
def dL : Nat → List UInt8
  | 0 => [97]
  | k + 1 => dL k ++ [47, 97]
def dS (k : Nat) : ByteArray := ⟨(dL k).toArray⟩
theorem lim_a : ∀ n : Fin 256, nameB (aS n.val) = (decide (1 ≤ n.val) && decide (n.val ≤ 96)) ∧ filterB (aS n.val) = (decide (1 ≤ n.val) && decide (n.val ≤ 96)) := by decide +kernel
theorem lim_d : ∀ k : Fin 20, nameB (dS k.val) = decide (1 + k.val ≤ 12) ∧ filterB (dS k.val) = decide (1 + k.val ≤ 12) := by decide +kernel
theorem aS_size (n : Nat) : (aS n).size = n := by simp [aS, ByteArray.size]
theorem dL_length : ∀ k, (dL k).length = 1 + 2 * k
  | 0 => rfl
  | k + 1 => by rw [dL, List.length_append, dL_length k]; simp; omega
theorem dS_size (k : Nat) : (dS k).size = 1 + 2 * k := by simp [dS, ByteArray.size, dL_length]
theorem aS_asc (n : Nat) : Asc (aS n) := by
  intro c hc
  have := List.eq_of_mem_replicate (show c ∈ List.replicate n 97 from hc)
  subst this; decide
theorem dL_mem : ∀ k, ∀ c ∈ dL k, c = 97 ∨ c = 47
  | 0, c, h => by simp [dL] at h; exact .inl h
  | k + 1, c, h => by
    rw [dL] at h
    rcases List.mem_append.1 h with h | h
    · exact dL_mem k c h
    · simp at h; rcases h with rfl | rfl <;> simp
theorem dS_asc (k : Nat) : Asc (dS k) := by
  intro c hc
  rcases dL_mem k c hc with rfl | rfl <;> decide
theorem aS_succ (n : Nat) : aS n ++ ⟨#[97]⟩ = aS (n + 1) := by
  apply ba_ext
  simp [aS, ByteArray.data_append, List.replicate_succ']
theorem dS_succ (n : Nat) : dS n ++ ⟨#[47, 97]⟩ = dS (n + 1) := by
  apply ba_ext
  simp [dS, dL, ByteArray.data_append]
end Go.Proofs.Ytnlfefbeihkanaa
