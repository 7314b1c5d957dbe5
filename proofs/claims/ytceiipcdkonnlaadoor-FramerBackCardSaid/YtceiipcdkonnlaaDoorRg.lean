/-
  LAYER 11: what was put is got.
-/
import Derived.Test.YtceiipcdkonnlaaDoorRf
namespace Go.Proofs.YtceiipcdkonnlaaDoor
set_option linter.unusedSimpArgs false
set_option linter.unusedVariables false
open Go.RowKit

theorem putB_length (K F n : Nat) : (putB K F n).length = if n < 128 then 2 else 3 := by unfold putB; split <;> rfl
theorem putB_lt (K F n : Nat) (hK : K ≤ 14) (hF : F ≤ 15) (hn : n ≤ 4096) : ∀ x ∈ putB K F n, x < 256 := by
  unfold putB
  intro x hx
  split at hx
  · simp at hx; omega
  · simp at hx; omega
theorem getD_mid (la r : List Nat) (h : Nat) : (la ++ h :: r).getD la.length 0 = h := by simp [List.getD]
/-- What Get answers at a head that Put laid, behind anything and ahead of anything. -/
theorem getV_mid (la lb : List Nat) (K F n : Nat) (hE : RightF K F = 0) (hn : n ≤ 4096) :
    getV (la ++ putB K F n ++ lb) la.length = HV K F n ((la.length : Int) + ((putB K F n).length : Int)) 0 := by
  obtain ⟨q1, q2, q3, q4⟩ := right_zero hE
  have hd : ∃ r, putB K F n = (16 * K + F) :: r ∧ lenF 4 0 0 (r ++ lb) = (n, (putB K F n).length - 1, 0) ∧ 1 ≤ (putB K F n).length := by
    unfold putB
    split
    · rename_i h
      refine ⟨[n], rfl, ?_, by simp⟩
      simp only [List.cons_append, List.nil_append, lenF]
      rw [if_pos h, if_pos (by omega)]
      simp
    · rename_i h
      refine ⟨[n % 128 + 128, n / 128], rfl, ?_, by simp⟩
      simp only [List.cons_append, List.nil_append, lenF]
      rw [if_neg (by omega), if_pos (by omega), if_pos (by omega)]
      refine Prod.ext ?_ rfl
      show 0 + (n % 128 + 128 - 128) * 128 ^ 0 + n / 128 * 128 ^ (0 + 1) = n
      omega
  obtain ⟨r, hr, hl, hlen⟩ := hd
  have hne : la.length ≠ (la ++ putB K F n ++ lb).length := by
    intro h
    rw [List.length_append, List.length_append] at h
    omega
  have hg : (la ++ putB K F n ++ lb).getD la.length 0 = 16 * K + F := by
    rw [hr, List.append_assoc, List.cons_append]
    exact getD_mid la _ _
  have hdrop : (la ++ putB K F n ++ lb).drop (la.length + 1) = r ++ lb := by
    rw [hr, List.append_assoc, List.cons_append, List.drop_append]
    simp
  unfold getV
  rw [if_neg hne, hg, hdrop, hl, show (16 * K + F) / 16 = K from by omega, show (16 * K + F) % 16 = F from by omega, hE]
  simp only [ne_eq, not_true_eq_false, if_false, if_true]
  rw [show (la.length : Int) + 1 + (((putB K F n).length - 1 : Nat) : Int) = (la.length : Int) + ((putB K F n).length : Int) from by omega]
/-- .. cut anywhere it is too short. -/
theorem getV_cut (K F n m : Nat) (hE : RightF K F = 0) (hm : m < (putB K F n).length) : getV ((putB K F n).take m) 0 = HV 0 0 0 0 2 := by
  obtain ⟨q1, q2, q3, q4⟩ := right_zero hE
  have key : ∀ h : Nat, h / 16 = K → h % 16 = F → getV [h] 0 = HV 0 0 0 0 2 ∧ (128 ≤ n → getV [h, n % 128 + 128] 0 = HV 0 0 0 0 2) := by
    intro h h1 h2
    refine ⟨?_, fun hn => ?_⟩
    · unfold getV
      simp only [List.length_cons, List.length_nil, List.getD_cons_zero, h1, h2, hE]
      simp [lenF]
    · unfold getV
      simp only [List.length_cons, List.length_nil, List.getD_cons_zero, h1, h2, hE]
      simp [lenF, show ¬ (n % 128 + 128 < 128) from by omega]
  obtain ⟨k1, k2⟩ := key (16 * K + F) (by omega) (by omega)
  rw [putB_length] at hm
  unfold putB
  split
  · rename_i h
    rw [if_pos h] at hm
    rcases (by omega : m = 0 ∨ m = 1) with rfl | rfl
    · rfl
    · exact k1
  · rename_i h
    rw [if_neg h] at hm
    rcases (by omega : m = 0 ∨ m = 1 ∨ m = 2) with rfl | rfl | rfl
    · rfl
    · exact k1
    · exact k2 (by omega)
end Go.Proofs.YtceiipcdkonnlaaDoor
