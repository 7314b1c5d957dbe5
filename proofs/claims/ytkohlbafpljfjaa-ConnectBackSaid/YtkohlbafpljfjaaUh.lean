/-
  LAYER 4: there and back, plain.
-/
import Derived.Test.YtkohlbafpljfjaaUf
namespace Go.Proofs.Ytkohlbafpljfjaa
set_option linter.unusedSimpArgs false
set_option linter.unusedVariables false
open Go.RowKit

theorem strB_txt (s : ByteArray) : strB (txtL s) = s := by
  obtain ⟨d⟩ := s
  unfold strB txtL
  congr 1
  rw [List.map_map]
  have : (UInt8.ofNat ∘ UInt8.toNat) = id := by funext x; simp
  rw [this]; simp
theorem txtL_length (s : ByteArray) : (txtL s).length = s.size := by unfold txtL; simp
theorem raw_mid (la lb : List Nat) (s : ByteArray) (h : s.size ≤ 65535) : rawV (la ++ rawL s ++ lb) la.length = (s, ((la.length + (2 + s.size) : Nat) : Int), 0) := by
  have hlen : (la ++ rawL s ++ lb).length = la.length + (2 + s.size) + lb.length := by simp [rawL_length]; omega
  have g0 : (la ++ rawL s ++ lb).getD la.length 0 = s.size / 256 := by
    rw [List.append_assoc]; simp [List.getD, List.getElem?_append, rawL]
  have g1 : (la ++ rawL s ++ lb).getD (la.length + 1) 0 = s.size % 256 := by
    rw [List.append_assoc]; simp [List.getD, List.getElem?_append, rawL]
  have e2 : get2V (la ++ rawL s ++ lb) la.length = ((s.size : Int), ((la.length + 2 : Nat) : Int), 0) := by
    unfold get2V
    rw [hlen, if_neg (by omega), if_neg (by omega), Int.toNat_natCast, g0, g1]
    rw [show 256 * (s.size / 256) + s.size % 256 = s.size from by omega]
    simp
  unfold rawV
  rw [e2, hlen]
  simp only [ne_eq, not_true, if_false, Int.toNat_natCast]
  rw [if_neg (by omega)]
  have : ((la ++ rawL s ++ lb).drop (la.length + 2)).take s.size = txtL s := by
    rw [List.append_assoc, List.drop_append, List.drop_eq_nil_of_le (by omega), show la.length + 2 - la.length = 2 from by omega]
    have e : rawL s ++ lb = s.size / 256 :: s.size % 256 :: (txtL s ++ lb) := rfl
    rw [e, List.nil_append, List.drop_succ_cons, List.drop_succ_cons, List.drop_zero, List.take_append_of_le_length (by rw [txtL_length]; omega), List.take_of_length_le (by rw [txtL_length]; omega)]
  rw [this, strB_txt]
  simp; omega
theorem get_mid (la lb : List Nat) (s : ByteArray) (h : s.size ≤ 65535) : getV (la ++ rawL s ++ lb) la.length = if rightB s = true then (s, ((la.length + (2 + s.size) : Nat) : Int), 0) else (ByteArray.empty, 0, 9) := by
  unfold getV
  rw [raw_mid la lb s h]
  cases rightB s <;> simp
end Go.Proofs.Ytkohlbafpljfjaa
