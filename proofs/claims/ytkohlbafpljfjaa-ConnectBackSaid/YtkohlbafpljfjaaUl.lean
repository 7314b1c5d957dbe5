/-
  LAYER 4: texts one behind the other, plain.
-/
import Derived.Test.YtkohlbafpljfjaaUk
namespace Go.Proofs.Ytkohlbafpljfjaa
set_option linter.unusedSimpArgs false
set_option linter.unusedVariables false
open Go.RowKit

theorem gB_left (a b : ByteArray) (k : Nat) (h : k < a.size) : gB (a ++ b) k = gB a k := by
  have h2 : k < (a ++ b).size := by rw [ByteArray.size_append]; omega
  rw [← gB_at _ _ h2, ← gB_at _ _ h, ByteArray.getElem_append_left h]
theorem gB_right (a b : ByteArray) (k : Nat) (h : k < b.size) : gB (a ++ b) (a.size + k) = gB b k := by
  have h2 : a.size + k < (a ++ b).size := by rw [ByteArray.size_append]; omega
  rw [← gB_at _ _ h2, ← gB_at _ _ h, ByteArray.getElem_append_right (by omega)]
  simp
theorem join_right (a b : ByteArray) (ha : rightB a = true) (hb : rightB b = true) (h : a.size + b.size ≤ 65535) : rightB (a ++ b) = true := by
  unfold rightB at *
  simp only [Bool.and_eq_true, decide_eq_true_eq] at *
  refine ⟨by rw [ByteArray.size_append]; omega, ?_⟩
  have ra := (rtB_iff a).1 ha.2
  have rb := (rtB_iff b).1 hb.2
  refine (rtB_iff _).2 (Rgt.join (m := b.size) (by rw [ByteArray.size_append]) (fun k hk => gB_left a b k hk) ra (by omega) ?_)
  have := Rgt.shift (d := a.size) (g' := gB (a ++ b)) (n' := (a ++ b).size) (by rw [ByteArray.size_append]) (fun k hk => gB_right a b k hk) rb
  simpa using this
theorem join_bad (a b : ByteArray) (ha : rightB a = true) (hb : 0 < b.size) (hc : 128 ≤ gB b 0 ∧ gB b 0 ≤ 191) : rightB (a ++ b) = false := by
  cases hr : rightB (a ++ b) with
  | false => rfl
  | true =>
    exfalso
    unfold rightB at *
    simp only [Bool.and_eq_true, decide_eq_true_eq] at *
    have ra := (rtB_iff a).1 ha.2
    have rr := (rtB_iff _).1 hr.2
    have rc := Rgt.cut (m := b.size) (by rw [ByteArray.size_append]) (fun k hk => gB_left a b k hk) ra (by omega) rr
    have := (rc.inv (by rw [ByteArray.size_append]; omega)).1
    have g0 := gB_right a b 0 hb
    exact this (wd_tail0 _ _ _ (by rw [show a.size = a.size + 0 from rfl, g0]; exact hc))
theorem join_nul (a b : ByteArray) (hb : 0 < b.size) (hc : gB b 0 = 0) : rightB (a ++ b) = false := by
  cases hr : rightB (a ++ b) with
  | false => rfl
  | true =>
    exfalso
    unfold rightB at *
    simp only [Bool.and_eq_true, decide_eq_true_eq] at *
    have rr := (rtB_iff _).1 hr.2
    have g0 := gB_right a b 0 hb
    exact Rgt.noNul (d := a.size) (by rw [ByteArray.size_append]; omega) (by rw [show a.size = a.size + 0 from rfl, g0]; exact hc) rr (by omega)
end Go.Proofs.Ytkohlbafpljfjaa
