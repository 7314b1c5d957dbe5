/-
  LAYER 12: two lists that hold the same.
-/
import Derived.Test.YtceiipcdkonnlaaDoorTm
namespace Go.Proofs.YtceiipcdkonnlaaDoor
open Go.RowKit
set_option linter.unusedVariables false
set_option linter.unusedSimpArgs false
set_option maxHeartbeats 8000000 in
set_option maxRecDepth 100000 in
theorem same_any {w : World} {va vb : Value} {P : List Rw} (ha : RwsAt w va P) (hb : RwsAt w vb P) : Calls Tryd.prog 18 #[va, vb] w (Yes w) := by
  obtain ⟨aa, ca, rfl, hla, hca⟩ := ha
  obtain ⟨ab, cb, rfl, hlb, hcb⟩ := hb
  have hl' : (P.length : Int) ≤ 140737488351232 := by omega
  replace hca := Lib.hid hca
  replace hcb := Lib.hid hcb
  clear hla hlb
  go_enter Tryd.func18, Tryd.ntmps18
  go_wp2_with fail
  go_loopw [5] (fun iv wr => ∃ i : Nat, iv = .int .i64 (i : Int) ∧ i ≤ P.length ∧ Below w.heap.size w wr) (fun iv _ => P.length - (intOf iv).toNat)
  case atStart => exact ⟨0, rfl, by omega, Below.refl _ _⟩
  case round =>
    obtain ⟨i, rfl, hi, hbw⟩ := hrel
    by_cases hlt : i < P.length
    · have hlt' : (i : Int) < (P.length : Int) := by omega
      obtain ⟨y, hy⟩ : ∃ y, P[i]? = some y := ⟨_, List.getElem?_eq_getElem hlt⟩
      obtain ⟨b1, o1, rfl, -, c0, c1, c2, c3⟩ := rwsAt_at hy hbw hca.out
      obtain ⟨b2, o2, rfl, -, e0, e1, e2, e3⟩ := rwsAt_at hy hbw hcb.out
      have HB := Lib.hid hbw
      clear hbw hy
      go_wp2_with fail
      go_quiet (fail)
      go_wp2_with fail
      go_roundw
      case rel => exact ⟨i + 1, by simp, by omega, below_drewN HB.out _⟩
      case measure => simp [intOf]; omega
    · have hlt' : ¬ (i : Int) < (P.length : Int) := by omega
      have HB := Lib.hid hbw
      clear hbw
      go_wp2_with fail
      go_ret
      exact ⟨rfl, HB.out⟩
end Go.Proofs.YtceiipcdkonnlaaDoor
