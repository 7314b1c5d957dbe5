/-
  AN ARRAY OF EIGHT NUMBERS THAT CAME IN.
-/
import Derived.Test.YtcjoemejoeekiaaCom
import Derived.Test.YtcjoemejoeekiaaRows
import Derived.OpenShut
import Derived.WideShapes
namespace Go.Proofs.Ytcjoemejoeekiaa
open Go.RowKit Go.ChangeShapes Go.WideShapes Go.ChangeAt
theorem cells46 : Try.prog.cellsOf 46 = 1 := by kernel_rfl
theorem cells50 : Try.prog.cellsOf 50 = 8 := by kernel_rfl
set_option maxRecDepth 100000 in
theorem open_arr8 {H : Type} {enc : TypeId × Value → H} {W : World} {base b2 : Nat} {sp : Nat → Bool} {held : Bool} {v : Value} {d : DataW H} {ps : List MemPlace} (hv : Value.okWide Try.prog W .any base 50 v) (h : DataW.Trod enc Try.prog W b2 sp held 50 v d ps) :
    ∃ x0 x1 x2 x3 x4 x5 x6 x7 : Int, v = .agg #[.int .u16 x0, .int .u16 x1, .int .u16 x2, .int .u16 x3, .int .u16 x4, .int .u16 x5, .int .u16 x6, .int .u16 x7] ∧ (0 ≤ x0 ∧ x0 ≤ 65535) ∧ (0 ≤ x1 ∧ x1 ≤ 65535) ∧ (0 ≤ x2 ∧ x2 ≤ 65535) ∧ (0 ≤ x3 ∧ x3 ≤ 65535) ∧ (0 ≤ x4 ∧ x4 ≤ 65535) ∧ (0 ≤ x5 ∧ x5 ≤ 65535) ∧ (0 ≤ x6 ∧ x6 ≤ 65535) ∧ (0 ≤ x7 ∧ x7 ≤ 65535) := by
  obtain ⟨cs, rfl, hsz⟩ : ∃ cs, v = .agg cs ∧ cs.size = Try.prog.cellsOf 50 := by
    simp only [Value.okWide, Try.underlying50] at hv
    obtain ⟨cs, h1, h2, _⟩ := hv
    exact ⟨cs, h1, h2⟩
  rw [cells50] at hsz
  obtain ⟨fuel, hf⟩ := h
  obtain ⟨xs, m, _, ex, hlen, hl, hel⟩ := DataW.trod_array Try.underlying50 hf
  have E : ∀ i, i < 8 → ∃ x : Int, cs.toList[i]? = some (.int .u16 x) ∧ 0 ≤ x ∧ x ≤ 65535 := by
    intro i hi
    have hE := hel i hi
    rw [cells46, Nat.mul_one, List.getElem?_eq_getElem (by omega)] at hE
    obtain ⟨z, e1, e2, hw⟩ := DataW.trod_int Try.underlying46 hE
    have h0 : ((cs.toList.drop i).take 1)[0]? = some (.int .u16 z) := by
      have e1' : (cs.toList.drop i).take 1 = [.int .u16 z] := e1
      rw [e1']; rfl
    have hb := wf_u16 hw
    exact ⟨z, by simpa using h0, hb.1, hb.2⟩
  obtain ⟨l⟩ := cs
  have hl8 : l.length = 8 := by simpa using hsz
  obtain ⟨x0, e0, r0⟩ := E 0 (by omega)
  obtain ⟨x1, e1, r1⟩ := E 1 (by omega)
  obtain ⟨x2, e2, r2⟩ := E 2 (by omega)
  obtain ⟨x3, e3, r3⟩ := E 3 (by omega)
  obtain ⟨x4, e4, r4⟩ := E 4 (by omega)
  obtain ⟨x5, e5, r5⟩ := E 5 (by omega)
  obtain ⟨x6, e6, r6⟩ := E 6 (by omega)
  obtain ⟨x7, e7, r7⟩ := E 7 (by omega)
  refine ⟨x0, x1, x2, x3, x4, x5, x6, x7, ?_, r0, r1, r2, r3, r4, r5, r6, r7⟩
  have : l = [.int .u16 x0, .int .u16 x1, .int .u16 x2, .int .u16 x3, .int .u16 x4, .int .u16 x5, .int .u16 x6, .int .u16 x7] := by
    apply List.ext_getElem?
    intro j
    by_cases hj : j < 8
    · rcases (by omega : j = 0 ∨ j = 1 ∨ j = 2 ∨ j = 3 ∨ j = 4 ∨ j = 5 ∨ j = 6 ∨ j = 7) with rfl | rfl | rfl | rfl | rfl | rfl | rfl | rfl
      · exact e0
      · exact e1
      · exact e2
      · exact e3
      · exact e4
      · exact e5
      · exact e6
      · exact e7
    · rw [List.getElem?_eq_none (by omega), List.getElem?_eq_none (by simp; omega)]
  rw [this]
end Go.Proofs.Ytcjoemejoeekiaa
