/-
  LAYER 15: the law's own: awake.
-/
import Derived.Test.YtkohlbafpljfjaaSo
namespace Go.Proofs.Ytkohlbafpljfjaa
set_option linter.unusedSimpArgs false
set_option linter.unusedVariables false
open Go.RowKit

def oneF : Fi := ⟨⟨#[97]⟩, 2⟩
theorem fis_lit (w : World) (f : Fi) : FisAt (w.alloc (.cells f.cells.toArray 47)) (.slice (some ⟨w.heap.size, 0, none⟩) 1 1) [f] := by
  refine ⟨some ⟨w.heap.size, 0, none⟩, 1, rfl, by simp, .inr ⟨w.heap.size, 0, rfl, by simp, fun i g hi => ?_⟩⟩
  have hi0 : i = 0 := by
    have := (List.getElem?_eq_some_iff.1 hi).1
    simp at this; omega
  subst hi0
  simp at hi
  subst hi
  exact ⟨by rw [World.cell?_alloc_at _ _ _ _ rfl]; rfl, by rw [World.cell?_alloc_at _ _ _ _ rfl]; rfl⟩
theorem putE1 : putE 1 [oneF] false = 0 := by decide
theorem putL1 : putLs 1 [oneF] false = [0, 1, 0, 1, 97, 2] := by decide
set_option maxHeartbeats 1000000 in
set_option maxRecDepth 100000 in
theorem awake_any (w : World) : Calls Try.prog 11 #[] w (Yes w) := by
  have P := Lib.hid (put9_any 1 _ [oneF] false _ (by decide) (fis_lit w oneF) (by intro f hf; simp at hf; subst hf; exact ⟨by decide, by decide, by decide⟩))
  rw [putE1, putL1] at P
  have b0 := Lib.hid (ext_alloc w (.cells oneF.cells.toArray 47))
  go_enter Try.func11, Try.ntmps11
  go_wp2_with fail
  refine (P.out).mono ?_
  rintro e w1 ⟨v1, rfl, s1, b1⟩
  have kc := s1.conv (P := Try.prog) Try.underlying23 Try.underlying5 Try.underlying9
  obtain ⟨a1, c1, rfl, -⟩ := s1
  replace kc : (convert 23 9 (.slice a1 6 c1)).run Try.prog w1 = .ok (.string ⟨#[0, 1, 0, 1, 97, 2]⟩) w1 := kc
  have B1 := Lib.hid (ext_trans b0.out b1)
  clear b1
  go_wp2_with fail
  go_ret
  exact ⟨rfl, B1.out⟩
end Go.Proofs.Ytkohlbafpljfjaa
