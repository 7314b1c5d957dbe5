/-
  LAYER 30: New; the law's own awake.
-/
import Derived.Test.YtihblangceblhaaDoorAe
namespace Go.Proofs.YtihblangceblhaaDoor
set_option linter.unusedSimpArgs false
set_option linter.unusedVariables false
open Go.RowKit Go.Maps Go.WideMaps

theorem grown_ext {a b c : World} {m : Nat} (h : Below a.heap.size a b) (k : b.grownBy c (some m)) (hm : a.heap.size ≤ m) : Below a.heap.size a c :=
  h.grown k h.size (fun j hj => by cases hj; exact hm)
set_option maxRecDepth 100000 in
theorem new_any (w : World) : Calls Tryd.prog 15 #[] w fun e w' => e = .returned (.pointer (some ⟨w.heap.size + 1, 0, none⟩)) ∧ Tb w' (w.heap.size + 1) w.heap.size [] (.map []) ∧ Below w.heap.size w w' ∧ w'.heap.size = w.heap.size + 2 := by
  have hmm := @run_makeMap Tryd.prog
  go_enter Tryd.func15, Tryd.ntmps15
  go_wp2
  go_ret
  refine ⟨rfl, ⟨?_, ?_, rfl, by omega, List.Pairwise.nil, by simp, by simp, ?_⟩, ((Below.refl _ _).alloc (Nat.le_refl _) _).alloc (by simp) _, by simp⟩
  · have := heap_alloc_new (w.alloc (.map #[] 0)) (.cells #[.map (some w.heap.size)] 69)
    simpa using this
  · exact (World.ownsMap_made w Tryd.prog 23 mR).alloc _
  · exact fun a => ⟨fun e he => by simp at he, fun _ => rfl⟩
theorem its_lit (w : World) (f : It) : ItsAt (w.alloc (.cells f.cells.toArray 37)) (.slice (some ⟨w.heap.size, 0, none⟩) 1 1) [f] := by
  refine ⟨some ⟨w.heap.size, 0, none⟩, 1, rfl, by simp, .inr ⟨w.heap.size, 0, rfl, by simp, fun i g hi j u hu => ?_⟩⟩
  have hi0 : i = 0 := by
    have := (List.getElem?_eq_some_iff.1 hi).1
    simp at this; omega
  subst hi0
  simp at hi
  subst hi
  rw [World.cell?_alloc_at _ _ _ _ rfl]
  simpa using hu
def xI : It := ⟨⟨#[120]⟩, true, 1, 0, false, 0, 0, ⟨#[]⟩⟩
def yI : It := ⟨⟨#[121]⟩, true, 1, 0, false, 0, 0, ⟨#[]⟩⟩
def xE : En := ⟨1, ⟨#[]⟩, ⟨#[120]⟩⟩
theorem xI_ok : ∀ x ∈ [xI], x.ok := by intro x hx; simp at hx; subst hx; exact ⟨by decide, by decide, by decide, by decide, by decide, by decide⟩
theorem yI_ok : ∀ x ∈ [yI], x.ok := by intro x hx; simp at hx; subst hx; exact ⟨by decide, by decide, by decide, by decide, by decide, by decide⟩
theorem try1 : tryE [] ⟨#[]⟩ [xI] = 0 := by decide
theorem set1 : setT [] ⟨#[]⟩ [xI] = [xE] := by unfold setT; rw [if_pos try1]; rfl
theorem try2 : tryE [xE] ⟨#[100]⟩ [yI] = 16 := by decide
theorem set2 : setT [xE] ⟨#[100]⟩ [yI] = [xE] := by unfold setT; rw [if_neg (by rw [try2]; decide)]
theorem find1 : findV [xE] ⟨#[]⟩ 1 = (⟨#[120]⟩, true) := by decide
end Go.Proofs.YtihblangceblhaaDoor
