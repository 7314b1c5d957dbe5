/-
  LAYER 30: New; the law's own awake.
-/
import Derived.Test.YthbdddbmnfadiaaAe
namespace Go.Proofs.Ythbdddbmnfadiaa
open Go.RowKit Go.Maps Go.WideMaps

theorem grown_ext {a b c : World} {m : Nat} (h : Below a.heap.size a b) (k : b.grownBy c (some m)) (hm : a.heap.size ≤ m) : Below a.heap.size a c :=
  h.grown k h.size (fun j hj => by cases hj; exact hm)
set_option maxRecDepth 100000 in
theorem new_any (w : World) : Calls Try.prog 7 #[] w fun e w' => e = .returned (.pointer (some ⟨w.heap.size + 1, 0, none⟩)) ∧ Tb w' (w.heap.size + 1) w.heap.size [] (.map []) ∧ Below w.heap.size w w' ∧ w'.heap.size = w.heap.size + 2 := by
  have hmm := @run_makeMap Try.prog
  go_enter Try.func7, Try.ntmps7
  go_wp2
  go_ret
  refine ⟨rfl, ⟨?_, ?_, rfl, by omega, List.Pairwise.nil, by simp, by simp, ?_⟩, ((Below.refl _ _).alloc (Nat.le_refl _) _).alloc (by simp) _, by simp⟩
  · have := heap_alloc_new (w.alloc (.map #[] 0)) (.cells #[.map (some w.heap.size)] 56)
    simpa using this
  · exact (World.ownsMap_made w Try.prog 23 mR).alloc _
  · exact fun a => ⟨fun e he => by simp at he, fun _ => rfl⟩
theorem its_lit (w : World) (f : It) : ItsAt (w.alloc (.cells f.cells.toArray 52)) (.slice (some ⟨w.heap.size, 0, none⟩) 1 1) [f] := by
  refine ⟨some ⟨w.heap.size, 0, none⟩, 1, rfl, by simp, .inr ⟨w.heap.size, 0, rfl, by simp, fun i g hi j u hu => ?_⟩⟩
  have hi0 : i = 0 := by
    have := (List.getElem?_eq_some_iff.1 hi).1
    simp at this; omega
  subst hi0
  simp at hi
  subst hi
  rw [World.cell?_alloc_at _ _ _ _ rfl]
  simpa using hu
def xI : It := ⟨⟨#[120]⟩, true, 1, 0, false, 0, 0, ⟨#[]⟩⟩
def yI : It := ⟨⟨#[121]⟩, true, 1, 0, false, 0, 0, ⟨#[]⟩⟩
def xE : En := ⟨1, ⟨#[]⟩, ⟨#[120]⟩⟩
theorem xI_ok : ∀ x ∈ [xI], x.ok := by intro x hx; simp at hx; subst hx; exact ⟨by decide, by decide, by decide, by decide, by decide, by decide⟩
theorem yI_ok : ∀ x ∈ [yI], x.ok := by intro x hx; simp at hx; subst hx; exact ⟨by decide, by decide, by decide, by decide, by decide, by decide⟩
theorem try1 : tryE [] ⟨#[]⟩ [xI] = 0 := by decide
theorem set1 : setT [] ⟨#[]⟩ [xI] = [xE] := by unfold setT; rw [if_pos try1]; rfl
theorem try2 : tryE [xE] ⟨#[100]⟩ [yI] = 16 := by decide
theorem set2 : setT [xE] ⟨#[100]⟩ [yI] = [xE] := by unfold setT; rw [if_neg (by rw [try2]; decide)]
theorem find1 : findV [xE] ⟨#[]⟩ 1 = (⟨#[120]⟩, true) := by decide
set_option maxHeartbeats 1000000 in
set_option maxRecDepth 100000 in
theorem awake_any (w : World) : Calls Try.prog 8 #[] w (Yes w) := by
  go_enter Try.func8, Try.ntmps8
  go_wp2_with fail
  refine (new_any w).mono ?_
  rintro e w1 ⟨rfl, t1, b1, z1⟩
  have t1' := t1.keep (ext_alloc w1 (.cells xI.cells.toArray 52))
  have S1 := set_any t1' ⟨#[]⟩ _ [xI] (its_lit w1 xI) xI_ok (by simp)
  unfold SetP at S1
  rw [try1, set1] at S1
  replace S1 := Lib.hid S1
  have B1 := Lib.hid (b1.alloc b1.size (.cells xI.cells.toArray 52))
  clear t1 t1'
  replace b1 := Lib.hid b1
  replace z1 := Lib.hid z1
  go_wp2_with fail
  refine S1.out.mono ?_
  rintro e w2 ⟨rfl, ⟨D2, t2⟩, g2⟩
  have B2 := Lib.hid (B1.out.grown g2 B1.out.size (fun j hj => by cases hj; exact Nat.le_refl _))
  have t2' := t2.keep (ext_alloc w2 (.cells yI.cells.toArray 52))
  have S2 := set_any t2' ⟨#[100]⟩ _ [yI] (its_lit w2 yI) yI_ok (by simp)
  unfold SetP at S2
  rw [try2, set2] at S2
  replace S2 := Lib.hid S2
  have B2' := Lib.hid (B2.out.alloc B2.out.size (.cells yI.cells.toArray 52))
  clear t2 t2' g2
  go_wp2_with fail
  refine S2.out.mono ?_
  rintro e w3 ⟨rfl, ⟨D3, t3⟩, g3⟩
  have B3 := Lib.hid (B2'.out.grown g3 B2'.out.size (fun j hj => by cases hj; exact Nat.le_refl _))
  have F := find_any t3 ⟨#[]⟩ 1 (by decide)
  rw [find1] at F
  replace F := Lib.hid F
  replace t3 := Lib.hid t3
  clear g3
  go_wp2_with fail
  refine F.out.mono ?_
  rintro e w4 ⟨rfl, b4⟩
  have L := Lib.hid (len_any (t3.out.keep b4))
  have B4 := Lib.hid (ext_trans B3.out b4)
  clear b4
  go_wp2_with fail
  refine L.out.mono ?_
  rintro e w5 ⟨rfl, rfl⟩
  go_wp2_with fail
  go_ret
  exact ⟨rfl, B4.out⟩
end Go.Proofs.Ythbdddbmnfadiaa
