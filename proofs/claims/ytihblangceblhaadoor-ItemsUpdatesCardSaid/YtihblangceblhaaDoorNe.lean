/-
  LAYER 31: the two tables agree.
-/
import Derived.Test.YtihblangceblhaaDoorNd
namespace Go.Proofs.YtihblangceblhaaDoor
set_option linter.unusedVariables false
set_option linter.unusedSimpArgs false
open Go.RowKit
theorem setT_nil (o : ByteArray) (l : List It) : setT [] o l = rtsT o l := by unfold setT rtsT; simp [notO]
theorem rtsT_own {o : ByteArray} {l : List It} : ∀ e ∈ rtsT o l, e.o = o := by
  intro e he
  unfold rtsT at he
  split at he
  · exact ents_own e he
  · simp at he
theorem rf_eq {T : List En} {d : ByteArray} (h : ∀ e ∈ T, e.o = d) (o : ByteArray) (a : Int) : rfV T o a = findV T o a := by
  by_cases hd : o = d
  · subst hd
    have : T.find? (fun e => decide (e.o = o ∧ e.a = a)) = findT T a := by
      unfold findT
      induction T with
      | nil => rfl
      | cons x T ih =>
        have hx := h x (by simp)
        rw [List.find?_cons, List.find?_cons, ih (fun e he => h e (by simp [he]))]
        simp [hx]
    unfold rfV findV
    rw [this]
    cases hf : findT T a with
    | none => rfl
    | some e => simp [h e (findT_some hf).1]
  · have : T.find? (fun e => decide (e.o = o ∧ e.a = a)) = none := by
      refine List.find?_eq_none.2 fun x hx => ?_
      have := h x hx
      simp only [decide_eq_true_eq, not_and]
      intro e; exact absurd (e.symm.trans this) hd
    unfold rfV findV
    rw [this]
    cases hf : findT T a with
    | none => rfl
    | some e =>
      have := h e (findT_some hf).1
      simp only
      rw [if_neg (fun e' => hd (e'.symm.trans this))]
theorem tb_far {w w' : World} {g m x : Nat} {T : List En} {D : DataW Unit} (h : Tb w g m T D) (hg : w.grownBy w' (some x)) (n1 : x ≠ g) (n2 : x ≠ m) : Tb w' g m T D := by
  refine ⟨(hg.block g h.lt (by intro e; simp only [Option.some.injEq] at e; omega)).trans h.row, ?_, h.size, h.ne, h.nd, h.le, h.wf, h.rd⟩
  obtain ⟨es, clock, hm, r⟩ := h.map
  exact ⟨es, clock, (hg.block m h.map.lt (by intro e; simp only [Option.some.injEq] at e; omega)).trans hm, r⟩
/-- The document's table, new. -/
theorem tx_new {w : World} {B : Nat} : Tx (w.alloc (.cells #[.slice none 0 0] 49)) B w.heap.size [] (.slice none 0 0) :=
  ⟨by simpa using heap_alloc_new w (.cells #[.slice none 0 0] 49), by simpa [rwC] using World.ownsRow_nil _ _ _ _, by simp⟩
end Go.Proofs.YtihblangceblhaaDoor
