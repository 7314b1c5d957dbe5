/-
  LAYER 22: a queue as one fact; Put and Take over it.
-/
import Derived.Test.YtceiipcdkonnlaaQa
import Derived.Test.YtceiipcdkonnlaaMs
import Derived.Lib.Hide
namespace Go.Proofs.Ytceiipcdkonnlaa
set_option linter.unusedSimpArgs false
set_option linter.unusedVariables false
def Mg.v (m : Mg) : Value := .agg #[.string m.a0, .string m.a1, .int .i64 m.a2, .bool m.a3]
def mZ : Mg := ⟨{ data := #[] }, { data := #[] }, 0, false⟩
end Go.Proofs.Ytceiipcdkonnlaa
namespace Go.Proofs.Ytceiipcdkonnlaa.Quu
open Go.RowKit
def bufOf (l : List Mg) : Array Value := (l.map Mg.v).toArray
/-- The queue in block g, whose channel is block c. -/
structure Qu (w : World) (g c cap : Nat) (l : List Mg) (lost : Int) : Prop where
  row : w.heap[g]? = some (.cells #[.chan (some c), .int .i64 lost] 88 (0, 0))
  ch : ∃ s r, w.heap[c]? = some (.chan cap (bufOf l) false s r false)
theorem bufOf_size (l : List Mg) : (bufOf l).size = l.length := by simp [bufOf]
section
variable {w w' : World} {g c cap : Nat} {l : List Mg} {lost : Int}
theorem Qu.lt (h : Qu w g c cap l lost) : g < w.heap.size := (Array.getElem?_eq_some_iff.1 h.row).1
theorem Qu.clt (h : Qu w g c cap l lost) : c < w.heap.size := by obtain ⟨s, r, h⟩ := h.ch; exact (Array.getElem?_eq_some_iff.1 h).1
theorem Qu.ne (h : Qu w g c cap l lost) : g ≠ c := by
  rintro rfl
  obtain ⟨s, r, hc⟩ := h.ch
  have := h.row.symm.trans hc
  cases this
theorem Qu.c0 (h : Qu w g c cap l lost) : w.cell? ⟨g, 0, none⟩ = some (.chan (some c)) := cell_of_row w g 0 _ 88 (0, 0) h.row
theorem Qu.c1 (h : Qu w g c cap l lost) : w.cell? ⟨g, 1, none⟩ = some (.int .i64 lost) := cell_of_row w g 1 _ 88 (0, 0) h.row
theorem Qu.fz (h : Qu w g c cap l lost) (j : Nat) : w.frozen? ⟨g, j, none⟩ = false := frozen_of_row w g j _ 88 h.row
theorem Qu.keep (h : Qu w g c cap l lost) (hb : Below w.heap.size w w') : Qu w' g c cap l lost := by
  obtain ⟨s, r, hc⟩ := h.ch
  exact ⟨(hb.block g h.lt).trans h.row, s, r, (hb.block c h.clt).trans hc⟩
/-- What another object does. -/
theorem Qu.beside (h : Qu w g c cap l lost) {k : Nat} (hg : w.grownBy w' (some k)) (h1 : k ≠ g) (h2 : k ≠ c) : Qu w' g c cap l lost := by
  obtain ⟨s, r, hc⟩ := h.ch
  exact ⟨(hg.block g h.lt (by simpa using Ne.symm h1)).trans h.row, s, r, (hg.block c h.clt (by simpa using Ne.symm h2)).trans hc⟩
theorem put_yes (h : Qu w g c cap l lost) (m : Mg) (hr : l.length < cap) :
    Calls Try.prog 35 #[.pointer (some ⟨g, 0, none⟩), m.v] w fun e w' => e = .returned (.bool true) ∧ Qu w' g c cap (l ++ [m]) lost ∧ w.grownBy w' (some c) := by
  obtain ⟨s, r, hc⟩ := h.ch
  refine (put_room g c cap s r (bufOf l) m.a0 m.a1 m.a2 m.a3 w h.c0 h.lt hc (by rw [bufOf_size]; exact hr)).mono ?_
  rintro e w' ⟨rfl, rfl⟩
  refine ⟨rfl, ⟨?_, s + 1, r, ?_⟩, chan_grown w _ h.clt⟩
  · rw [setChan_far _ (Ne.symm h.ne), heap_alloc_old w _ h.lt]; exact h.row
  · rw [Conc.heap_setChan _ _ _ _ _ _ _ _ (by have := h.clt; simp; omega)]
    simp [bufOf, Mg.v]
theorem put_no (h : Qu w g c cap l lost) (m : Mg) (hr : cap ≤ l.length) (hl0 : 0 ≤ lost) (hl1 : lost ≤ 1000000) :
    Calls Try.prog 35 #[.pointer (some ⟨g, 0, none⟩), m.v] w fun e w' => e = .returned (.bool false) ∧ Qu w' g c cap l (lost + 1) ∧ w.grownBy w' (some g) := by
  obtain ⟨s, r, hc⟩ := h.ch
  refine (put_full g c cap s r lost (bufOf l) m.a0 m.a1 m.a2 m.a3 w h.c0 h.c1 (h.fz 1) hl0 hl1 h.lt hc (by rw [bufOf_size]; exact hr)).mono ?_
  rintro e w' ⟨rfl, rfl⟩
  have e1 := heap_setCell_same w g 1 _ 88 (.int .i64 (lost + 1)) h.row
  refine ⟨rfl, ⟨?_, s, r, ?_⟩, ⟨rfl, rfl, rfl, by simp [World.setCell], fun k hk hne => ?_⟩⟩
  · rw [heap_alloc_old _ _ (by simpa [World.setCell] using h.lt), e1]; rfl
  · rw [heap_alloc_old _ _ (by simpa [World.setCell] using h.clt), Below.heap_setCell _ _ _ _ (by simpa using Ne.symm h.ne)]; exact hc
  · rw [heap_alloc_old _ _ (by simpa [World.setCell] using hk), Below.heap_setCell _ _ _ _ (by simpa using hne)]
theorem take_yes {m : Mg} (h : Qu w g c cap (m :: l) lost) :
    Calls Try.prog 55 #[.pointer (some ⟨g, 0, none⟩)] w fun e w' => e = .returned (.tuple #[m.v, .bool true]) ∧ Qu w' g c cap l lost ∧ w.grownBy w' (some c) := by
  obtain ⟨s, r, hc⟩ := h.ch
  refine (take_some g c cap s r (bufOf (m :: l)) m.a0 m.a1 m.a2 m.a3 w h.c0 h.lt hc (by simp [bufOf, Mg.v]) (by simp [bufOf])).mono ?_
  rintro e w' ⟨rfl, ⟨s', r', hc'⟩, hg⟩
  refine ⟨rfl, ⟨(hg.block g h.lt (by simpa using h.ne)).trans h.row, s', r', ?_⟩, hg⟩
  rw [hc']
  simp [bufOf]
  exact List.take_of_length_le (by simp)
theorem take_no (h : Qu w g c cap [] lost) :
    Calls Try.prog 55 #[.pointer (some ⟨g, 0, none⟩)] w fun e w' => e = .returned (.tuple #[mZ.v, .bool false]) ∧ Qu w' g c cap [] lost ∧ Below w.heap.size w w' := by
  obtain ⟨s, r, hc⟩ := h.ch
  refine (take_none g c cap s r w h.c0 h.lt hc).mono ?_
  rintro e w' ⟨rfl, hb⟩
  exact ⟨rfl, h.keep hb, hb⟩
end
end Go.Proofs.Ytceiipcdkonnlaa.Quu
