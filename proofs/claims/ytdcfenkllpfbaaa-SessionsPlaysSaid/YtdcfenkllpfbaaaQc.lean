/-
  LAYER 22: a queue as one fact; Put and Take over it.
-/
import Derived.Test.YtdcfenkllpfbaaaQa
import Derived.Test.YtdcfenkllpfbaaaMs
import Derived.Lib.Hide
import Derived.Deep.QuietTactic
import Derived.BigQuiet
import Derived.Conc.LoneSelectN
namespace Go.Proofs.Ytdcfenkllpfbaaa
set_option linter.unusedSimpArgs false
set_option linter.unusedVariables false
def Mg.v (m : Mg) : Value := .agg #[.string m.a0, .string m.a1, .int .i64 m.a2, .bool m.a3]
def mZ : Mg := ⟨{ data := #[] }, { data := #[] }, 0, false⟩
end Go.Proofs.Ytdcfenkllpfbaaa
namespace Go.Proofs.Ytdcfenkllpfbaaa.Quu
set_option linter.unusedSimpArgs false
set_option linter.unusedVariables false
open Go.RowKit
def bufOf (l : List Mg) : Array Value := (l.map Mg.v).toArray
/-- The queue in block g, whose channel is block c. -/
structure Qu (w : World) (g c cap : Nat) (l : List Mg) (lost : Int) : Prop where
  row : w.heap[g]? = some (.cells #[.chan (some c), .int .i64 lost] 105 (0, 0))
  ch : ∃ s r, w.heap[c]? = some (.chan cap (bufOf l) false s r false)
theorem bufOf_size (l : List Mg) : (bufOf l).size = l.length := by simp [bufOf]
section
variable {w w' : World} {g c cap : Nat} {l : List Mg} {lost : Int}
theorem Qu.lt (h : Qu w g c cap l lost) : g < w.heap.size := (Array.getElem?_eq_some_iff.1 h.row).1
theorem Qu.clt (h : Qu w g c cap l lost) : c < w.heap.size := by obtain ⟨s, r, h⟩ := h.ch; exact (Array.getElem?_eq_some_iff.1 h).1
theorem Qu.ne (h : Qu w g c cap l lost) : g ≠ c := by
  rintro rfl
  obtain ⟨s, r, hc⟩ := h.ch
  have := h.row.symm.trans hc
  cases this
theorem Qu.c0 (h : Qu w g c cap l lost) : w.cell? ⟨g, 0, none⟩ = some (.chan (some c)) := cell_of_row w g 0 _ 105 (0, 0) h.row
theorem Qu.c1 (h : Qu w g c cap l lost) : w.cell? ⟨g, 1, none⟩ = some (.int .i64 lost) := cell_of_row w g 1 _ 105 (0, 0) h.row
theorem Qu.fz (h : Qu w g c cap l lost) (j : Nat) : w.frozen? ⟨g, j, none⟩ = false := frozen_of_row w g j _ 105 h.row
theorem Qu.keep (h : Qu w g c cap l lost) (hb : Below w.heap.size w w') : Qu w' g c cap l lost := by
  obtain ⟨s, r, hc⟩ := h.ch
  exact ⟨(hb.block g h.lt).trans h.row, s, r, (hb.block c h.clt).trans hc⟩
/-- What another object does. -/
theorem Qu.beside (h : Qu w g c cap l lost) {k : Nat} (hg : w.grownBy w' (some k)) (h1 : k ≠ g) (h2 : k ≠ c) : Qu w' g c cap l lost := by
  obtain ⟨s, r, hc⟩ := h.ch
  exact ⟨(hg.block g h.lt (by simpa using Ne.symm h1)).trans h.row, s, r, (hg.block c h.clt (by simpa using Ne.symm h2)).trans hc⟩
theorem put_yes (h : Qu w g c cap l lost) (m : Mg) (hr : l.length < cap) :
    Calls Try.prog 31 #[.pointer (some ⟨g, 0, none⟩), m.v] w fun e w' => e = .returned (.bool true) ∧ Qu w' g c cap (l ++ [m]) lost ∧ w.grownBy w' (some c) := by
  obtain ⟨s, r, hc⟩ := h.ch
  refine (put_room g c cap s r (bufOf l) m.a0 m.a1 m.a2 m.a3 w h.c0 h.lt hc (by rw [bufOf_size]; exact hr)).mono ?_
  rintro e w' ⟨rfl, rfl⟩
  refine ⟨rfl, ⟨?_, s + 1, r, ?_⟩, chan_grown w _ h.clt⟩
  · rw [setChan_far _ (Ne.symm h.ne), heap_alloc_old w _ h.lt]; exact h.row
  · rw [Conc.heap_setChan _ _ _ _ _ _ _ _ (by have := h.clt; simp; omega)]
    simp [bufOf, Mg.v]
theorem put_no (h : Qu w g c cap l lost) (m : Mg) (hr : cap ≤ l.length) (hl0 : 0 ≤ lost) (hl1 : lost ≤ 1000000) :
    Calls Try.prog 31 #[.pointer (some ⟨g, 0, none⟩), m.v] w fun e w' => e = .returned (.bool false) ∧ Qu w' g c cap l (lost + 1) ∧ w.grownBy w' (some g) := by
  obtain ⟨s, r, hc⟩ := h.ch
  refine (put_full g c cap s r lost (bufOf l) m.a0 m.a1 m.a2 m.a3 w h.c0 h.c1 (h.fz 1) hl0 hl1 h.lt hc (by rw [bufOf_size]; exact hr)).mono ?_
  rintro e w' ⟨rfl, rfl⟩
  have e1 := heap_setCell_same w g 1 _ 105 (.int .i64 (lost + 1)) h.row
  refine ⟨rfl, ⟨?_, s, r, ?_⟩, ⟨rfl, rfl, rfl, by simp [World.setCell], fun k hk hne => ?_⟩⟩
  · rw [heap_alloc_old _ _ (by simpa [World.setCell] using h.lt), e1]; rfl
  · rw [heap_alloc_old _ _ (by simpa [World.setCell] using h.clt), Below.heap_setCell _ _ _ _ (by simpa using Ne.symm h.ne)]; exact hc
  · rw [heap_alloc_old _ _ (by simpa [World.setCell] using hk), Below.heap_setCell _ _ _ _ (by simpa using hne)]
theorem take_yes {m : Mg} (h : Qu w g c cap (m :: l) lost) :
    Calls Try.prog 46 #[.pointer (some ⟨g, 0, none⟩)] w fun e w' => e = .returned (.tuple #[m.v, .bool true]) ∧ Qu w' g c cap l lost ∧ w.grownBy w' (some c) := by
  obtain ⟨s, r, hc⟩ := h.ch
  refine (take_some g c cap s r (bufOf (m :: l)) m.a0 m.a1 m.a2 m.a3 w h.c0 h.lt hc (by simp [bufOf, Mg.v]) (by simp [bufOf])).mono ?_
  rintro e w' ⟨rfl, ⟨s', r', hc'⟩, hg⟩
  refine ⟨rfl, ⟨(hg.block g h.lt (by simpa using h.ne)).trans h.row, s', r', ?_⟩, hg⟩
  rw [hc']
  simp [bufOf]
  exact List.take_of_length_le (by simp)
theorem take_no (h : Qu w g c cap [] lost) :
    Calls Try.prog 46 #[.pointer (some ⟨g, 0, none⟩)] w fun e w' => e = .returned (.tuple #[mZ.v, .bool false]) ∧ Qu w' g c cap [] lost ∧ Below w.heap.size w w' := by
  obtain ⟨s, r, hc⟩ := h.ch
  refine (take_none g c cap s r w h.c0 h.lt hc).mono ?_
  rintro e w' ⟨rfl, hb⟩
  exact ⟨rfl, h.keep hb, hb⟩
end
end Go.Proofs.Ytdcfenkllpfbaaa.Quu

/-
  LAYER 22: contracts of New, none, Len, Lost, Full.
-/
namespace Go.Proofs.Ytdcfenkllpfbaaa.Quu
set_option linter.unusedSimpArgs false
set_option linter.unusedVariables false
open Go.RowKit
theorem eql_chan (x : Option Nat) (w : World) : (binOp .eql 103 (.chan x) (.chan none)).run Try.prog w = .ok (.bool x.isNone) w := by
  have h : ∀ d : Nat, (Op.equalIn (d + 1) 103 (.chan x) (.chan none)).run Try.prog w = .ok x.isNone w := fun d => by
    cases x <;> simp [Op.equalIn, run_underlying Try.underlying103]
  simp only [binOp]
  simp [Op.equal, Op.maxDepth, h 9999]
section
variable {w w' : World} {g c cap : Nat} {l : List Mg} {lost : Int}
set_option maxRecDepth 100000 in
theorem none_no (h : Qu w g c cap l lost) : Calls Try.prog 43 #[.pointer (some ⟨g, 0, none⟩)] w fun e w' => e = .returned (.bool false) ∧ w = w' := by
  have c0 := h.c0
  have he := eql_chan (some c) w
  clear h
  go_enter Try.func43, Try.ntmps43
  go_wp2
  go_ret
  exact ⟨rfl, rfl⟩
set_option maxRecDepth 100000 in
theorem none_nil (w : World) : Calls Try.prog 43 #[.pointer none] w fun e w' => e = .returned (.bool true) ∧ w = w' := by
  go_enter Try.func43, Try.ntmps43
  go_wp2
  go_ret
  exact ⟨rfl, rfl⟩
set_option maxRecDepth 100000 in
theorem none_zero (w : World) (h : w.cell? ⟨g, 0, none⟩ = some (.chan none)) : Calls Try.prog 43 #[.pointer (some ⟨g, 0, none⟩)] w fun e w' => e = .returned (.bool true) ∧ w = w' := by
  have he := eql_chan none w
  go_enter Try.func43, Try.ntmps43
  go_wp2
  go_ret
  exact ⟨rfl, rfl⟩
theorem Qu.drewN (h : Qu w g c cap l lost) (n : Nat) : Qu (w.drewN n) g c cap l lost := ⟨h.row, h.ch⟩
set_option maxRecDepth 100000 in
theorem len_any (h : Qu w g c cap l lost) (hl : l.length ≤ 1000) : Calls Try.prog 44 #[.pointer (some ⟨g, 0, none⟩)] w fun e w' => e = .returned (.int .i64 l.length) ∧ w = w' := by
  have N := Lib.hid (none_no h)
  have c0 := h.c0
  obtain ⟨s, r, hc⟩ := h.ch
  have hlen := fun ty => Conc.run_len_chan (P := Try.prog) 103 ty Try.underlying103 hc
  rw [bufOf_size] at hlen
  have hc := Lib.hid hc
  clear h
  go_enter Try.func44, Try.ntmps44
  go_wp2_with fail
  refine N.out.mono ?_
  rintro e w' ⟨rfl, rfl⟩
  go_wp2
  go_ret
  exact ⟨rfl, rfl⟩
set_option maxRecDepth 100000 in
theorem new_bad (n : Int) (w : World) (h : n < 1 ∨ 1000 < n) : Calls Try.prog 39 #[.int .i64 n] w fun e w' => e = .returned (.tuple #[.pointer none, .int .i64 1]) ∧ w = w' := by
  by_cases h1 : n < 1
  · clear h
    go_enter Try.func39, Try.ntmps39
    go_wp2
    go_ret2
    exact ⟨rfl, rfl⟩
  · have h2 : 1000 < n := by omega
    clear h
    go_enter Try.func39, Try.ntmps39
    go_wp2
    go_ret2
    exact ⟨rfl, rfl⟩
theorem make71 (n : Nat) (h : n ≤ 1000) (w : World) : (Instr.makeChan 103 (.int .i64 (n : Int))).run Try.prog w = .ok (.chan (some w.heap.size)) (w.alloc (.chan n #[] false 0 0 false)) := by
  have hi : (Try.prog.info? 46).map (·.bytes) = some 48 := by kernel_rfl
  obtain ⟨i, hi, hb⟩ := Option.map_eq_some_iff.1 hi
  exact Conc.run_makeChan (P := Try.prog) (w := w) Try.underlying103 hi .i64 n (by omega) (by rw [hb]; omega)
set_option maxRecDepth 100000 in
theorem new_any (n : Nat) (w : World) (h1 : 1 ≤ n) (h2 : n ≤ 1000) : Calls Try.prog 39 #[.int .i64 (n : Int)] w fun e w' => e = .returned (.tuple #[.pointer (some ⟨w.heap.size + 1, 0, none⟩), .int .i64 0]) ∧ Qu w' (w.heap.size + 1) w.heap.size n [] 0 ∧ Below w.heap.size w w' ∧ w'.heap.size = w.heap.size + 2 := by
  have hm := make71 n h2 w
  have b1 : (1 : Int) ≤ (n : Int) := by omega
  have b2 : (n : Int) ≤ 1000 := by omega
  go_enter Try.func39, Try.ntmps39
  go_wp2
  go_ret2
  refine ⟨rfl, ⟨?_, 0, 0, ?_⟩, ?_, by simp⟩
  · have := heap_alloc_new (w.alloc (.chan n #[] false 0 0 false)) (.cells #[.chan (some w.heap.size), .int .i64 0] 105)
    simpa only [World.size_alloc] using this
  · rw [heap_alloc_old _ _ (by simp)]; exact heap_alloc_new w _
  · exact ((Below.refl _ _).alloc (Nat.le_refl _) _).alloc (by simp) _
end
end Go.Proofs.Ytdcfenkllpfbaaa.Quu
