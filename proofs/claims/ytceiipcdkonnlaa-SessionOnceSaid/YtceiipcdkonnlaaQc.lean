/-
  LAYER 22: contracts of New, none, Len, Lost, Full.
-/
import Derived.Test.YtceiipcdkonnlaaQb
import Derived.Deep.QuietTactic
import Derived.BigQuiet
import Derived.Conc.LoneSelectN
namespace Go.Proofs.Ytceiipcdkonnlaa.Quu
set_option linter.unusedSimpArgs false
set_option linter.unusedVariables false
open Go.RowKit
theorem eql_chan (x : Option Nat) (w : World) : (binOp .eql 86 (.chan x) (.chan none)).run Try.prog w = .ok (.bool x.isNone) w := by
  have h : ∀ d : Nat, (Op.equalIn (d + 1) 86 (.chan x) (.chan none)).run Try.prog w = .ok x.isNone w := fun d => by
    cases x <;> simp [Op.equalIn, run_underlying Try.underlying86]
  simp only [binOp]
  simp [Op.equal, Op.maxDepth, h 9999]
section
variable {w w' : World} {g c cap : Nat} {l : List Mg} {lost : Int}
set_option maxRecDepth 100000 in
theorem none_no (h : Qu w g c cap l lost) : Calls Try.prog 52 #[.pointer (some ⟨g, 0, none⟩)] w fun e w' => e = .returned (.bool false) ∧ w = w' := by
  have c0 := h.c0
  have he := eql_chan (some c) w
  clear h
  go_enter Try.func52, Try.ntmps52
  go_wp2
  go_ret
  exact ⟨rfl, rfl⟩
set_option maxRecDepth 100000 in
theorem none_nil (w : World) : Calls Try.prog 52 #[.pointer none] w fun e w' => e = .returned (.bool true) ∧ w = w' := by
  go_enter Try.func52, Try.ntmps52
  go_wp2
  go_ret
  exact ⟨rfl, rfl⟩
set_option maxRecDepth 100000 in
theorem none_zero (w : World) (h : w.cell? ⟨g, 0, none⟩ = some (.chan none)) : Calls Try.prog 52 #[.pointer (some ⟨g, 0, none⟩)] w fun e w' => e = .returned (.bool true) ∧ w = w' := by
  have he := eql_chan none w
  go_enter Try.func52, Try.ntmps52
  go_wp2
  go_ret
  exact ⟨rfl, rfl⟩
theorem lost_any (h : Qu w g c cap l lost) : Calls Try.prog 41 #[.pointer (some ⟨g, 0, none⟩)] w fun e w' => e = .returned (.int .i64 lost) ∧ w = w' := by
  have N := Lib.hid (none_no h)
  have c1 := h.c1
  clear h
  go_enter Try.func41, Try.ntmps41
  go_wp2_with fail
  refine N.out.mono ?_
  rintro e w' ⟨rfl, rfl⟩
  go_wp2
  go_ret
  exact ⟨rfl, rfl⟩
theorem Qu.drewN (h : Qu w g c cap l lost) (n : Nat) : Qu (w.drewN n) g c cap l lost := ⟨h.row, h.ch⟩
set_option maxRecDepth 100000 in
theorem len_any (h : Qu w g c cap l lost) (hl : l.length ≤ 1000) : Calls Try.prog 53 #[.pointer (some ⟨g, 0, none⟩)] w fun e w' => e = .returned (.int .i64 l.length) ∧ w = w' := by
  have N := Lib.hid (none_no h)
  have c0 := h.c0
  obtain ⟨s, r, hc⟩ := h.ch
  have hlen := fun ty => Conc.run_len_chan (P := Try.prog) 86 ty Try.underlying86 hc
  rw [bufOf_size] at hlen
  have hc := Lib.hid hc
  clear h
  go_enter Try.func53, Try.ntmps53
  go_wp2_with fail
  refine N.out.mono ?_
  rintro e w' ⟨rfl, rfl⟩
  go_wp2
  go_ret
  exact ⟨rfl, rfl⟩
set_option maxRecDepth 100000 in
theorem new_bad (n : Int) (w : World) (h : n < 1 ∨ 1000 < n) : Calls Try.prog 31 #[.int .i64 n] w fun e w' => e = .returned (.tuple #[.pointer none, .int .i64 1]) ∧ w = w' := by
  by_cases h1 : n < 1
  · clear h
    go_enter Try.func31, Try.ntmps31
    go_wp2
    go_ret2
    exact ⟨rfl, rfl⟩
  · have h2 : 1000 < n := by omega
    clear h
    go_enter Try.func31, Try.ntmps31
    go_wp2
    go_ret2
    exact ⟨rfl, rfl⟩
theorem make71 (n : Nat) (h : n ≤ 1000) (w : World) : (Instr.makeChan 86 (.int .i64 (n : Int))).run Try.prog w = .ok (.chan (some w.heap.size)) (w.alloc (.chan n #[] false 0 0 false)) := by
  have hi : (Try.prog.info? 30).map (·.bytes) = some 48 := by kernel_rfl
  obtain ⟨i, hi, hb⟩ := Option.map_eq_some_iff.1 hi
  exact Conc.run_makeChan (P := Try.prog) (w := w) Try.underlying86 hi .i64 n (by omega) (by rw [hb]; omega)
set_option maxRecDepth 100000 in
theorem new_any (n : Nat) (w : World) (h1 : 1 ≤ n) (h2 : n ≤ 1000) : Calls Try.prog 31 #[.int .i64 (n : Int)] w fun e w' => e = .returned (.tuple #[.pointer (some ⟨w.heap.size + 1, 0, none⟩), .int .i64 0]) ∧ Qu w' (w.heap.size + 1) w.heap.size n [] 0 ∧ Below w.heap.size w w' ∧ w'.heap.size = w.heap.size + 2 := by
  have hm := make71 n h2 w
  have b1 : (1 : Int) ≤ (n : Int) := by omega
  have b2 : (n : Int) ≤ 1000 := by omega
  go_enter Try.func31, Try.ntmps31
  go_wp2
  go_ret2
  refine ⟨rfl, ⟨?_, 0, 0, ?_⟩, ?_, by simp⟩
  · have := heap_alloc_new (w.alloc (.chan n #[] false 0 0 false)) (.cells #[.chan (some w.heap.size), .int .i64 0] 88)
    simpa only [World.size_alloc] using this
  · rw [heap_alloc_old _ _ (by simp)]; exact heap_alloc_new w _
  · exact ((Below.refl _ _).alloc (Nat.le_refl _) _).alloc (by simp) _
end
end Go.Proofs.Ytceiipcdkonnlaa.Quu
