/-
  A META, AS AN ARGUMENT: read cell by cell.
-/
import Derived.Test.YtoglgdkeknojkaaMi
import Derived.Test.YtoglgdkeknojkaaProg
import Derived.Lib.SmallJoins
import Derived.ChangeArms
import Derived.KernelRfl
namespace Go.Proofs.Ytoglgdkeknojkaa
open Go.ChangeShapes Go.WideShapes Go.RowKit Go.Deep

theorem list_8 {α : Type} {l : List α} (h : l.length = 8) : ∃ x0 x1 x2 x3 x4 x5 x6 x7, l = [x0, x1, x2, x3, x4, x5, x6, x7] := by
  match l, h with
  | [x0, x1, x2, x3, x4, x5, x6, x7], _ => exact ⟨_, _, _, _, _, _, _, _, rfl⟩
theorem open_t24 {H : Type} {enc : TypeId × Value → H} {w : World} {base : Nat} {spare : Nat → Bool} {held : Bool} {fuel : Nat} {cs : List Value} {x : DataW H × List MemPlace}
    (h : DataW.trod enc Try.prog w base spare held fuel 24 cs = some x) :
    ∃ (a0 : Bool) (a1 : ByteArray) (a2 : Int) (a3 : Int) (a4 : ByteArray) (a5 : ByteArray) (a6 : ByteArray) (a7 : ByteArray), cs = [.bool a0, .string a1, .int .u64 a2, .int .u64 a3, .string a4, .string a5, .string a6, .string a7] ∧ x = (.agg [.lit (.bool a0), .lit (.string a1.data.toList), .lit (.int .u64 a2), .lit (.int .u64 a3), .lit (.string a4.data.toList), .lit (.string a5.data.toList), .lit (.string a6.data.toList), .lit (.string a7.data.toList)], []) ∧ (Lit.int .u64 a2).wf = true ∧ (Lit.int .u64 a3).wf = true := by
  obtain ⟨xs, n, -, rfl, hl, hlen, hg⟩ := DataW.trod_struct Try.underlying24 h
  rw [show Try.prog.cellsOf 24 = 8 from by kernel_rfl] at hl
  obtain ⟨c0, c1, c2, c3, c4, c5, c6, c7, rfl⟩ := list_8 hl
  obtain ⟨y0, y1, y2, y3, y4, y5, y6, y7, rfl⟩ := list_8 hlen
  have g0 := hg 0 _ rfl
  simp only [List.getElem_toArray, List.getElem_cons_zero, List.getElem_cons_succ, show Try.prog.cellsOf 4 = 1 from by kernel_rfl, List.drop_zero, List.drop_succ_cons, List.take_succ_cons, List.take_zero, List.getElem?_cons_zero, List.getElem?_cons_succ] at g0
  obtain ⟨a0, q0, rfl⟩ := DataW.trod_bool Try.underlying4 g0
  obtain rfl : c0 = .bool a0 := by simpa using q0
  have g1 := hg 1 _ rfl
  simp only [List.getElem_toArray, List.getElem_cons_zero, List.getElem_cons_succ, show Try.prog.cellsOf 9 = 1 from by kernel_rfl, List.drop_zero, List.drop_succ_cons, List.take_succ_cons, List.take_zero, List.getElem?_cons_zero, List.getElem?_cons_succ] at g1
  obtain ⟨a1, q1, rfl, -⟩ := DataW.trod_string Try.underlying9 g1
  obtain rfl : c1 = .string a1 := by simpa using q1
  have g2 := hg 2 _ rfl
  simp only [List.getElem_toArray, List.getElem_cons_zero, List.getElem_cons_succ, show Try.prog.cellsOf 22 = 1 from by kernel_rfl, List.drop_zero, List.drop_succ_cons, List.take_succ_cons, List.take_zero, List.getElem?_cons_zero, List.getElem?_cons_succ] at g2
  obtain ⟨a2, q2, rfl, w2⟩ := DataW.trod_int Try.underlying22 g2
  obtain rfl : c2 = .int .u64 a2 := by simpa using q2
  have g3 := hg 3 _ rfl
  simp only [List.getElem_toArray, List.getElem_cons_zero, List.getElem_cons_succ, show Try.prog.cellsOf 22 = 1 from by kernel_rfl, List.drop_zero, List.drop_succ_cons, List.take_succ_cons, List.take_zero, List.getElem?_cons_zero, List.getElem?_cons_succ] at g3
  obtain ⟨a3, q3, rfl, w3⟩ := DataW.trod_int Try.underlying22 g3
  obtain rfl : c3 = .int .u64 a3 := by simpa using q3
  have g4 := hg 4 _ rfl
  simp only [List.getElem_toArray, List.getElem_cons_zero, List.getElem_cons_succ, show Try.prog.cellsOf 9 = 1 from by kernel_rfl, List.drop_zero, List.drop_succ_cons, List.take_succ_cons, List.take_zero, List.getElem?_cons_zero, List.getElem?_cons_succ] at g4
  obtain ⟨a4, q4, rfl, -⟩ := DataW.trod_string Try.underlying9 g4
  obtain rfl : c4 = .string a4 := by simpa using q4
  have g5 := hg 5 _ rfl
  simp only [List.getElem_toArray, List.getElem_cons_zero, List.getElem_cons_succ, show Try.prog.cellsOf 9 = 1 from by kernel_rfl, List.drop_zero, List.drop_succ_cons, List.take_succ_cons, List.take_zero, List.getElem?_cons_zero, List.getElem?_cons_succ] at g5
  obtain ⟨a5, q5, rfl, -⟩ := DataW.trod_string Try.underlying9 g5
  obtain rfl : c5 = .string a5 := by simpa using q5
  have g6 := hg 6 _ rfl
  simp only [List.getElem_toArray, List.getElem_cons_zero, List.getElem_cons_succ, show Try.prog.cellsOf 9 = 1 from by kernel_rfl, List.drop_zero, List.drop_succ_cons, List.take_succ_cons, List.take_zero, List.getElem?_cons_zero, List.getElem?_cons_succ] at g6
  obtain ⟨a6, q6, rfl, -⟩ := DataW.trod_string Try.underlying9 g6
  obtain rfl : c6 = .string a6 := by simpa using q6
  have g7 := hg 7 _ rfl
  simp only [List.getElem_toArray, List.getElem_cons_zero, List.getElem_cons_succ, show Try.prog.cellsOf 9 = 1 from by kernel_rfl, List.drop_zero, List.drop_succ_cons, List.take_succ_cons, List.take_zero, List.getElem?_cons_zero, List.getElem?_cons_succ] at g7
  obtain ⟨a7, q7, rfl, -⟩ := DataW.trod_string Try.underlying9 g7
  obtain rfl : c7 = .string a7 := by simpa using q7
  exact ⟨_, _, _, _, _, _, _, _, rfl, rfl, w2, w3⟩
end Go.Proofs.Ytoglgdkeknojkaa
