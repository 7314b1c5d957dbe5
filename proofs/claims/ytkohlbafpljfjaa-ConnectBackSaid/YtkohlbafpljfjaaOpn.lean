/-
  WHO COMES, AS AN ARGUMENT: read cell by cell.
-/
import Derived.Test.YtkohlbafpljfjaaCom
import Derived.Test.YtkohlbafpljfjaaProg
import Derived.Lib.SmallJoins
import Derived.ChangeArms
import Derived.KernelRfl
namespace Go.Proofs.Ytkohlbafpljfjaa
set_option linter.unusedSimpArgs false
set_option linter.unusedVariables false
open Go.ChangeShapes Go.WideShapes Go.RowKit Go.Deep

theorem list_4 {α : Type} {l : List α} (h : l.length = 4) : ∃ x0 x1 x2 x3, l = [x0, x1, x2, x3] := by
  match l, h with
  | [x0, x1, x2, x3], _ => exact ⟨_, _, _, _, rfl⟩
theorem list_10 {α : Type} {l : List α} (h : l.length = 10) : ∃ x0 x1 x2 x3 x4 x5 x6 x7 x8 x9, l = [x0, x1, x2, x3, x4, x5, x6, x7, x8, x9] := by
  match l, h with
  | [x0, x1, x2, x3, x4, x5, x6, x7, x8, x9], _ => exact ⟨_, _, _, _, _, _, _, _, _, _, rfl⟩
theorem list_13 {α : Type} {l : List α} (h : l.length = 13) : ∃ x0 x1 x2 x3 x4 x5 x6 x7 x8 x9 x10 x11 x12, l = [x0, x1, x2, x3, x4, x5, x6, x7, x8, x9, x10, x11, x12] := by
  match l, h with
  | [x0, x1, x2, x3, x4, x5, x6, x7, x8, x9, x10, x11, x12], _ => exact ⟨_, _, _, _, _, _, _, _, _, _, _, _, _, rfl⟩
theorem open_t49 {H : Type} {enc : TypeId × Value → H} {w : World} {base : Nat} {spare : Nat → Bool} {held : Bool} {fuel : Nat} {cs : List Value} {x : DataW H × List MemPlace}
    (h : DataW.trod enc Try.prog w base spare held fuel 49 cs = some x) :
    ∃ (a0 : ByteArray) (a1 : ByteArray) (a2 : Int) (a3 : Bool), cs = [.string a0, .string a1, .int .i64 a2, .bool a3] ∧ x = (.agg [.lit (.string a0.data.toList), .lit (.string a1.data.toList), .lit (.int .i64 a2), .lit (.bool a3)], []) ∧ (Lit.int .i64 a2).wf = true := by
  obtain ⟨xs, n, -, rfl, hl, hlen, hg⟩ := DataW.trod_struct Try.underlying49 h
  rw [show Try.prog.cellsOf 49 = 4 from by kernel_rfl] at hl
  obtain ⟨c0, c1, c2, c3, rfl⟩ := list_4 hl
  obtain ⟨y0, y1, y2, y3, rfl⟩ := list_4 hlen
  have g0 := hg 0 _ rfl
  simp only [List.getElem_toArray, List.getElem_cons_zero, List.getElem_cons_succ, show Try.prog.cellsOf 9 = 1 from by kernel_rfl, List.drop_zero, List.drop_succ_cons, List.take_succ_cons, List.take_zero, List.getElem?_cons_zero, List.getElem?_cons_succ] at g0
  obtain ⟨a0, q0, rfl, -⟩ := DataW.trod_string Try.underlying9 g0
  obtain rfl : c0 = .string a0 := by simpa using q0
  have g1 := hg 1 _ rfl
  simp only [List.getElem_toArray, List.getElem_cons_zero, List.getElem_cons_succ, show Try.prog.cellsOf 9 = 1 from by kernel_rfl, List.drop_zero, List.drop_succ_cons, List.take_succ_cons, List.take_zero, List.getElem?_cons_zero, List.getElem?_cons_succ] at g1
  obtain ⟨a1, q1, rfl, -⟩ := DataW.trod_string Try.underlying9 g1
  obtain rfl : c1 = .string a1 := by simpa using q1
  have g2 := hg 2 _ rfl
  simp only [List.getElem_toArray, List.getElem_cons_zero, List.getElem_cons_succ, show Try.prog.cellsOf 3 = 1 from by kernel_rfl, List.drop_zero, List.drop_succ_cons, List.take_succ_cons, List.take_zero, List.getElem?_cons_zero, List.getElem?_cons_succ] at g2
  obtain ⟨a2, q2, rfl, w2⟩ := DataW.trod_int Try.underlying3 g2
  obtain rfl : c2 = .int .i64 a2 := by simpa using q2
  have g3 := hg 3 _ rfl
  simp only [List.getElem_toArray, List.getElem_cons_zero, List.getElem_cons_succ, show Try.prog.cellsOf 4 = 1 from by kernel_rfl, List.drop_zero, List.drop_succ_cons, List.take_succ_cons, List.take_zero, List.getElem?_cons_zero, List.getElem?_cons_succ] at g3
  obtain ⟨a3, q3, rfl⟩ := DataW.trod_bool Try.underlying4 g3
  obtain rfl : c3 = .bool a3 := by simpa using q3
  exact ⟨_, _, _, _, rfl, rfl, w2⟩
theorem open_t51 {H : Type} {enc : TypeId × Value → H} {w : World} {base : Nat} {spare : Nat → Bool} {held : Bool} {fuel : Nat} {cs : List Value} {x : DataW H × List MemPlace}
    (h : DataW.trod enc Try.prog w base spare held fuel 51 cs = some x) :
    ∃ (a0 : Int) (a1 : Bool) (a2 : Int) (a3 : ByteArray) (a4 : Bool) (a5_0 : ByteArray) (a5_1 : ByteArray) (a5_2 : Int) (a5_3 : Bool) (a6 : Bool) (a7 : ByteArray) (a8 : Bool) (a9 : ByteArray), cs = [.int .i64 a0, .bool a1, .int .i64 a2, .string a3, .bool a4, .string a5_0, .string a5_1, .int .i64 a5_2, .bool a5_3, .bool a6, .string a7, .bool a8, .string a9] ∧ x = (.agg [.lit (.int .i64 a0), .lit (.bool a1), .lit (.int .i64 a2), .lit (.string a3.data.toList), .lit (.bool a4), .agg [.lit (.string a5_0.data.toList), .lit (.string a5_1.data.toList), .lit (.int .i64 a5_2), .lit (.bool a5_3)], .lit (.bool a6), .lit (.string a7.data.toList), .lit (.bool a8), .lit (.string a9.data.toList)], []) ∧ (Lit.int .i64 a0).wf = true ∧ (Lit.int .i64 a2).wf = true ∧ (Lit.int .i64 a5_2).wf = true := by
  obtain ⟨xs, n, -, rfl, hl, hlen, hg⟩ := DataW.trod_struct Try.underlying51 h
  rw [show Try.prog.cellsOf 51 = 13 from by kernel_rfl] at hl
  obtain ⟨c0, c1, c2, c3, c4, c5, c6, c7, c8, c9, c10, c11, c12, rfl⟩ := list_13 hl
  obtain ⟨y0, y1, y2, y3, y4, y5, y6, y7, y8, y9, rfl⟩ := list_10 hlen
  have g0 := hg 0 _ rfl
  simp only [List.getElem_toArray, List.getElem_cons_zero, List.getElem_cons_succ, show Try.prog.cellsOf 3 = 1 from by kernel_rfl, List.drop_zero, List.drop_succ_cons, List.take_succ_cons, List.take_zero, List.getElem?_cons_zero, List.getElem?_cons_succ] at g0
  obtain ⟨a0, q0, rfl, w0⟩ := DataW.trod_int Try.underlying3 g0
  obtain rfl : c0 = .int .i64 a0 := by simpa using q0
  have g1 := hg 1 _ rfl
  simp only [List.getElem_toArray, List.getElem_cons_zero, List.getElem_cons_succ, show Try.prog.cellsOf 4 = 1 from by kernel_rfl, List.drop_zero, List.drop_succ_cons, List.take_succ_cons, List.take_zero, List.getElem?_cons_zero, List.getElem?_cons_succ] at g1
  obtain ⟨a1, q1, rfl⟩ := DataW.trod_bool Try.underlying4 g1
  obtain rfl : c1 = .bool a1 := by simpa using q1
  have g2 := hg 2 _ rfl
  simp only [List.getElem_toArray, List.getElem_cons_zero, List.getElem_cons_succ, show Try.prog.cellsOf 3 = 1 from by kernel_rfl, List.drop_zero, List.drop_succ_cons, List.take_succ_cons, List.take_zero, List.getElem?_cons_zero, List.getElem?_cons_succ] at g2
  obtain ⟨a2, q2, rfl, w2⟩ := DataW.trod_int Try.underlying3 g2
  obtain rfl : c2 = .int .i64 a2 := by simpa using q2
  have g3 := hg 3 _ rfl
  simp only [List.getElem_toArray, List.getElem_cons_zero, List.getElem_cons_succ, show Try.prog.cellsOf 9 = 1 from by kernel_rfl, List.drop_zero, List.drop_succ_cons, List.take_succ_cons, List.take_zero, List.getElem?_cons_zero, List.getElem?_cons_succ] at g3
  obtain ⟨a3, q3, rfl, -⟩ := DataW.trod_string Try.underlying9 g3
  obtain rfl : c3 = .string a3 := by simpa using q3
  have g4 := hg 4 _ rfl
  simp only [List.getElem_toArray, List.getElem_cons_zero, List.getElem_cons_succ, show Try.prog.cellsOf 4 = 1 from by kernel_rfl, List.drop_zero, List.drop_succ_cons, List.take_succ_cons, List.take_zero, List.getElem?_cons_zero, List.getElem?_cons_succ] at g4
  obtain ⟨a4, q4, rfl⟩ := DataW.trod_bool Try.underlying4 g4
  obtain rfl : c4 = .bool a4 := by simpa using q4
  have g5 := hg 5 _ rfl
  simp only [List.getElem_toArray, List.getElem_cons_zero, List.getElem_cons_succ, show Try.prog.cellsOf 49 = 4 from by kernel_rfl, List.drop_zero, List.drop_succ_cons, List.take_succ_cons, List.take_zero, List.getElem?_cons_zero, List.getElem?_cons_succ] at g5
  obtain ⟨a5_0, a5_1, a5_2, a5_3, q5, rfl, w5_0⟩ := open_t49 g5
  simp only [List.cons.injEq, and_true] at q5
  obtain ⟨rfl, rfl, rfl, rfl⟩ := q5
  have g6 := hg 6 _ rfl
  simp only [List.getElem_toArray, List.getElem_cons_zero, List.getElem_cons_succ, show Try.prog.cellsOf 4 = 1 from by kernel_rfl, List.drop_zero, List.drop_succ_cons, List.take_succ_cons, List.take_zero, List.getElem?_cons_zero, List.getElem?_cons_succ] at g6
  obtain ⟨a6, q6, rfl⟩ := DataW.trod_bool Try.underlying4 g6
  obtain rfl : c9 = .bool a6 := by simpa using q6
  have g7 := hg 7 _ rfl
  simp only [List.getElem_toArray, List.getElem_cons_zero, List.getElem_cons_succ, show Try.prog.cellsOf 9 = 1 from by kernel_rfl, List.drop_zero, List.drop_succ_cons, List.take_succ_cons, List.take_zero, List.getElem?_cons_zero, List.getElem?_cons_succ] at g7
  obtain ⟨a7, q7, rfl, -⟩ := DataW.trod_string Try.underlying9 g7
  obtain rfl : c10 = .string a7 := by simpa using q7
  have g8 := hg 8 _ rfl
  simp only [List.getElem_toArray, List.getElem_cons_zero, List.getElem_cons_succ, show Try.prog.cellsOf 4 = 1 from by kernel_rfl, List.drop_zero, List.drop_succ_cons, List.take_succ_cons, List.take_zero, List.getElem?_cons_zero, List.getElem?_cons_succ] at g8
  obtain ⟨a8, q8, rfl⟩ := DataW.trod_bool Try.underlying4 g8
  obtain rfl : c11 = .bool a8 := by simpa using q8
  have g9 := hg 9 _ rfl
  simp only [List.getElem_toArray, List.getElem_cons_zero, List.getElem_cons_succ, show Try.prog.cellsOf 9 = 1 from by kernel_rfl, List.drop_zero, List.drop_succ_cons, List.take_succ_cons, List.take_zero, List.getElem?_cons_zero, List.getElem?_cons_succ] at g9
  obtain ⟨a9, q9, rfl, -⟩ := DataW.trod_string Try.underlying9 g9
  obtain rfl : c12 = .string a9 := by simpa using q9
  exact ⟨_, _, _, _, _, _, _, _, _, _, _, _, _, rfl, rfl, w0, w2, w5_0⟩
end Go.Proofs.Ytkohlbafpljfjaa
