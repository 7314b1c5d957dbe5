/-
  LAYER 16: a packet that came in.
-/
import Derived.Test.YtmpklaokgogigaaDoorLa
import Derived.OpenShut
import Derived.SizedLaws
import Derived.Deep.Slices
import Derived.ChangeSlices
namespace Go.Proofs.YtmpklaokgogigaaDoor.Pac
set_option linter.unusedVariables false
set_option linter.unusedSimpArgs false
open Go.Proofs.YtmpklaokgogigaaDoor
open Go.ChangeShapes Go.WideShapes Go.RowKit Go.Deep
theorem list_4 {α : Type} {l : List α} (h : l.length = 4) : ∃ x0 x1 x2 x3, l = [x0, x1, x2, x3] := by
  match l, h with
  | [x0, x1, x2, x3], _ => exact ⟨_, _, _, _, rfl⟩
theorem list_9 {α : Type} {l : List α} (h : l.length = 9) : ∃ x0 x1 x2 x3 x4 x5 x6 x7 x8, l = [x0, x1, x2, x3, x4, x5, x6, x7, x8] := by
  match l, h with
  | [x0, x1, x2, x3, x4, x5, x6, x7, x8], _ => exact ⟨_, _, _, _, _, _, _, _, _, rfl⟩
theorem list_10 {α : Type} {l : List α} (h : l.length = 10) : ∃ x0 x1 x2 x3 x4 x5 x6 x7 x8 x9, l = [x0, x1, x2, x3, x4, x5, x6, x7, x8, x9] := by
  match l, h with
  | [x0, x1, x2, x3, x4, x5, x6, x7, x8, x9], _ => exact ⟨_, _, _, _, _, _, _, _, _, _, rfl⟩
theorem list_13 {α : Type} {l : List α} (h : l.length = 13) : ∃ x0 x1 x2 x3 x4 x5 x6 x7 x8 x9 x10 x11 x12, l = [x0, x1, x2, x3, x4, x5, x6, x7, x8, x9, x10, x11, x12] := by
  match l, h with
  | [x0, x1, x2, x3, x4, x5, x6, x7, x8, x9, x10, x11, x12], _ => exact ⟨_, _, _, _, _, _, _, _, _, _, _, _, _, rfl⟩
theorem list_24 {α : Type} {l : List α} (h : l.length = 24) : ∃ x0 x1 x2 x3 x4 x5 x6 x7 x8 x9 x10 x11 x12 x13 x14 x15 x16 x17 x18 x19 x20 x21 x22 x23, l = [x0, x1, x2, x3, x4, x5, x6, x7, x8, x9, x10, x11, x12, x13, x14, x15, x16, x17, x18, x19, x20, x21, x22, x23] := by
  match l, h with
  | [x0, x1, x2, x3, x4, x5, x6, x7, x8, x9, x10, x11, x12, x13, x14, x15, x16, x17, x18, x19, x20, x21, x22, x23], _ => exact ⟨_, _, _, _, _, _, _, _, _, _, _, _, _, _, _, _, _, _, _, _, _, _, _, _, rfl⟩
theorem open_t27 {H : Type} {enc : TypeId × Value → H} {w : World} {base : Nat} {spare : Nat → Bool} {held : Bool} {fuel : Nat} {cs : List Value} {x : DataW H × List MemPlace}
    (h : DataW.trod enc Tryd.prog w base spare held fuel 27 cs = some x) :
    ∃ (a0 : ByteArray) (a1 : ByteArray) (a2 : Int) (a3 : Bool), cs = [.string a0, .string a1, .int .i64 a2, .bool a3] ∧ x = (.agg [.lit (.string a0.data.toList), .lit (.string a1.data.toList), .lit (.int .i64 a2), .lit (.bool a3)], []) ∧ (Lit.int .i64 a2).wf = true := by
  obtain ⟨xs, n, -, rfl, hl, hlen, hg⟩ := DataW.trod_struct Tryd.underlying27 h
  rw [show Tryd.prog.cellsOf 27 = 4 from by kernel_rfl] at hl
  obtain ⟨c0, c1, c2, c3, rfl⟩ := list_4 hl
  obtain ⟨y0, y1, y2, y3, rfl⟩ := list_4 hlen
  have g0 := hg 0 _ rfl
  simp only [List.getElem_toArray, List.getElem_cons_zero, List.getElem_cons_succ, show Tryd.prog.cellsOf 9 = 1 from by kernel_rfl, List.drop_zero, List.drop_succ_cons, List.take_succ_cons, List.take_zero, List.getElem?_cons_zero, List.getElem?_cons_succ] at g0
  obtain ⟨a0, q0, rfl, -⟩ := DataW.trod_string Tryd.underlying9 g0
  obtain rfl : c0 = .string a0 := by simpa using q0
  have g1 := hg 1 _ rfl
  simp only [List.getElem_toArray, List.getElem_cons_zero, List.getElem_cons_succ, show Tryd.prog.cellsOf 9 = 1 from by kernel_rfl, List.drop_zero, List.drop_succ_cons, List.take_succ_cons, List.take_zero, List.getElem?_cons_zero, List.getElem?_cons_succ] at g1
  obtain ⟨a1, q1, rfl, -⟩ := DataW.trod_string Tryd.underlying9 g1
  obtain rfl : c1 = .string a1 := by simpa using q1
  have g2 := hg 2 _ rfl
  simp only [List.getElem_toArray, List.getElem_cons_zero, List.getElem_cons_succ, show Tryd.prog.cellsOf 3 = 1 from by kernel_rfl, List.drop_zero, List.drop_succ_cons, List.take_succ_cons, List.take_zero, List.getElem?_cons_zero, List.getElem?_cons_succ] at g2
  obtain ⟨a2, q2, rfl, w2⟩ := DataW.trod_int Tryd.underlying3 g2
  obtain rfl : c2 = .int .i64 a2 := by simpa using q2
  have g3 := hg 3 _ rfl
  simp only [List.getElem_toArray, List.getElem_cons_zero, List.getElem_cons_succ, show Tryd.prog.cellsOf 4 = 1 from by kernel_rfl, List.drop_zero, List.drop_succ_cons, List.take_succ_cons, List.take_zero, List.getElem?_cons_zero, List.getElem?_cons_succ] at g3
  obtain ⟨a3, q3, rfl⟩ := DataW.trod_bool Tryd.underlying4 g3
  obtain rfl : c3 = .bool a3 := by simpa using q3
  exact ⟨_, _, _, _, rfl, rfl, w2⟩
theorem open_t29 {H : Type} {enc : TypeId × Value → H} {w : World} {base : Nat} {spare : Nat → Bool} {held : Bool} {fuel : Nat} {cs : List Value} {x : DataW H × List MemPlace}
    (h : DataW.trod enc Tryd.prog w base spare held fuel 29 cs = some x) :
    ∃ (a0 : Int) (a1 : Bool) (a2 : Int) (a3 : ByteArray) (a4 : Bool) (a5_0 : ByteArray) (a5_1 : ByteArray) (a5_2 : Int) (a5_3 : Bool) (a6 : Bool) (a7 : ByteArray) (a8 : Bool) (a9 : ByteArray), cs = [.int .i64 a0, .bool a1, .int .i64 a2, .string a3, .bool a4, .string a5_0, .string a5_1, .int .i64 a5_2, .bool a5_3, .bool a6, .string a7, .bool a8, .string a9] ∧ x = (.agg [.lit (.int .i64 a0), .lit (.bool a1), .lit (.int .i64 a2), .lit (.string a3.data.toList), .lit (.bool a4), .agg [.lit (.string a5_0.data.toList), .lit (.string a5_1.data.toList), .lit (.int .i64 a5_2), .lit (.bool a5_3)], .lit (.bool a6), .lit (.string a7.data.toList), .lit (.bool a8), .lit (.string a9.data.toList)], []) ∧ (Lit.int .i64 a0).wf = true ∧ (Lit.int .i64 a2).wf = true ∧ (Lit.int .i64 a5_2).wf = true := by
  obtain ⟨xs, n, -, rfl, hl, hlen, hg⟩ := DataW.trod_struct Tryd.underlying29 h
  rw [show Tryd.prog.cellsOf 29 = 13 from by kernel_rfl] at hl
  obtain ⟨c0, c1, c2, c3, c4, c5, c6, c7, c8, c9, c10, c11, c12, rfl⟩ := list_13 hl
  obtain ⟨y0, y1, y2, y3, y4, y5, y6, y7, y8, y9, rfl⟩ := list_10 hlen
  have g0 := hg 0 _ rfl
  simp only [List.getElem_toArray, List.getElem_cons_zero, List.getElem_cons_succ, show Tryd.prog.cellsOf 3 = 1 from by kernel_rfl, List.drop_zero, List.drop_succ_cons, List.take_succ_cons, List.take_zero, List.getElem?_cons_zero, List.getElem?_cons_succ] at g0
  obtain ⟨a0, q0, rfl, w0⟩ := DataW.trod_int Tryd.underlying3 g0
  obtain rfl : c0 = .int .i64 a0 := by simpa using q0
  have g1 := hg 1 _ rfl
  simp only [List.getElem_toArray, List.getElem_cons_zero, List.getElem_cons_succ, show Tryd.prog.cellsOf 4 = 1 from by kernel_rfl, List.drop_zero, List.drop_succ_cons, List.take_succ_cons, List.take_zero, List.getElem?_cons_zero, List.getElem?_cons_succ] at g1
  obtain ⟨a1, q1, rfl⟩ := DataW.trod_bool Tryd.underlying4 g1
  obtain rfl : c1 = .bool a1 := by simpa using q1
  have g2 := hg 2 _ rfl
  simp only [List.getElem_toArray, List.getElem_cons_zero, List.getElem_cons_succ, show Tryd.prog.cellsOf 3 = 1 from by kernel_rfl, List.drop_zero, List.drop_succ_cons, List.take_succ_cons, List.take_zero, List.getElem?_cons_zero, List.getElem?_cons_succ] at g2
  obtain ⟨a2, q2, rfl, w2⟩ := DataW.trod_int Tryd.underlying3 g2
  obtain rfl : c2 = .int .i64 a2 := by simpa using q2
  have g3 := hg 3 _ rfl
  simp only [List.getElem_toArray, List.getElem_cons_zero, List.getElem_cons_succ, show Tryd.prog.cellsOf 9 = 1 from by kernel_rfl, List.drop_zero, List.drop_succ_cons, List.take_succ_cons, List.take_zero, List.getElem?_cons_zero, List.getElem?_cons_succ] at g3
  obtain ⟨a3, q3, rfl, -⟩ := DataW.trod_string Tryd.underlying9 g3
  obtain rfl : c3 = .string a3 := by simpa using q3
  have g4 := hg 4 _ rfl
  simp only [List.getElem_toArray, List.getElem_cons_zero, List.getElem_cons_succ, show Tryd.prog.cellsOf 4 = 1 from by kernel_rfl, List.drop_zero, List.drop_succ_cons, List.take_succ_cons, List.take_zero, List.getElem?_cons_zero, List.getElem?_cons_succ] at g4
  obtain ⟨a4, q4, rfl⟩ := DataW.trod_bool Tryd.underlying4 g4
  obtain rfl : c4 = .bool a4 := by simpa using q4
  have g5 := hg 5 _ rfl
  simp only [List.getElem_toArray, List.getElem_cons_zero, List.getElem_cons_succ, show Tryd.prog.cellsOf 27 = 4 from by kernel_rfl, List.drop_zero, List.drop_succ_cons, List.take_succ_cons, List.take_zero, List.getElem?_cons_zero, List.getElem?_cons_succ] at g5
  obtain ⟨a5_0, a5_1, a5_2, a5_3, q5, rfl, w5_0⟩ := open_t27 g5
  simp only [List.cons.injEq, and_true] at q5
  obtain ⟨rfl, rfl, rfl, rfl⟩ := q5
  have g6 := hg 6 _ rfl
  simp only [List.getElem_toArray, List.getElem_cons_zero, List.getElem_cons_succ, show Tryd.prog.cellsOf 4 = 1 from by kernel_rfl, List.drop_zero, List.drop_succ_cons, List.take_succ_cons, List.take_zero, List.getElem?_cons_zero, List.getElem?_cons_succ] at g6
  obtain ⟨a6, q6, rfl⟩ := DataW.trod_bool Tryd.underlying4 g6
  obtain rfl : c9 = .bool a6 := by simpa using q6
  have g7 := hg 7 _ rfl
  simp only [List.getElem_toArray, List.getElem_cons_zero, List.getElem_cons_succ, show Tryd.prog.cellsOf 9 = 1 from by kernel_rfl, List.drop_zero, List.drop_succ_cons, List.take_succ_cons, List.take_zero, List.getElem?_cons_zero, List.getElem?_cons_succ] at g7
  obtain ⟨a7, q7, rfl, -⟩ := DataW.trod_string Tryd.underlying9 g7
  obtain rfl : c10 = .string a7 := by simpa using q7
  have g8 := hg 8 _ rfl
  simp only [List.getElem_toArray, List.getElem_cons_zero, List.getElem_cons_succ, show Tryd.prog.cellsOf 4 = 1 from by kernel_rfl, List.drop_zero, List.drop_succ_cons, List.take_succ_cons, List.take_zero, List.getElem?_cons_zero, List.getElem?_cons_succ] at g8
  obtain ⟨a8, q8, rfl⟩ := DataW.trod_bool Tryd.underlying4 g8
  obtain rfl : c11 = .bool a8 := by simpa using q8
  have g9 := hg 9 _ rfl
  simp only [List.getElem_toArray, List.getElem_cons_zero, List.getElem_cons_succ, show Tryd.prog.cellsOf 9 = 1 from by kernel_rfl, List.drop_zero, List.drop_succ_cons, List.take_succ_cons, List.take_zero, List.getElem?_cons_zero, List.getElem?_cons_succ] at g9
  obtain ⟨a9, q9, rfl, -⟩ := DataW.trod_string Tryd.underlying9 g9
  obtain rfl : c12 = .string a9 := by simpa using q9
  exact ⟨_, _, _, _, _, _, _, _, _, _, _, _, _, rfl, rfl, w0, w2, w5_0⟩
theorem fis_bound {H : Type} {enc : TypeId × Value → H} {w : World} {fuel : Nat} {a : Option Addr} {len cap : Nat} {x : DataW H × List MemPlace}
    (h : DataW.trod enc Tryd.prog w 0 (fun _ => true) true fuel 30 [.slice a len cap] = some x) (hs : ∀ n ∈ x.1.weights Tryd.prog 30, n ≤ 140737488351232) : len * 24 ≤ 140737488351232 := by
  rcases Go.Deep.open_slice Tryd.underlying30 h with ⟨hcs, hx⟩ | ⟨a', len', cap', m, n, D, Pl, hcs, -, hl, hm, hmm, rfl, hx⟩
  · simp only [List.cons.injEq, Value.slice.injEq, and_true] at hcs
    obtain ⟨rfl, rfl, rfl⟩ := hcs
    omega
  · simp only [List.cons.injEq, Value.slice.injEq, and_true] at hcs
    obtain ⟨rfl, rfl, rfl⟩ := hcs
    have := hs ((((List.range len).map D).length + ((List.range (m - len)).map fun j => D (len + j)).length) * Tryd.prog.bytesOf 56) (by simp only [DataW.weights, Tryd.underlying30]; exact List.mem_cons_self)
    rw [show Tryd.prog.bytesOf 56 = 24 from by kernel_rfl, List.length_map, List.length_range] at this
    omega
theorem open_codes {H : Type} {enc : TypeId × Value → H} {w : World} {fuel : Nat} {cs : List Value} {x : DataW H × List MemPlace}
    (h : DataW.trod enc Tryd.prog w 0 (fun _ => true) true fuel 31 cs = some x) (hs : ∀ n ∈ x.1.weights Tryd.prog 31, n ≤ 140737488351232) : ∃ (v : Value) (l : List Int), cs = [v] ∧ IntsAt w v l ∧ l.length * 8 ≤ 140737488351232 := by
  rcases open_ints Tryd.underlying31 Tryd.underlying3 (by kernel_rfl) h with ⟨rfl, _⟩ | ⟨a, len, cap, zs, rfl, _, hl, hm, hz, rfl, hcell, hwz⟩
  · exact ⟨_, [], rfl, ints_none _, by simp⟩
  · have hz' : zs.length = cap := by simpa using hz
    have hb := hs (((lits .i64 (zs.take len) : List (DataW H)).length + (lits .i64 (zs.drop len) : List (DataW H)).length) * Tryd.prog.bytesOf 3) (by simp only [DataW.weights, Tryd.underlying31]; exact List.mem_cons_self)
    rw [show Tryd.prog.bytesOf 3 = 8 from by kernel_rfl] at hb
    simp only [lits, List.length_map, List.length_take, List.length_drop] at hb
    have R : IsRow .i64 w (some a) len cap zs := .inr ⟨_, rfl, hl, hm, hz', hcell, hwz⟩
    exact ⟨_, zs.take len, rfl, R.ints.1, by rw [List.length_take]; omega⟩
/-- What is known of a packet that came in. -/
structure Pk.ok (P : Pk) : Prop where
  id : -9223372036854775808 ≤ P.id ∧ P.id ≤ 9223372036854775807
  t : P.t.size ≤ 140737488351232
  x : P.x.size ≤ 140737488351232
  ct : P.c.text.size ≤ 140737488351232
  cp : P.c.pass.size ≤ 140737488351232
  fi : ∀ f ∈ P.fl, f.ok
  nf : P.fl.length * 24 ≤ 140737488351232
  nc : P.cl.length * 8 ≤ 140737488351232
theorem open_pk {H : Type} {enc : TypeId × Value → H} {w : World} {fuel : Nat} {cs : List Value} {x : DataW H × List MemPlace}
    (h : DataW.trod enc Tryd.prog w 0 (fun _ => true) true fuel 33 cs = some x) (hs : ∀ n ∈ x.1.weights Tryd.prog 33, n ≤ 140737488351232) :
    ∃ (P : Pk) (f c : Value), cs = (P.v f c).toList ∧ FisAt w f P.fl ∧ IntsAt w c P.cl ∧ P.fl.length * 24 ≤ 140737488351232 ∧ P.cl.length * 8 ≤ 140737488351232 ∧ P.ok := by
  obtain ⟨xs, n, -, rfl, hl, hlen, hg⟩ := DataW.trod_struct Tryd.underlying33 h
  rw [show Tryd.prog.cellsOf 33 = 24 from by kernel_rfl] at hl
  obtain ⟨c0, c1, c2, c3, c4, c5, c6, c7, c8, c9, c10, c11, c12, c13, c14, c15, c16, c17, c18, c19, c20, c21, c22, c23, rfl⟩ := list_24 hl
  obtain ⟨y0, y1, y2, y3, y4, y5, y6, y7, y8, rfl⟩ := list_9 hlen
  have hw7 : ∀ n ∈ y7.1.weights Tryd.prog 30, n ≤ 140737488351232 := fun n hn => hs n (by simp [DataW.weights, Tryd.underlying33, DataW.weightsEach, hn])
  have hw8 : ∀ n ∈ y8.1.weights Tryd.prog 31, n ≤ 140737488351232 := fun n hn => hs n (by simp [DataW.weights, Tryd.underlying33, DataW.weightsEach, hn])
  have hw3 : ∀ n ∈ y3.1.weights Tryd.prog 27, n ≤ 140737488351232 := fun n hn => hs n (by simp [DataW.weights, Tryd.underlying33, DataW.weightsEach, hn])
  have hw4 : ∀ n ∈ y4.1.weights Tryd.prog 29, n ≤ 140737488351232 := fun n hn => hs n (by simp [DataW.weights, Tryd.underlying33, DataW.weightsEach, hn])
  have g0 := hg 0 _ rfl
  simp only [List.getElem_toArray, List.getElem_cons_zero, List.getElem_cons_succ, show Tryd.prog.cellsOf 3 = 1 from by kernel_rfl, List.drop_zero, List.drop_succ_cons, List.take_succ_cons, List.take_zero, List.getElem?_cons_zero, List.getElem?_cons_succ] at g0
  obtain ⟨a0, q0, -, -⟩ := DataW.trod_int Tryd.underlying3 g0
  obtain rfl : c0 = .int .i64 a0 := by simpa using q0
  have g1 := hg 1 _ rfl
  simp only [List.getElem_toArray, List.getElem_cons_zero, List.getElem_cons_succ, show Tryd.prog.cellsOf 3 = 1 from by kernel_rfl, List.drop_zero, List.drop_succ_cons, List.take_succ_cons, List.take_zero, List.getElem?_cons_zero, List.getElem?_cons_succ] at g1
  obtain ⟨a1, q1, -, w1⟩ := DataW.trod_int Tryd.underlying3 g1
  obtain rfl : c1 = .int .i64 a1 := by simpa using q1
  have g2 := hg 2 _ rfl
  simp only [List.getElem_toArray, List.getElem_cons_zero, List.getElem_cons_succ, show Tryd.prog.cellsOf 4 = 1 from by kernel_rfl, List.drop_zero, List.drop_succ_cons, List.take_succ_cons, List.take_zero, List.getElem?_cons_zero, List.getElem?_cons_succ] at g2
  obtain ⟨a2, q2, -⟩ := DataW.trod_bool Tryd.underlying4 g2
  obtain rfl : c2 = .bool a2 := by simpa using q2
  have g3 := hg 3 _ rfl
  simp only [List.getElem_toArray, List.getElem_cons_zero, List.getElem_cons_succ, show Tryd.prog.cellsOf 27 = 4 from by kernel_rfl, List.drop_zero, List.drop_succ_cons, List.take_succ_cons, List.take_zero, List.getElem?_cons_zero, List.getElem?_cons_succ] at g3
  obtain ⟨a3_0, a3_1, a3_2, a3_3, q3, e3, -⟩ := open_t27 g3
  rw [e3] at hw3
  have s3a := hw3 a3_0.data.toList.length (by simp [DataW.weights, DataW.weightsEach, Tryd.underlying27, Tryd.underlying9])
  have s3b := hw3 a3_1.data.toList.length (by simp [DataW.weights, DataW.weightsEach, Tryd.underlying27, Tryd.underlying9])
  simp only [List.cons.injEq, and_true] at q3
  obtain ⟨rfl, rfl, rfl, rfl⟩ := q3
  have g4 := hg 4 _ rfl
  simp only [List.getElem_toArray, List.getElem_cons_zero, List.getElem_cons_succ, show Tryd.prog.cellsOf 29 = 13 from by kernel_rfl, List.drop_zero, List.drop_succ_cons, List.take_succ_cons, List.take_zero, List.getElem?_cons_zero, List.getElem?_cons_succ] at g4
  obtain ⟨a4_0, a4_1, a4_2, a4_3, a4_4, a4_5_0, a4_5_1, a4_5_2, a4_5_3, a4_6, a4_7, a4_8, a4_9, q4, e4, -, -, -⟩ := open_t29 g4
  rw [e4] at hw4
  have s4a := hw4 a4_5_1.data.toList.length (by simp [DataW.weights, DataW.weightsEach, Tryd.underlying29, Tryd.underlying27, Tryd.underlying9])
  have s4b := hw4 a4_9.data.toList.length (by simp [DataW.weights, DataW.weightsEach, Tryd.underlying29, Tryd.underlying27, Tryd.underlying9])
  simp only [List.cons.injEq, and_true] at q4
  obtain ⟨rfl, rfl, rfl, rfl, rfl, rfl, rfl, rfl, rfl, rfl, rfl, rfl, rfl⟩ := q4
  have g5 := hg 5 _ rfl
  simp only [List.getElem_toArray, List.getElem_cons_zero, List.getElem_cons_succ, show Tryd.prog.cellsOf 4 = 1 from by kernel_rfl, List.drop_zero, List.drop_succ_cons, List.take_succ_cons, List.take_zero, List.getElem?_cons_zero, List.getElem?_cons_succ] at g5
  obtain ⟨a5, q5, -⟩ := DataW.trod_bool Tryd.underlying4 g5
  obtain rfl : c20 = .bool a5 := by simpa using q5
  have g6 := hg 6 _ rfl
  simp only [List.getElem_toArray, List.getElem_cons_zero, List.getElem_cons_succ, show Tryd.prog.cellsOf 3 = 1 from by kernel_rfl, List.drop_zero, List.drop_succ_cons, List.take_succ_cons, List.take_zero, List.getElem?_cons_zero, List.getElem?_cons_succ] at g6
  obtain ⟨a6, q6, -, -⟩ := DataW.trod_int Tryd.underlying3 g6
  obtain rfl : c21 = .int .i64 a6 := by simpa using q6
  have g7 := hg 7 _ rfl
  simp only [List.getElem_toArray, List.getElem_cons_zero, List.getElem_cons_succ, show Tryd.prog.cellsOf 30 = 1 from by kernel_rfl, List.drop_zero, List.drop_succ_cons, List.take_succ_cons, List.take_zero, List.getElem?_cons_zero, List.getElem?_cons_succ] at g7
  obtain ⟨av, lenv, capv, rfl⟩ : ∃ a n c, c22 = .slice a n c := by
    rcases Go.Deep.open_slice Tryd.underlying30 g7 with ⟨hcs, -⟩ | ⟨a', len', cap', m, n, D, Pl, hcs, -⟩
    · exact ⟨_, _, _, by simpa using hcs⟩
    · exact ⟨_, _, _, by simpa using hcs⟩
  have fb := fis_bound g7 hw7
  obtain ⟨fl, hf, okf⟩ := open_fis g7 hw7
  have hlf : fl.length = lenv := by
    obtain ⟨a', c', e, -⟩ := hf
    simp only [Value.slice.injEq] at e
    exact e.2.1.symm
  have g8 := hg 8 _ rfl
  simp only [List.getElem_toArray, List.getElem_cons_zero, List.getElem_cons_succ, show Tryd.prog.cellsOf 31 = 1 from by kernel_rfl, List.drop_zero, List.drop_succ_cons, List.take_succ_cons, List.take_zero, List.getElem?_cons_zero, List.getElem?_cons_succ] at g8
  obtain ⟨cv, cl, q8, hc, cb⟩ := open_codes g8 hw8
  obtain rfl : c23 = cv := by simpa using q8
  exact ⟨⟨a0, a1, a2, a3_0, a3_1, a3_2, a3_3, ⟨a4_0, a4_1, a4_2, a4_3, a4_4, a4_5_0, a4_5_1, a4_5_2, a4_5_3, a4_6, a4_7, a4_8, a4_9⟩, a5, a6, fl, cl⟩, _, _, rfl, hf, hc, by show fl.length * 24 ≤ _; rw [hlf]; exact fb, cb, ⟨wf_i64 w1, by simpa using s3a, by simpa using s3b, by simpa using s4a, by simpa using s4b, okf, by show fl.length * 24 ≤ _; rw [hlf]; exact fb, cb⟩⟩
set_option maxRecDepth 100000 in
/-- A slice of packets that came in: each lies somewhere below, with its lists. -/
theorem open_pks {H : Type} {enc : TypeId × Value → H} {w : World} {fuel : Nat} {a : Option Addr} {len cap : Nat} {x : DataW H × List MemPlace}
    (h : DataW.trod enc Tryd.prog w 0 (fun _ => true) true fuel 42 [.slice a len cap] = some x) (hs : ∀ n ∈ x.1.weights Tryd.prog 42, n ≤ 140737488351232) :
    len ≤ 9223372036854775807 ∧ ∀ i, i < len → ∃ (b o : Nat) (P : Pk) (f c : Value), a = some ⟨b, o, none⟩ ∧ b < w.heap.size ∧ w.rangeAt b (o + i * 24) (P.v f c).toList ∧ FisAt w f P.fl ∧ IntsAt w c P.cl ∧ P.ok := by
  rcases Go.Deep.open_slice Tryd.underlying42 h with ⟨hcs, hx⟩ | ⟨a', len', cap', m, n, D, Pl, hcs, -, hl, hm, hmm, rfl, hx⟩
  · simp only [List.cons.injEq, Value.slice.injEq, and_true] at hcs
    obtain ⟨rfl, rfl, rfl⟩ := hcs
    exact ⟨by omega, fun i hi => by omega⟩
  · simp only [List.cons.injEq, Value.slice.injEq, and_true] at hcs
    obtain ⟨rfl, rfl, rfl⟩ := hcs
    have hml : len ≤ m := by rw [hmm]; split <;> omega
    refine ⟨by unfold maxLen at hm; omega, fun i hi => ?_⟩
    obtain ⟨cs', h1, h2⟩ := hx i (by omega)
    rw [show Tryd.prog.cellsOf 33 = 24 from by kernel_rfl] at h1
    obtain ⟨P, f, c, rfl, hf, hc, -, -, ok⟩ := open_pk h2 (fun n hn => hs n (by
        simp only [DataW.weights, Tryd.underlying42]
        refine List.mem_cons_of_mem _ (List.mem_append_left _ (weightsAll_mem (d := D i) (List.mem_map.2 ⟨i, List.mem_range.2 hi, rfl⟩) n hn))))
    obtain ⟨b, o, spot⟩ := a'
    have hsp : spot = none := by
      obtain ⟨cs0, h10, h20⟩ := hx 0 (by omega)
      rw [show Tryd.prog.cellsOf 33 = 24 from by kernel_rfl] at h10
      obtain ⟨P0, f0, c0, rfl, -⟩ := open_pk h20 (fun n hn => hs n (by
        simp only [DataW.weights, Tryd.underlying42]
        refine List.mem_cons_of_mem _ (List.mem_append_left _ (weightsAll_mem (d := D 0) (List.mem_map.2 ⟨0, List.mem_range.2 (by omega), rfl⟩) n hn))))
      have := (World.cells?_some h10).2.2 0 (by omega)
      rw [show ((P0.v f0 c0).toList)[0]? = some (.int .i64 P0.kind) from rfl] at this
      simpa [Addr.add] using World.cell?_spot this
    subst hsp
    rw [add_off] at h1
    have hc0 := World.cells?_some h1
    refine ⟨b, o, P, f, c, rfl, World.cells?_block h1 (by omega), fun j u hj => ?_, hf, hc, ok⟩
    have hj24 : j < 24 := (List.getElem?_eq_some_iff.1 hj).1
    have := hc0.2.2 j hj24
    rw [add_off, hj] at this
    exact this
end Go.Proofs.YtmpklaokgogigaaDoor.Pac
