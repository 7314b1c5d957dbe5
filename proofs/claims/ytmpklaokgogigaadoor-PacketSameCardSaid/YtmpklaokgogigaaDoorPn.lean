/-
  LAYER 14: Of, of any bytes: both sides' errors, the program's success.
-/
import Derived.Test.YtmpklaokgogigaaDoorPm
namespace Go.Proofs.YtmpklaokgogigaaDoor.Pub
set_option linter.unusedSimpArgs false
set_option linter.unusedVariables false
open Go.RowKit

def OfPost (m : Value) (id err : Int) (w : World) (e : Ending) (w' : World) : Prop := e = .returned (.tuple #[m, .int .i64 id, .int .i64 err]) ∧ Below w.heap.size w w'
theorem of_qos (S : ByteArray) (q : Int) (w : World) (h : q < 0 ∨ 2 < q) : Calls Tryd.prog 33 #[.string S, .int .i64 q] w (OfPost (.agg #[.string ⟨#[]⟩, .string ⟨#[]⟩, .int .i64 0, .bool false]) 0 10 w) := by
  rcases (show q < 0 ∨ (0 ≤ q ∧ 2 < q) by omega) with h | ⟨h, h'⟩
  all_goals
    go_enter Tryd.func33, Tryd.ntmps33
    go_wp2
    exact bodyPost_ret (v := .tuple #[.agg #[.string ⟨#[]⟩, .string ⟨#[]⟩, .int .i64 0, .bool false], .int .i64 0, .int .i64 10]) (by simp [results, Tryd.results33, go_sem]) rfl ⟨rfl, by repeat (first | exact ext_alloc _ _ | refine Below.setCell ?_ (Nat.le_refl _) _)⟩
theorem rof_qos (S : ByteArray) (q : Int) (w : World) (h : q < 0 ∨ 2 < q) : Calls Tryd.prog 40 #[.string S, .int .i64 q] w (OfPost (.agg #[.string ⟨#[]⟩, .string ⟨#[]⟩, .int .i64 0, .bool false]) 0 10 w) := by
  rcases (show q < 0 ∨ (0 ≤ q ∧ 2 < q) by omega) with h | ⟨h, h'⟩
  all_goals
    go_enter Tryd.func40, Tryd.ntmps40
    go_wp2
    exact bodyPost_ret (v := .tuple #[.agg #[.string ⟨#[]⟩, .string ⟨#[]⟩, .int .i64 0, .bool false], .int .i64 0, .int .i64 10]) (by simp [results, Tryd.results40, go_sem]) rfl ⟨rfl, by repeat (first | exact ext_alloc _ _ | refine Below.setCell ?_ (Nat.le_refl _) _)⟩
set_option maxHeartbeats 2000000 in
set_option maxRecDepth 100000 in
theorem of_get (S : ByteArray) (q : Int) (l : List Nat) (w : World) (hq0 : 0 ≤ q) (hq2 : q ≤ 2) (hS : txtL S = l) (hSz : S.size ≤ 140737488351232) (t : ByteArray) (A E0 : Int) (hE : E0 ≠ 0) (GET : ∀ W v, BytesAt W v l → Calls Tryd.prog 61 #[v, .int .i64 0] W fun e w' => e = .returned (.tuple #[.string t, .int .i64 A, .int .i64 E0]) ∧ Below W.heap.size W w') :
    Calls Tryd.prog 33 #[.string S, .int .i64 q] w (OfPost (.agg #[.string ⟨#[]⟩, .string ⟨#[]⟩, .int .i64 0, .bool false]) 0 E0 w) := by
  obtain ⟨v, w1, hconv, a1, b1⟩ := bytes_of S (w.alloc (.cells #[.string ⟨#[]⟩, .string ⟨#[]⟩, .int .i64 0, .bool false] 27))
  rw [hS] at a1
  have hg : w.heap.size < w1.heap.size := by have := b1.size; simp at this; omega
  have row1 : w1.heap[w.heap.size]? = some (.cells #[.string ⟨#[]⟩, .string ⟨#[]⟩, .int .i64 0, .bool false] 27 (0, 0)) := by rw [b1.block _ (by simp)]; exact heap_alloc_new w _
  replace b1 := ext_trans (ext_alloc w _) b1
  replace GET := Lib.hid GET
  replace hS := Lib.hid hS
  replace row1 := Lib.hid row1
  replace b1 := Lib.hid b1
  have hS2 : (S.size : Int) ≤ 140737488351232 := by omega
  have HA := Lib.hid a1
  obtain ⟨x1, n1, rfl, -, -⟩ := a1
  have hb : (E0 != 0) = true := by simpa using hE
  clear hE
  go_enter Tryd.func33, Tryd.ntmps33
  go_wp2_with fail
  refine (GET.out _ _ HA.out).mono ?_
  rintro e w2 ⟨rfl, bb⟩
  have row2 : w2.heap[w.heap.size]? = some (.cells #[.string ⟨#[]⟩, .string ⟨#[]⟩, .int .i64 0, .bool false] 27 (0, 0)) := by rw [bb.block _ hg]; exact row1.out
  have hg2 : w.heap.size < w2.heap.size := by have := bb.size; omega
  have c0 := cell_of_row w2 w.heap.size 0 _ 27 (0, 0) row2
  have c1 := cell_of_row w2 w.heap.size 1 _ 27 (0, 0) row2
  have c2 := cell_of_row w2 w.heap.size 2 _ 27 (0, 0) row2
  have c3 := cell_of_row w2 w.heap.size 3 _ 27 (0, 0) row2
  have z := fun j => frozen_of_row w2 w.heap.size j _ 27 row2
  have z0 := z 0
  have z1 := z 1
  have z2 := z 2
  have z3 := z 3
  simp at c0 c1 c2 c3
  have B := Lib.hid (ext_trans b1.out bb)
  replace row2 := Lib.hid row2
  clear bb z
  go_wp2_with fail
  exact bodyPost_ret (v := .tuple #[.agg #[.string ⟨#[]⟩, .string ⟨#[]⟩, .int .i64 0, .bool false], .int .i64 0, .int .i64 E0]) (by simp [results, Tryd.results33, go_sem, c0, c1, c2, c3]) rfl ⟨rfl, (((B.out.setCell (Nat.le_refl _) _).setCell (Nat.le_refl _) _).setCell (Nat.le_refl _) _).setCell (Nat.le_refl _) _⟩
set_option maxHeartbeats 2000000 in
set_option maxRecDepth 100000 in
theorem of_topic (S : ByteArray) (q : Int) (l : List Nat) (w : World) (hq0 : 0 ≤ q) (hq2 : q ≤ 2) (hS : txtL S = l) (hSz : S.size ≤ 140737488351232) (t : ByteArray) (A : Int) (ht : t.size ≤ 140737488351232) (htp : topicB t = false) (GET : ∀ W v, BytesAt W v l → Calls Tryd.prog 61 #[v, .int .i64 0] W fun e w' => e = .returned (.tuple #[.string t, .int .i64 A, .int .i64 0]) ∧ Below W.heap.size W w') :
    Calls Tryd.prog 33 #[.string S, .int .i64 q] w (OfPost (.agg #[.string ⟨#[]⟩, .string ⟨#[]⟩, .int .i64 0, .bool false]) 0 13 w) := by
  have T := fun w => topic_any t w (by omega)
  rw [htp] at T
  replace T := Lib.hid T
  clear htp
  obtain ⟨v, w1, hconv, a1, b1⟩ := bytes_of S (w.alloc (.cells #[.string ⟨#[]⟩, .string ⟨#[]⟩, .int .i64 0, .bool false] 27))
  rw [hS] at a1
  have hg : w.heap.size < w1.heap.size := by have := b1.size; simp at this; omega
  have row1 : w1.heap[w.heap.size]? = some (.cells #[.string ⟨#[]⟩, .string ⟨#[]⟩, .int .i64 0, .bool false] 27 (0, 0)) := by rw [b1.block _ (by simp)]; exact heap_alloc_new w _
  replace b1 := ext_trans (ext_alloc w _) b1
  replace GET := Lib.hid GET
  replace hS := Lib.hid hS
  replace row1 := Lib.hid row1
  replace b1 := Lib.hid b1
  have hS2 : (S.size : Int) ≤ 140737488351232 := by omega
  have HA := Lib.hid a1
  obtain ⟨x1, n1, rfl, -, -⟩ := a1
  go_enter Tryd.func33, Tryd.ntmps33
  go_wp2_with fail
  refine (GET.out _ _ HA.out).mono ?_
  rintro e w2 ⟨rfl, b2⟩
  replace b2 := Lib.hid b2
  go_wp2_with fail
  refine (T.out _).mono ?_
  rintro e w3 ⟨rfl, b4⟩
  have bb := ext_trans b2.out b4
  clear b4
  have row3 : w3.heap[w.heap.size]? = some (.cells #[.string ⟨#[]⟩, .string ⟨#[]⟩, .int .i64 0, .bool false] 27 (0, 0)) := by rw [bb.block _ hg]; exact row1.out
  have hg3 : w.heap.size < w3.heap.size := by have := bb.size; omega
  have c0 := cell_of_row w3 w.heap.size 0 _ 27 (0, 0) row3
  have c1 := cell_of_row w3 w.heap.size 1 _ 27 (0, 0) row3
  have c2 := cell_of_row w3 w.heap.size 2 _ 27 (0, 0) row3
  have c3 := cell_of_row w3 w.heap.size 3 _ 27 (0, 0) row3
  have z := fun j => frozen_of_row w3 w.heap.size j _ 27 row3
  have z0 := z 0
  have z1 := z 1
  have z2 := z 2
  have z3 := z 3
  simp at c0 c1 c2 c3
  have B := Lib.hid (ext_trans b1.out bb)
  replace row3 := Lib.hid row3
  clear bb z
  go_wp2_with fail
  exact bodyPost_ret (v := .tuple #[.agg #[.string ⟨#[]⟩, .string ⟨#[]⟩, .int .i64 0, .bool false], .int .i64 0, .int .i64 13]) (by simp [results, Tryd.results33, go_sem, c0, c1, c2, c3]) rfl ⟨rfl, (((B.out.setCell (Nat.le_refl _) _).setCell (Nat.le_refl _) _).setCell (Nat.le_refl _) _).setCell (Nat.le_refl _) _⟩
set_option maxHeartbeats 2000000 in
set_option maxRecDepth 100000 in
theorem of_ok0 (S : ByteArray) (q : Int) (l : List Nat) (w : World) (hq0 : 0 ≤ q) (hq2 : q ≤ 2) (hS : txtL S = l) (hSz : S.size ≤ 140737488351232) (t : ByteArray) (A k : Int) (C : Nat) (ht : t.size ≤ 140737488351232) (htp : topicB t = true) (hC : C ≤ S.size) (GET : ∀ W v, BytesAt W v l → Calls Tryd.prog 61 #[v, .int .i64 0] W fun e w' => e = .returned (.tuple #[.string t, .int .i64 A, .int .i64 0]) ∧ Below W.heap.size W w') (NB : ∀ w, Calls Tryd.prog 63 #[.int .i64 q] w fun e w' => e = .returned (.agg #[.func (.func 87) #[] #[], .func (.func 88) #[] #[]]) ∧ Below w.heap.size w w') (KF : ∀ w, (Instr.field 114 (.agg #[.func (.func 87) #[] #[], .func (.func 88) #[] #[]]) 1).run Tryd.prog w = .ok (.func (.func 88) #[] #[]) w) (IDG : ∀ W v, BytesAt W v l → Calls Tryd.prog 88 #[v, .int .i64 A] W fun e w' => e = .returned (.tuple #[.int .i64 k, .int .i64 C, .int .i64 0]) ∧ Below W.heap.size W w') :
    Calls Tryd.prog 33 #[.string S, .int .i64 q] w (OfPost (.agg #[.string t, .string (S.extract C S.size), .int .i64 q, .bool false]) k 0 w) := by
  have T := fun w => topic_any t w (by omega)
  rw [htp] at T
  replace T := Lib.hid T
  clear htp
  obtain ⟨v, w1, hconv, a1, b1⟩ := bytes_of S (w.alloc (.cells #[.string ⟨#[]⟩, .string ⟨#[]⟩, .int .i64 0, .bool false] 27))
  rw [hS] at a1
  have hg : w.heap.size < w1.heap.size := by have := b1.size; simp at this; omega
  have row1 : w1.heap[w.heap.size]? = some (.cells #[.string ⟨#[]⟩, .string ⟨#[]⟩, .int .i64 0, .bool false] 27 (0, 0)) := by rw [b1.block _ (by simp)]; exact heap_alloc_new w _
  replace b1 := ext_trans (ext_alloc w _) b1
  replace GET := Lib.hid GET
  replace hS := Lib.hid hS
  replace row1 := Lib.hid row1
  replace b1 := Lib.hid b1
  have hS2 : (S.size : Int) ≤ 140737488351232 := by omega
  have HA := Lib.hid a1
  obtain ⟨x1, n1, rfl, -, -⟩ := a1
  replace NB := Lib.hid NB
  replace IDG := Lib.hid IDG
  have hC' : (C : Int) ≤ S.size := by omega
  go_enter Tryd.func33, Tryd.ntmps33
  go_wp2_with fail
  refine (GET.out _ _ HA.out).mono ?_
  rintro e w2 ⟨rfl, b2⟩
  have b3 := Lib.hid b2
  clear b2
  go_wp2_with fail
  refine (T.out _).mono ?_
  rintro e w3 ⟨rfl, b4⟩
  have b5 := Lib.hid (ext_trans b3.out b4)
  clear b4
  go_wp2_with fail
  refine (NB.out _).mono ?_
  rintro e w4 ⟨rfl, b6⟩
  have b7 := Lib.hid (ext_trans b5.out b6)
  clear b6
  go_wp2_with fail
  refine (IDG.out _ _ (HA.out.keep b7.out (Nat.le_refl _))).mono ?_
  rintro e w5 ⟨rfl, b8⟩
  have bb := ext_trans b7.out b8
  clear b8
  have row5 : w5.heap[w.heap.size]? = some (.cells #[.string ⟨#[]⟩, .string ⟨#[]⟩, .int .i64 0, .bool false] 27 (0, 0)) := by rw [bb.block _ hg]; exact row1.out
  have hg5 : w.heap.size < w5.heap.size := by have := bb.size; omega
  have c0 := cell_of_row w5 w.heap.size 0 _ 27 (0, 0) row5
  have c1 := cell_of_row w5 w.heap.size 1 _ 27 (0, 0) row5
  have c2 := cell_of_row w5 w.heap.size 2 _ 27 (0, 0) row5
  have c3 := cell_of_row w5 w.heap.size 3 _ 27 (0, 0) row5
  have z := fun j => frozen_of_row w5 w.heap.size j _ 27 row5
  have z0 := z 0
  have z1 := z 1
  have z2 := z 2
  have z3 := z 3
  simp at c0 c1 c2 c3
  have B := Lib.hid (ext_trans b1.out bb)
  replace row5 := Lib.hid row5
  clear bb z
  go_wp2_with fail
  exact bodyPost_ret (v := .tuple #[.agg #[.string t, .string (S.extract C S.size), .int .i64 q, .bool false], .int .i64 k, .int .i64 0]) (by simp [results, Tryd.results33, go_sem, c0, c1, c2, c3]) rfl ⟨rfl, (((B.out.setCell (Nat.le_refl _) _).setCell (Nat.le_refl _) _).setCell (Nat.le_refl _) _).setCell (Nat.le_refl _) _⟩
set_option maxHeartbeats 2000000 in
set_option maxRecDepth 100000 in
theorem of_num (S : ByteArray) (q : Int) (l : List Nat) (w : World) (hq0 : 0 ≤ q) (hq2 : q ≤ 2) (hS : txtL S = l) (hSz : S.size ≤ 140737488351232) (t : ByteArray) (A k C E1 : Int) (ht : t.size ≤ 140737488351232) (htp : topicB t = true) (hE : E1 ≠ 0) (GET : ∀ W v, BytesAt W v l → Calls Tryd.prog 61 #[v, .int .i64 0] W fun e w' => e = .returned (.tuple #[.string t, .int .i64 A, .int .i64 0]) ∧ Below W.heap.size W w') (NB : ∀ w, Calls Tryd.prog 63 #[.int .i64 q] w fun e w' => e = .returned (.agg #[.func (.func 78) #[] #[], .func (.func 64) #[] #[]]) ∧ Below w.heap.size w w') (KF : ∀ w, (Instr.field 114 (.agg #[.func (.func 78) #[] #[], .func (.func 64) #[] #[]]) 1).run Tryd.prog w = .ok (.func (.func 64) #[] #[]) w) (IDG : ∀ W v, BytesAt W v l → Calls Tryd.prog 64 #[v, .int .i64 A] W fun e w' => e = .returned (.tuple #[.int .i64 k, .int .i64 C, .int .i64 E1]) ∧ Below W.heap.size W w') :
    Calls Tryd.prog 33 #[.string S, .int .i64 q] w (OfPost (.agg #[.string ⟨#[]⟩, .string ⟨#[]⟩, .int .i64 0, .bool false]) 0 E1 w) := by
  have T := fun w => topic_any t w (by omega)
  rw [htp] at T
  replace T := Lib.hid T
  clear htp
  obtain ⟨v, w1, hconv, a1, b1⟩ := bytes_of S (w.alloc (.cells #[.string ⟨#[]⟩, .string ⟨#[]⟩, .int .i64 0, .bool false] 27))
  rw [hS] at a1
  have hg : w.heap.size < w1.heap.size := by have := b1.size; simp at this; omega
  have row1 : w1.heap[w.heap.size]? = some (.cells #[.string ⟨#[]⟩, .string ⟨#[]⟩, .int .i64 0, .bool false] 27 (0, 0)) := by rw [b1.block _ (by simp)]; exact heap_alloc_new w _
  replace b1 := ext_trans (ext_alloc w _) b1
  replace GET := Lib.hid GET
  replace hS := Lib.hid hS
  replace row1 := Lib.hid row1
  replace b1 := Lib.hid b1
  have hS2 : (S.size : Int) ≤ 140737488351232 := by omega
  have HA := Lib.hid a1
  obtain ⟨x1, n1, rfl, -, -⟩ := a1
  replace NB := Lib.hid NB
  replace IDG := Lib.hid IDG
  have hb : (E1 != 0) = true := by simpa using hE
  clear hE
  go_enter Tryd.func33, Tryd.ntmps33
  go_wp2_with fail
  refine (GET.out _ _ HA.out).mono ?_
  rintro e w2 ⟨rfl, b2⟩
  have b3 := Lib.hid b2
  clear b2
  go_wp2_with fail
  refine (T.out _).mono ?_
  rintro e w3 ⟨rfl, b4⟩
  have b5 := Lib.hid (ext_trans b3.out b4)
  clear b4
  go_wp2_with fail
  refine (NB.out _).mono ?_
  rintro e w4 ⟨rfl, b6⟩
  have b7 := Lib.hid (ext_trans b5.out b6)
  clear b6
  go_wp2_with fail
  refine (IDG.out _ _ (HA.out.keep b7.out (Nat.le_refl _))).mono ?_
  rintro e w5 ⟨rfl, b8⟩
  have bb := ext_trans b7.out b8
  clear b8
  have row5 : w5.heap[w.heap.size]? = some (.cells #[.string ⟨#[]⟩, .string ⟨#[]⟩, .int .i64 0, .bool false] 27 (0, 0)) := by rw [bb.block _ hg]; exact row1.out
  have hg5 : w.heap.size < w5.heap.size := by have := bb.size; omega
  have c0 := cell_of_row w5 w.heap.size 0 _ 27 (0, 0) row5
  have c1 := cell_of_row w5 w.heap.size 1 _ 27 (0, 0) row5
  have c2 := cell_of_row w5 w.heap.size 2 _ 27 (0, 0) row5
  have c3 := cell_of_row w5 w.heap.size 3 _ 27 (0, 0) row5
  have z := fun j => frozen_of_row w5 w.heap.size j _ 27 row5
  have z0 := z 0
  have z1 := z 1
  have z2 := z 2
  have z3 := z 3
  simp at c0 c1 c2 c3
  have B := Lib.hid (ext_trans b1.out bb)
  replace row5 := Lib.hid row5
  clear bb z
  go_wp2_with fail
  exact bodyPost_ret (v := .tuple #[.agg #[.string ⟨#[]⟩, .string ⟨#[]⟩, .int .i64 0, .bool false], .int .i64 0, .int .i64 E1]) (by simp [results, Tryd.results33, go_sem, c0, c1, c2, c3]) rfl ⟨rfl, (((B.out.setCell (Nat.le_refl _) _).setCell (Nat.le_refl _) _).setCell (Nat.le_refl _) _).setCell (Nat.le_refl _) _⟩
set_option maxHeartbeats 2000000 in
set_option maxRecDepth 100000 in
theorem of_okP (S : ByteArray) (q : Int) (l : List Nat) (w : World) (hq0 : 0 ≤ q) (hq2 : q ≤ 2) (hS : txtL S = l) (hSz : S.size ≤ 140737488351232) (t : ByteArray) (A k : Int) (C : Nat) (ht : t.size ≤ 140737488351232) (htp : topicB t = true) (hC : C ≤ S.size) (GET : ∀ W v, BytesAt W v l → Calls Tryd.prog 61 #[v, .int .i64 0] W fun e w' => e = .returned (.tuple #[.string t, .int .i64 A, .int .i64 0]) ∧ Below W.heap.size W w') (NB : ∀ w, Calls Tryd.prog 63 #[.int .i64 q] w fun e w' => e = .returned (.agg #[.func (.func 78) #[] #[], .func (.func 64) #[] #[]]) ∧ Below w.heap.size w w') (KF : ∀ w, (Instr.field 114 (.agg #[.func (.func 78) #[] #[], .func (.func 64) #[] #[]]) 1).run Tryd.prog w = .ok (.func (.func 64) #[] #[]) w) (IDG : ∀ W v, BytesAt W v l → Calls Tryd.prog 64 #[v, .int .i64 A] W fun e w' => e = .returned (.tuple #[.int .i64 k, .int .i64 C, .int .i64 0]) ∧ Below W.heap.size W w') :
    Calls Tryd.prog 33 #[.string S, .int .i64 q] w (OfPost (.agg #[.string t, .string (S.extract C S.size), .int .i64 q, .bool false]) k 0 w) := by
  have T := fun w => topic_any t w (by omega)
  rw [htp] at T
  replace T := Lib.hid T
  clear htp
  obtain ⟨v, w1, hconv, a1, b1⟩ := bytes_of S (w.alloc (.cells #[.string ⟨#[]⟩, .string ⟨#[]⟩, .int .i64 0, .bool false] 27))
  rw [hS] at a1
  have hg : w.heap.size < w1.heap.size := by have := b1.size; simp at this; omega
  have row1 : w1.heap[w.heap.size]? = some (.cells #[.string ⟨#[]⟩, .string ⟨#[]⟩, .int .i64 0, .bool false] 27 (0, 0)) := by rw [b1.block _ (by simp)]; exact heap_alloc_new w _
  replace b1 := ext_trans (ext_alloc w _) b1
  replace GET := Lib.hid GET
  replace hS := Lib.hid hS
  replace row1 := Lib.hid row1
  replace b1 := Lib.hid b1
  have hS2 : (S.size : Int) ≤ 140737488351232 := by omega
  have HA := Lib.hid a1
  obtain ⟨x1, n1, rfl, -, -⟩ := a1
  replace NB := Lib.hid NB
  replace IDG := Lib.hid IDG
  have hC' : (C : Int) ≤ S.size := by omega
  go_enter Tryd.func33, Tryd.ntmps33
  go_wp2_with fail
  refine (GET.out _ _ HA.out).mono ?_
  rintro e w2 ⟨rfl, b2⟩
  have b3 := Lib.hid b2
  clear b2
  go_wp2_with fail
  refine (T.out _).mono ?_
  rintro e w3 ⟨rfl, b4⟩
  have b5 := Lib.hid (ext_trans b3.out b4)
  clear b4
  go_wp2_with fail
  refine (NB.out _).mono ?_
  rintro e w4 ⟨rfl, b6⟩
  have b7 := Lib.hid (ext_trans b5.out b6)
  clear b6
  go_wp2_with fail
  refine (IDG.out _ _ (HA.out.keep b7.out (Nat.le_refl _))).mono ?_
  rintro e w5 ⟨rfl, b8⟩
  have bb := ext_trans b7.out b8
  clear b8
  have row5 : w5.heap[w.heap.size]? = some (.cells #[.string ⟨#[]⟩, .string ⟨#[]⟩, .int .i64 0, .bool false] 27 (0, 0)) := by rw [bb.block _ hg]; exact row1.out
  have hg5 : w.heap.size < w5.heap.size := by have := bb.size; omega
  have c0 := cell_of_row w5 w.heap.size 0 _ 27 (0, 0) row5
  have c1 := cell_of_row w5 w.heap.size 1 _ 27 (0, 0) row5
  have c2 := cell_of_row w5 w.heap.size 2 _ 27 (0, 0) row5
  have c3 := cell_of_row w5 w.heap.size 3 _ 27 (0, 0) row5
  have z := fun j => frozen_of_row w5 w.heap.size j _ 27 row5
  have z0 := z 0
  have z1 := z 1
  have z2 := z 2
  have z3 := z 3
  simp at c0 c1 c2 c3
  have B := Lib.hid (ext_trans b1.out bb)
  replace row5 := Lib.hid row5
  clear bb z
  go_wp2_with fail
  exact bodyPost_ret (v := .tuple #[.agg #[.string t, .string (S.extract C S.size), .int .i64 q, .bool false], .int .i64 k, .int .i64 0]) (by simp [results, Tryd.results33, go_sem, c0, c1, c2, c3]) rfl ⟨rfl, (((B.out.setCell (Nat.le_refl _) _).setCell (Nat.le_refl _) _).setCell (Nat.le_refl _) _).setCell (Nat.le_refl _) _⟩
set_option maxHeartbeats 2000000 in
set_option maxRecDepth 100000 in
theorem rof_get (S : ByteArray) (q : Int) (l : List Nat) (w : World) (hq0 : 0 ≤ q) (hq2 : q ≤ 2) (hS : txtL S = l) (hSz : S.size ≤ 140737488351232) (t : ByteArray) (A E0 : Int) (hE : E0 ≠ 0) (GET : ∀ W v, BytesAt W v l → Calls Tryd.prog 69 #[v, .int .i64 0] W fun e w' => e = .returned (.tuple #[.string t, .int .i64 A, .int .i64 E0]) ∧ Below W.heap.size W w') :
    Calls Tryd.prog 40 #[.string S, .int .i64 q] w (OfPost (.agg #[.string ⟨#[]⟩, .string ⟨#[]⟩, .int .i64 0, .bool false]) 0 E0 w) := by
  obtain ⟨v, w1, hconv, a1, b1⟩ := bytes_of S (w.alloc (.cells #[.string ⟨#[]⟩, .string ⟨#[]⟩, .int .i64 0, .bool false] 27))
  rw [hS] at a1
  have hg : w.heap.size < w1.heap.size := by have := b1.size; simp at this; omega
  have row1 : w1.heap[w.heap.size]? = some (.cells #[.string ⟨#[]⟩, .string ⟨#[]⟩, .int .i64 0, .bool false] 27 (0, 0)) := by rw [b1.block _ (by simp)]; exact heap_alloc_new w _
  replace b1 := ext_trans (ext_alloc w _) b1
  replace GET := Lib.hid GET
  replace hS := Lib.hid hS
  replace row1 := Lib.hid row1
  replace b1 := Lib.hid b1
  have hS2 : (S.size : Int) ≤ 140737488351232 := by omega
  have HA := Lib.hid a1
  obtain ⟨x1, n1, rfl, -, -⟩ := a1
  have hb : (E0 != 0) = true := by simpa using hE
  clear hE
  go_enter Tryd.func40, Tryd.ntmps40
  go_wp2_with fail
  refine (GET.out _ _ HA.out).mono ?_
  rintro e w2 ⟨rfl, bb⟩
  have row2 : w2.heap[w.heap.size]? = some (.cells #[.string ⟨#[]⟩, .string ⟨#[]⟩, .int .i64 0, .bool false] 27 (0, 0)) := by rw [bb.block _ hg]; exact row1.out
  have hg2 : w.heap.size < w2.heap.size := by have := bb.size; omega
  have c0 := cell_of_row w2 w.heap.size 0 _ 27 (0, 0) row2
  have c1 := cell_of_row w2 w.heap.size 1 _ 27 (0, 0) row2
  have c2 := cell_of_row w2 w.heap.size 2 _ 27 (0, 0) row2
  have c3 := cell_of_row w2 w.heap.size 3 _ 27 (0, 0) row2
  have z := fun j => frozen_of_row w2 w.heap.size j _ 27 row2
  have z0 := z 0
  have z1 := z 1
  have z2 := z 2
  have z3 := z 3
  simp at c0 c1 c2 c3
  have B := Lib.hid (ext_trans b1.out bb)
  replace row2 := Lib.hid row2
  clear bb z
  go_wp2_with fail
  exact bodyPost_ret (v := .tuple #[.agg #[.string ⟨#[]⟩, .string ⟨#[]⟩, .int .i64 0, .bool false], .int .i64 0, .int .i64 E0]) (by simp [results, Tryd.results40, go_sem, c0, c1, c2, c3]) rfl ⟨rfl, (((B.out.setCell (Nat.le_refl _) _).setCell (Nat.le_refl _) _).setCell (Nat.le_refl _) _).setCell (Nat.le_refl _) _⟩
set_option maxHeartbeats 2000000 in
set_option maxRecDepth 100000 in
theorem rof_topic (S : ByteArray) (q : Int) (l : List Nat) (w : World) (hq0 : 0 ≤ q) (hq2 : q ≤ 2) (hS : txtL S = l) (hSz : S.size ≤ 140737488351232) (t : ByteArray) (A : Int) (ht : t.size ≤ 140737488351232) (htp : topicB t = false) (GET : ∀ W v, BytesAt W v l → Calls Tryd.prog 69 #[v, .int .i64 0] W fun e w' => e = .returned (.tuple #[.string t, .int .i64 A, .int .i64 0]) ∧ Below W.heap.size W w') :
    Calls Tryd.prog 40 #[.string S, .int .i64 q] w (OfPost (.agg #[.string ⟨#[]⟩, .string ⟨#[]⟩, .int .i64 0, .bool false]) 0 13 w) := by
  have T := fun w => named_any t w (by omega)
  rw [htp] at T
  replace T := Lib.hid T
  clear htp
  obtain ⟨v, w1, hconv, a1, b1⟩ := bytes_of S (w.alloc (.cells #[.string ⟨#[]⟩, .string ⟨#[]⟩, .int .i64 0, .bool false] 27))
  rw [hS] at a1
  have hg : w.heap.size < w1.heap.size := by have := b1.size; simp at this; omega
  have row1 : w1.heap[w.heap.size]? = some (.cells #[.string ⟨#[]⟩, .string ⟨#[]⟩, .int .i64 0, .bool false] 27 (0, 0)) := by rw [b1.block _ (by simp)]; exact heap_alloc_new w _
  replace b1 := ext_trans (ext_alloc w _) b1
  replace GET := Lib.hid GET
  replace hS := Lib.hid hS
  replace row1 := Lib.hid row1
  replace b1 := Lib.hid b1
  have hS2 : (S.size : Int) ≤ 140737488351232 := by omega
  have HA := Lib.hid a1
  obtain ⟨x1, n1, rfl, -, -⟩ := a1
  go_enter Tryd.func40, Tryd.ntmps40
  go_wp2_with fail
  refine (GET.out _ _ HA.out).mono ?_
  rintro e w2 ⟨rfl, b2⟩
  replace b2 := Lib.hid b2
  go_wp2_with fail
  refine (T.out _).mono ?_
  rintro e w3 ⟨rfl, rfl⟩
  have bb := b2.out
  have row3 : w2.heap[w.heap.size]? = some (.cells #[.string ⟨#[]⟩, .string ⟨#[]⟩, .int .i64 0, .bool false] 27 (0, 0)) := by rw [bb.block _ hg]; exact row1.out
  have hg3 : w.heap.size < w2.heap.size := by have := bb.size; omega
  have c0 := cell_of_row w2 w.heap.size 0 _ 27 (0, 0) row3
  have c1 := cell_of_row w2 w.heap.size 1 _ 27 (0, 0) row3
  have c2 := cell_of_row w2 w.heap.size 2 _ 27 (0, 0) row3
  have c3 := cell_of_row w2 w.heap.size 3 _ 27 (0, 0) row3
  have z := fun j => frozen_of_row w2 w.heap.size j _ 27 row3
  have z0 := z 0
  have z1 := z 1
  have z2 := z 2
  have z3 := z 3
  simp at c0 c1 c2 c3
  have B := Lib.hid (ext_trans b1.out bb)
  replace row3 := Lib.hid row3
  clear bb z
  go_wp2_with fail
  exact bodyPost_ret (v := .tuple #[.agg #[.string ⟨#[]⟩, .string ⟨#[]⟩, .int .i64 0, .bool false], .int .i64 0, .int .i64 13]) (by simp [results, Tryd.results40, go_sem, c0, c1, c2, c3]) rfl ⟨rfl, (((B.out.setCell (Nat.le_refl _) _).setCell (Nat.le_refl _) _).setCell (Nat.le_refl _) _).setCell (Nat.le_refl _) _⟩
set_option maxHeartbeats 2000000 in
set_option maxRecDepth 100000 in
theorem rof_num (S : ByteArray) (q : Int) (l : List Nat) (w : World) (hq0 : 0 ≤ q) (hq2 : q ≤ 2) (hS : txtL S = l) (hSz : S.size ≤ 140737488351232) (hqp : 0 < q) (t : ByteArray) (A k C E1 : Int) (ht : t.size ≤ 140737488351232) (htp : topicB t = true) (hE : E1 ≠ 0) (GET : ∀ W v, BytesAt W v l → Calls Tryd.prog 69 #[v, .int .i64 0] W fun e w' => e = .returned (.tuple #[.string t, .int .i64 A, .int .i64 0]) ∧ Below W.heap.size W w') (G2 : ∀ W v, BytesAt W v l → Calls Tryd.prog 70 #[v, .int .i64 A] W fun e w' => e = .returned (.tuple #[.int .i64 k, .int .i64 C, .int .i64 E1]) ∧ Below W.heap.size W w') :
    Calls Tryd.prog 40 #[.string S, .int .i64 q] w (OfPost (.agg #[.string ⟨#[]⟩, .string ⟨#[]⟩, .int .i64 0, .bool false]) 0 E1 w) := by
  have T := fun w => named_any t w (by omega)
  rw [htp] at T
  replace T := Lib.hid T
  clear htp
  obtain ⟨v, w1, hconv, a1, b1⟩ := bytes_of S (w.alloc (.cells #[.string ⟨#[]⟩, .string ⟨#[]⟩, .int .i64 0, .bool false] 27))
  rw [hS] at a1
  have hg : w.heap.size < w1.heap.size := by have := b1.size; simp at this; omega
  have row1 : w1.heap[w.heap.size]? = some (.cells #[.string ⟨#[]⟩, .string ⟨#[]⟩, .int .i64 0, .bool false] 27 (0, 0)) := by rw [b1.block _ (by simp)]; exact heap_alloc_new w _
  replace b1 := ext_trans (ext_alloc w _) b1
  replace GET := Lib.hid GET
  replace hS := Lib.hid hS
  replace row1 := Lib.hid row1
  replace b1 := Lib.hid b1
  have hS2 : (S.size : Int) ≤ 140737488351232 := by omega
  have HA := Lib.hid a1
  obtain ⟨x1, n1, rfl, -, -⟩ := a1
  replace G2 := Lib.hid G2
  have hb : (E1 != 0) = true := by simpa using hE
  clear hE
  go_enter Tryd.func40, Tryd.ntmps40
  go_wp2_with fail
  refine (GET.out _ _ HA.out).mono ?_
  rintro e w2 ⟨rfl, b2⟩
  have A2 := Lib.hid (HA.out.keep b2 (Nat.le_refl _))
  replace b2 := Lib.hid b2
  go_wp2_with fail
  refine (T.out _).mono ?_
  rintro e w3 ⟨rfl, rfl⟩
  go_wp2_with fail
  refine (G2.out _ _ A2.out).mono ?_
  rintro e w5 ⟨rfl, b8⟩
  have A5 := Lib.hid (A2.out.keep b8 (Nat.le_refl _))
  have bb := ext_trans b2.out b8
  clear b8
  have row5 : w5.heap[w.heap.size]? = some (.cells #[.string ⟨#[]⟩, .string ⟨#[]⟩, .int .i64 0, .bool false] 27 (0, 0)) := by rw [bb.block _ hg]; exact row1.out
  have hg5 : w.heap.size < w5.heap.size := by have := bb.size; omega
  have c0 := cell_of_row w5 w.heap.size 0 _ 27 (0, 0) row5
  have c1 := cell_of_row w5 w.heap.size 1 _ 27 (0, 0) row5
  have c2 := cell_of_row w5 w.heap.size 2 _ 27 (0, 0) row5
  have c3 := cell_of_row w5 w.heap.size 3 _ 27 (0, 0) row5
  have z := fun j => frozen_of_row w5 w.heap.size j _ 27 row5
  have z0 := z 0
  have z1 := z 1
  have z2 := z 2
  have z3 := z 3
  simp at c0 c1 c2 c3
  have B := Lib.hid (ext_trans b1.out bb)
  replace row5 := Lib.hid row5
  clear bb z
  go_wp2_with fail
  exact bodyPost_ret (v := .tuple #[.agg #[.string ⟨#[]⟩, .string ⟨#[]⟩, .int .i64 0, .bool false], .int .i64 0, .int .i64 E1]) (by simp [results, Tryd.results40, go_sem, c0, c1, c2, c3]) rfl ⟨rfl, (((B.out.setCell (Nat.le_refl _) _).setCell (Nat.le_refl _) _).setCell (Nat.le_refl _) _).setCell (Nat.le_refl _) _⟩
set_option maxHeartbeats 2000000 in
set_option maxRecDepth 100000 in
theorem rof_nul (S : ByteArray) (q : Int) (l : List Nat) (w : World) (hq0 : 0 ≤ q) (hq2 : q ≤ 2) (hS : txtL S = l) (hSz : S.size ≤ 140737488351232) (hqp : 0 < q) (t : ByteArray) (A C : Int) (ht : t.size ≤ 140737488351232) (htp : topicB t = true) (GET : ∀ W v, BytesAt W v l → Calls Tryd.prog 69 #[v, .int .i64 0] W fun e w' => e = .returned (.tuple #[.string t, .int .i64 A, .int .i64 0]) ∧ Below W.heap.size W w') (G2 : ∀ W v, BytesAt W v l → Calls Tryd.prog 70 #[v, .int .i64 A] W fun e w' => e = .returned (.tuple #[.int .i64 0, .int .i64 C, .int .i64 0]) ∧ Below W.heap.size W w') :
    Calls Tryd.prog 40 #[.string S, .int .i64 q] w (OfPost (.agg #[.string ⟨#[]⟩, .string ⟨#[]⟩, .int .i64 0, .bool false]) 0 1 w) := by
  have T := fun w => named_any t w (by omega)
  rw [htp] at T
  replace T := Lib.hid T
  clear htp
  obtain ⟨v, w1, hconv, a1, b1⟩ := bytes_of S (w.alloc (.cells #[.string ⟨#[]⟩, .string ⟨#[]⟩, .int .i64 0, .bool false] 27))
  rw [hS] at a1
  have hg : w.heap.size < w1.heap.size := by have := b1.size; simp at this; omega
  have row1 : w1.heap[w.heap.size]? = some (.cells #[.string ⟨#[]⟩, .string ⟨#[]⟩, .int .i64 0, .bool false] 27 (0, 0)) := by rw [b1.block _ (by simp)]; exact heap_alloc_new w _
  replace b1 := ext_trans (ext_alloc w _) b1
  replace GET := Lib.hid GET
  replace hS := Lib.hid hS
  replace row1 := Lib.hid row1
  replace b1 := Lib.hid b1
  have hS2 : (S.size : Int) ≤ 140737488351232 := by omega
  have HA := Lib.hid a1
  obtain ⟨x1, n1, rfl, -, -⟩ := a1
  replace G2 := Lib.hid G2
  go_enter Tryd.func40, Tryd.ntmps40
  go_wp2_with fail
  refine (GET.out _ _ HA.out).mono ?_
  rintro e w2 ⟨rfl, b2⟩
  have A2 := Lib.hid (HA.out.keep b2 (Nat.le_refl _))
  replace b2 := Lib.hid b2
  go_wp2_with fail
  refine (T.out _).mono ?_
  rintro e w3 ⟨rfl, rfl⟩
  go_wp2_with fail
  refine (G2.out _ _ A2.out).mono ?_
  rintro e w5 ⟨rfl, b8⟩
  have A5 := Lib.hid (A2.out.keep b8 (Nat.le_refl _))
  have bb := ext_trans b2.out b8
  clear b8
  have row5 : w5.heap[w.heap.size]? = some (.cells #[.string ⟨#[]⟩, .string ⟨#[]⟩, .int .i64 0, .bool false] 27 (0, 0)) := by rw [bb.block _ hg]; exact row1.out
  have hg5 : w.heap.size < w5.heap.size := by have := bb.size; omega
  have c0 := cell_of_row w5 w.heap.size 0 _ 27 (0, 0) row5
  have c1 := cell_of_row w5 w.heap.size 1 _ 27 (0, 0) row5
  have c2 := cell_of_row w5 w.heap.size 2 _ 27 (0, 0) row5
  have c3 := cell_of_row w5 w.heap.size 3 _ 27 (0, 0) row5
  have z := fun j => frozen_of_row w5 w.heap.size j _ 27 row5
  have z0 := z 0
  have z1 := z 1
  have z2 := z 2
  have z3 := z 3
  simp at c0 c1 c2 c3
  have B := Lib.hid (ext_trans b1.out bb)
  replace row5 := Lib.hid row5
  clear bb z
  go_wp2_with fail
  exact bodyPost_ret (v := .tuple #[.agg #[.string ⟨#[]⟩, .string ⟨#[]⟩, .int .i64 0, .bool false], .int .i64 0, .int .i64 1]) (by simp [results, Tryd.results40, go_sem, c0, c1, c2, c3]) rfl ⟨rfl, (((B.out.setCell (Nat.le_refl _) _).setCell (Nat.le_refl _) _).setCell (Nat.le_refl _) _).setCell (Nat.le_refl _) _⟩
end Go.Proofs.YtmpklaokgogigaaDoor.Pub
