/-
  LAYER 14: Of, the program's, of what was put.
-/
import Derived.Test.YtkihhnndidaloaaPk
namespace Go.Proofs.Ytkihhnndidaloaa
open Go.RowKit

set_option maxHeartbeats 2000000 in
set_option maxRecDepth 100000 in
theorem of14_0 (S t x : ByteArray) (q k : Int) (A C : Nat) (l : List Nat) (w : World) (hq0 : 0 ≤ q) (hq2 : q ≤ 2) (hS : txtL S = l) (ht : t.size ≤ 65535) (htp : topicB t = true)
    (GET : ∀ W v, BytesAt W v l → Calls Try.prog 49 #[v, .int .i64 0] W fun e w' => e = .returned (.tuple #[.string t, .int .i64 A, .int .i64 0]) ∧ Below W.heap.size W w')
    (NB : ∀ w, Calls Try.prog 46 #[.int .i64 q] w fun e w' => e = .returned (.agg #[.func (.func 78) #[] #[], .func (.func 79) #[] #[]]) ∧ Below w.heap.size w w')
    (KF : ∀ w, (Instr.field 71 (.agg #[.func (.func 78) #[] #[], .func (.func 79) #[] #[]]) 1).run Try.prog w = .ok (.func (.func 79) #[] #[]) w)
    (IDG : ∀ W v, BytesAt W v l → Calls Try.prog 79 #[v, .int .i64 A] W fun e w' => e = .returned (.tuple #[.int .i64 k, .int .i64 C, .int .i64 0]) ∧ Below W.heap.size W w')
    (hC : C ≤ S.size) (hSz : S.size ≤ 4096) (hx : S.extract C S.size = x) :
    Calls Try.prog 17 #[.string S, .int .i64 q] w fun e w' => e = .returned (.tuple #[.agg #[.string t, .string x, .int .i64 q, .bool false], .int .i64 k, .int .i64 0]) ∧ Below w.heap.size w w' := by
  have T := fun w => topic_any t w (by omega)
  rw [htp] at T
  obtain ⟨v, w1, hconv, a1, b1⟩ := bytes_of S (w.alloc (.cells #[.string ⟨#[]⟩, .string ⟨#[]⟩, .int .i64 0, .bool false] 23))
  rw [hS] at a1
  have hg : w.heap.size < w1.heap.size := by have := b1.size; simp at this; omega
  have row1 : w1.heap[w.heap.size]? = some (.cells #[.string ⟨#[]⟩, .string ⟨#[]⟩, .int .i64 0, .bool false] 23 (0, 0)) := by rw [b1.block _ (by simp)]; exact heap_alloc_new w _
  replace b1 := ext_trans (ext_alloc w _) b1
  replace T := Lib.hid T
  replace GET := Lib.hid GET
  replace NB := Lib.hid NB
  replace IDG := Lib.hid IDG
  replace hx := Lib.hid hx
  replace hS := Lib.hid hS
  replace row1 := Lib.hid row1
  replace b1 := Lib.hid b1
  have hC' : (C : Int) ≤ S.size := by omega
  have hC2 : (C : Int) ≤ 4096 := by omega
  have hS2 : (S.size : Int) ≤ 4096 := by omega
  have HA := Lib.hid a1
  obtain ⟨x1, n1, rfl, -, -⟩ := a1
  clear htp
  go_enter Try.func17, Try.ntmps17
  go_wp2_with fail
  refine (GET.out _ _ HA.out).mono ?_
  rintro e w2 ⟨rfl, b2⟩
  have A2 := Lib.hid (HA.out.keep b2 (Nat.le_refl _))
  have b3 := Lib.hid b2
  clear b2
  go_wp2_with fail
  refine (T.out _).mono ?_
  rintro e w3 ⟨rfl, b4⟩
  have b5 := Lib.hid (ext_trans b3.out b4)
  clear b4
  go_wp2_with fail
  refine (NB.out _).mono ?_
  rintro e w4 ⟨rfl, b6⟩
  have b7 := Lib.hid (ext_trans b5.out b6)
  clear b6
  go_wp2_with fail
  refine (IDG.out _ _ (HA.out.keep b7.out (Nat.le_refl _))).mono ?_
  rintro e w5 ⟨rfl, b8⟩
  have b9 := ext_trans b7.out b8
  have row5 : w5.heap[w.heap.size]? = some (.cells #[.string ⟨#[]⟩, .string ⟨#[]⟩, .int .i64 0, .bool false] 23 (0, 0)) := by rw [b9.block _ hg]; exact row1.out
  have hg5 : w.heap.size < w5.heap.size := by have := b9.size; omega
  have c0 := cell_of_row w5 w.heap.size 0 _ 23 (0, 0) row5
  have c1 := cell_of_row w5 w.heap.size 1 _ 23 (0, 0) row5
  have c2 := cell_of_row w5 w.heap.size 2 _ 23 (0, 0) row5
  have c3 := cell_of_row w5 w.heap.size 3 _ 23 (0, 0) row5
  have z := fun j => frozen_of_row w5 w.heap.size j _ 23 row5
  have z0 := z 0
  have z1 := z 1
  have z2 := z 2
  have z3 := z 3
  simp at c0 c1 c2 c3
  replace b9 := Lib.hid b9
  replace row5 := Lib.hid row5
  clear b8 z
  go_wp2_with fail
  exact bodyPost_ret (v := .tuple #[.agg #[.string t, .string (S.extract C S.size), .int .i64 q, .bool false], .int .i64 k, .int .i64 0]) (by simp [results, Try.results17, go_sem, c0, c1, c2, c3]) rfl ⟨by rw [hx.out], ((((ext_trans b1.out b9.out).setCell (Nat.le_refl _) _).setCell (Nat.le_refl _) _).setCell (Nat.le_refl _) _).setCell (Nat.le_refl _) _⟩
set_option maxHeartbeats 2000000 in
set_option maxRecDepth 100000 in
theorem of14_P (S t x : ByteArray) (q k : Int) (A C : Nat) (l : List Nat) (w : World) (hq0 : 0 ≤ q) (hq2 : q ≤ 2) (hS : txtL S = l) (ht : t.size ≤ 65535) (htp : topicB t = true)
    (GET : ∀ W v, BytesAt W v l → Calls Try.prog 49 #[v, .int .i64 0] W fun e w' => e = .returned (.tuple #[.string t, .int .i64 A, .int .i64 0]) ∧ Below W.heap.size W w')
    (NB : ∀ w, Calls Try.prog 46 #[.int .i64 q] w fun e w' => e = .returned (.agg #[.func (.func 19) #[] #[], .func (.func 54) #[] #[]]) ∧ Below w.heap.size w w')
    (KF : ∀ w, (Instr.field 71 (.agg #[.func (.func 19) #[] #[], .func (.func 54) #[] #[]]) 1).run Try.prog w = .ok (.func (.func 54) #[] #[]) w)
    (IDG : ∀ W v, BytesAt W v l → Calls Try.prog 54 #[v, .int .i64 A] W fun e w' => e = .returned (.tuple #[.int .i64 k, .int .i64 C, .int .i64 0]) ∧ Below W.heap.size W w')
    (hC : C ≤ S.size) (hSz : S.size ≤ 4096) (hx : S.extract C S.size = x) :
    Calls Try.prog 17 #[.string S, .int .i64 q] w fun e w' => e = .returned (.tuple #[.agg #[.string t, .string x, .int .i64 q, .bool false], .int .i64 k, .int .i64 0]) ∧ Below w.heap.size w w' := by
  have T := fun w => topic_any t w (by omega)
  rw [htp] at T
  obtain ⟨v, w1, hconv, a1, b1⟩ := bytes_of S (w.alloc (.cells #[.string ⟨#[]⟩, .string ⟨#[]⟩, .int .i64 0, .bool false] 23))
  rw [hS] at a1
  have hg : w.heap.size < w1.heap.size := by have := b1.size; simp at this; omega
  have row1 : w1.heap[w.heap.size]? = some (.cells #[.string ⟨#[]⟩, .string ⟨#[]⟩, .int .i64 0, .bool false] 23 (0, 0)) := by rw [b1.block _ (by simp)]; exact heap_alloc_new w _
  replace b1 := ext_trans (ext_alloc w _) b1
  replace T := Lib.hid T
  replace GET := Lib.hid GET
  replace NB := Lib.hid NB
  replace IDG := Lib.hid IDG
  replace hx := Lib.hid hx
  replace hS := Lib.hid hS
  replace row1 := Lib.hid row1
  replace b1 := Lib.hid b1
  have hC' : (C : Int) ≤ S.size := by omega
  have hC2 : (C : Int) ≤ 4096 := by omega
  have hS2 : (S.size : Int) ≤ 4096 := by omega
  have HA := Lib.hid a1
  obtain ⟨x1, n1, rfl, -, -⟩ := a1
  clear htp
  go_enter Try.func17, Try.ntmps17
  go_wp2_with fail
  refine (GET.out _ _ HA.out).mono ?_
  rintro e w2 ⟨rfl, b2⟩
  have A2 := Lib.hid (HA.out.keep b2 (Nat.le_refl _))
  have b3 := Lib.hid b2
  clear b2
  go_wp2_with fail
  refine (T.out _).mono ?_
  rintro e w3 ⟨rfl, b4⟩
  have b5 := Lib.hid (ext_trans b3.out b4)
  clear b4
  go_wp2_with fail
  refine (NB.out _).mono ?_
  rintro e w4 ⟨rfl, b6⟩
  have b7 := Lib.hid (ext_trans b5.out b6)
  clear b6
  go_wp2_with fail
  refine (IDG.out _ _ (HA.out.keep b7.out (Nat.le_refl _))).mono ?_
  rintro e w5 ⟨rfl, b8⟩
  have b9 := ext_trans b7.out b8
  have row5 : w5.heap[w.heap.size]? = some (.cells #[.string ⟨#[]⟩, .string ⟨#[]⟩, .int .i64 0, .bool false] 23 (0, 0)) := by rw [b9.block _ hg]; exact row1.out
  have hg5 : w.heap.size < w5.heap.size := by have := b9.size; omega
  have c0 := cell_of_row w5 w.heap.size 0 _ 23 (0, 0) row5
  have c1 := cell_of_row w5 w.heap.size 1 _ 23 (0, 0) row5
  have c2 := cell_of_row w5 w.heap.size 2 _ 23 (0, 0) row5
  have c3 := cell_of_row w5 w.heap.size 3 _ 23 (0, 0) row5
  have z := fun j => frozen_of_row w5 w.heap.size j _ 23 row5
  have z0 := z 0
  have z1 := z 1
  have z2 := z 2
  have z3 := z 3
  simp at c0 c1 c2 c3
  replace b9 := Lib.hid b9
  replace row5 := Lib.hid row5
  clear b8 z
  go_wp2_with fail
  exact bodyPost_ret (v := .tuple #[.agg #[.string t, .string (S.extract C S.size), .int .i64 q, .bool false], .int .i64 k, .int .i64 0]) (by simp [results, Try.results17, go_sem, c0, c1, c2, c3]) rfl ⟨by rw [hx.out], ((((ext_trans b1.out b9.out).setCell (Nat.le_refl _) _).setCell (Nat.le_refl _) _).setCell (Nat.le_refl _) _).setCell (Nat.le_refl _) _⟩
end Go.Proofs.Ytkihhnndidaloaa
