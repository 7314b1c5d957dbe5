/-
  LAYER 12: the program's Next.
-/
import Derived.Test.YtceiipcdkonnlaaDoorTd
import Derived.Test.YtceiipcdkonnlaaDoorEb
namespace Go.Proofs.YtceiipcdkonnlaaDoor
open Go.RowKit
set_option linter.unusedVariables false
set_option linter.unusedSimpArgs false
/-- What waits, how many were taken, the error. -/
structure St where
  l : List Nat
  n : Int
  d : Nat
/-- What Next answers and leaves. -/
def St.next (s : St) : St × Value × Bool × Nat :=
  if s.d ≠ 0 then (s, zR, false, s.d)
  else if (hd s.l).e = 2 then (s, zR, false, 0)
  else if (hd s.l).e ≠ 0 then (⟨[], s.n, (hd s.l).e⟩, zR, false, (hd s.l).e)
  else if s.l.length < (hd s.l).to + (hd s.l).n then (s, zR, false, 0)
  else (⟨s.l.drop ((hd s.l).to + (hd s.l).n), s.n + 1, 0⟩, rawV s.l, true, 0)
def fltV (d : Nat) : Value := if d = 0 then .nilIface else .iface 67 (.agg #[.int .i64 (d : Int)])
/-- What Next answers: three values. -/
def ansV (x : Value) (ok : Bool) (d : Nat) : Value := .tuple #[x, .bool ok, .int .i64 (d : Int)]
section
variable {w : World} {B f : Nat} {v : Value} {l : List Nat} {n : Int} {a0 : Addr}
theorem Far.alloc {S : Nat → Prop} {a b : World} (h : Far S a b) (o : Obj) : Far S a (b.alloc o) :=
  ⟨h.os, h.tape, h.output, by have := h.size; simp; omega, fun k hk hS => (Below.heap_alloc _ _ _ (Nat.lt_of_lt_of_le hk h.size)).trans (h.block k hk hS)⟩
theorem Gl.ge (g : Gl a0 w) {flt : Value} (h : Fm w B f v l n flt) : 3 ≤ f := by
  have c0 := h.c0
  have h0 : f ≠ 0 := by rintro rfl; rw [g.1] at c0; cases c0
  have h1 : f ≠ 1 := by rintro rfl; rw [g.2.1] at c0; cases c0
  have h2 : f ≠ 2 := by rintro rfl; rw [g.2.2.1] at c0; cases c0
  omega
theorem why_wrong (d : Nat) (w : World) (g : Gl a0 w) : Calls Tryd.prog 24 #[.iface 67 (.agg #[.int .i64 (d : Int)])] w fun e w' => e = .returned (.int .i64 (d : Int)) ∧ Below w.heap.size w w' := by
  have l2 : 2 < w.heap.size := World.block_lt_of_cell? w _ g.2.2.1
  have A := Lib.hid (as_wrong (d : Int) (w.alloc (.cells #[.int .i64 0] 67)) (g.ext (ext_alloc w _)).2.1 w.heap.size (by simp) (by simp) (by simp) (by omega))
  clear g
  go_enter Tryd.func24, Tryd.ntmps24
  go_wp2_with fail
  refine A.out.mono ?_
  rintro e w1 ⟨rfl, b1, c1⟩
  replace b1 := Lib.hid b1
  go_wp2_with fail
  go_ret
  exact ⟨rfl, (ext_alloc w _).trans b1.out⟩
set_option maxHeartbeats 4000000 in
set_option maxRecDepth 100000 in
theorem n_wait (h : Fm w B f v l n .nilIface) (g : Gl a0 w) (T : ∀ W, Below w.heap.size w W → Calls Tryd.prog 22 #[.pointer (some ⟨f, 0, none⟩)] W fun e w' => e = .returned (.tuple #[zR, .iface 107 (.pointer (some a0))]) ∧ Below W.heap.size W w') :
    Calls Tryd.prog 11 #[.pointer (some ⟨f, 0, none⟩)] w fun e w' => e = .returned (ansV zR false 0) ∧ Below w.heap.size w w' := by
  have N := Lib.hid (f_none (h.ext (ext_alloc w (.cells #[.int .i64 0, .int .i64 0, .int .i64 0, .string ⟨#[]⟩] 35))))
  have T1 := Lib.hid (T _ (ext_alloc w (.cells #[.int .i64 0, .int .i64 0, .int .i64 0, .string ⟨#[]⟩] 35)))
  have IS := Lib.hid (is_same a0)
  have G := Lib.hid g
  have H := Lib.hid h
  clear h g T
  go_enter Tryd.func11, Tryd.ntmps11
  go_wp2_with fail
  refine N.out.mono ?_
  rintro e w1 ⟨rfl, rfl⟩
  clear N
  go_wp2_with fail
  refine T1.out.mono ?_
  rintro e w1 ⟨rfl, b1⟩
  have g1 := (G.out.ext ((ext_alloc w _).trans (b1.mono (by simp)))).1
  have r1 := at_new b1
  have bb := Lib.hid ((ext_alloc w _).trans (b1.mono (by simp)))
  have q0 : w1.cell? ⟨w.heap.size, 0, none⟩ = _ := cell_of_row w1 w.heap.size 0 _ 35 (0, 0) r1
  have q1 : w1.cell? ⟨w.heap.size, 1, none⟩ = _ := cell_of_row w1 w.heap.size 1 _ 35 (0, 0) r1
  have q2 : w1.cell? ⟨w.heap.size, 2, none⟩ = _ := cell_of_row w1 w.heap.size 2 _ 35 (0, 0) r1
  have q3 : w1.cell? ⟨w.heap.size, 3, none⟩ = _ := cell_of_row w1 w.heap.size 3 _ 35 (0, 0) r1
  have z0 : w1.frozen? ⟨w.heap.size, 0, none⟩ = false := frozen_of_row w1 w.heap.size 0 _ 35 r1
  have z1 : w1.frozen? ⟨w.heap.size, 1, none⟩ = false := frozen_of_row w1 w.heap.size 1 _ 35 r1
  have z2 : w1.frozen? ⟨w.heap.size, 2, none⟩ = false := frozen_of_row w1 w.heap.size 2 _ 35 r1
  have z3 : w1.frozen? ⟨w.heap.size, 3, none⟩ = false := frozen_of_row w1 w.heap.size 3 _ 35 r1
  have lt2 : w.heap.size < w1.heap.size := (Array.getElem?_eq_some_iff.1 r1).1
  have lt3 : 0 < w1.heap.size := by omega
  have ln := Nat.ne_of_lt lt2
  replace r1 := Lib.hid r1
  clear b1 T1
  unfold zR
  go_wp2_with fail
  refine (IS.out _).mono ?_
  rintro e w2 ⟨rfl, rfl⟩
  go_wp2_with fail
  refine bodyPost_ret (v := ansV zR false 0) (by simp [results, Tryd.results11, go_sem, zR, ansV, q0, q1, q2, q3, ln, lt2]) rfl ⟨rfl, ?_⟩
  repeat (first | exact bb.out | refine Below.drew ?_ | refine Below.alloc ?_ (by simp <;> omega) _ | refine Below.setCell ?_ (by simp <;> omega) _)
set_option maxHeartbeats 4000000 in
set_option maxRecDepth 100000 in
theorem n_bad {flt : Value} {d : Nat} (h : Fm w B f v l n flt) (g : Gl a0 w) (T : ∀ W, Below w.heap.size w W → Calls Tryd.prog 22 #[.pointer (some ⟨f, 0, none⟩)] W fun e w' => e = .returned (.tuple #[zR, .iface 67 (.agg #[.int .i64 (d : Int)])]) ∧ Below W.heap.size W w') :
    Calls Tryd.prog 11 #[.pointer (some ⟨f, 0, none⟩)] w fun e w' => e = .returned (ansV zR false d) ∧ Fm w' B f (.slice none 0 0) [] n (.iface 67 (.agg #[.int .i64 (d : Int)])) ∧ Far (FS f v) w w' := by
  have N := Lib.hid (f_none (h.ext (ext_alloc w (.cells #[.int .i64 0, .int .i64 0, .int .i64 0, .string ⟨#[]⟩] 35))))
  have T1 := Lib.hid (T _ (ext_alloc w (.cells #[.int .i64 0, .int .i64 0, .int .i64 0, .string ⟨#[]⟩] 35)))
  have IS := Lib.hid (is_wrong (.agg #[.int .i64 (d : Int)]) a0)
  have WY := Lib.hid (fun W (hW : Gl a0 W) => why_wrong d W hW)
  have G := Lib.hid g
  have H := Lib.hid h
  clear h g T
  go_enter Tryd.func11, Tryd.ntmps11
  go_wp2_with fail
  refine N.out.mono ?_
  rintro e w1 ⟨rfl, rfl⟩
  clear N
  go_wp2_with fail
  refine T1.out.mono ?_
  rintro e w1 ⟨rfl, b1⟩
  have g1 := (G.out.ext ((ext_alloc w _).trans (b1.mono (by simp)))).1
  have r1 := at_new b1
  have bb := Lib.hid ((ext_alloc w _).trans (b1.mono (by simp)))
  have q0 : w1.cell? ⟨w.heap.size, 0, none⟩ = _ := cell_of_row w1 w.heap.size 0 _ 35 (0, 0) r1
  have q1 : w1.cell? ⟨w.heap.size, 1, none⟩ = _ := cell_of_row w1 w.heap.size 1 _ 35 (0, 0) r1
  have q2 : w1.cell? ⟨w.heap.size, 2, none⟩ = _ := cell_of_row w1 w.heap.size 2 _ 35 (0, 0) r1
  have q3 : w1.cell? ⟨w.heap.size, 3, none⟩ = _ := cell_of_row w1 w.heap.size 3 _ 35 (0, 0) r1
  have z0 : w1.frozen? ⟨w.heap.size, 0, none⟩ = false := frozen_of_row w1 w.heap.size 0 _ 35 r1
  have z1 : w1.frozen? ⟨w.heap.size, 1, none⟩ = false := frozen_of_row w1 w.heap.size 1 _ 35 r1
  have z2 : w1.frozen? ⟨w.heap.size, 2, none⟩ = false := frozen_of_row w1 w.heap.size 2 _ 35 r1
  have z3 : w1.frozen? ⟨w.heap.size, 3, none⟩ = false := frozen_of_row w1 w.heap.size 3 _ 35 r1
  have lt2 : w.heap.size < w1.heap.size := (Array.getElem?_eq_some_iff.1 r1).1
  have lt5 : f < w1.heap.size := by have := H.out.lt; omega
  have lt3 : 0 < w1.heap.size := by omega
  have ln := Nat.ne_of_lt lt2
  replace r1 := Lib.hid r1
  clear b1 T1
  have RF := Lib.hid ((H.out.ext bb.out).row)
  have k1 : w1.cell? ⟨f, 1, none⟩ = _ := cell_of_row _ _ 1 _ 57 (0, 0) RF.out
  have k3 : w1.cell? ⟨f, 3, none⟩ = _ := cell_of_row _ _ 3 _ 57 (0, 0) RF.out
  have y1 : w1.frozen? ⟨f, 1, none⟩ = false := frozen_of_row _ _ 1 _ 57 RF.out
  have y3 : w1.frozen? ⟨f, 3, none⟩ = false := frozen_of_row _ _ 3 _ 57 RF.out
  unfold zR
  go_wp2_with fail
  refine (IS.out _).mono ?_
  rintro e w2 ⟨rfl, rfl⟩
  go_wp2_with fail
  have FX := Lib.hid (((((Far.of_ext (S := fun k => k = f) bb.out).set ⟨f, 3, none⟩ (.iface 67 (.agg #[.int .i64 (d : Int)])) rfl).set ⟨f, 1, none⟩ (.slice none 0 0) rfl).alloc (.cells #[.int .i64 0, .int .i64 0, .int .i64 0, .string ⟨#[]⟩] 35)))
  have r3 := heap_setCell_same w1 f 3 _ 57 (.iface 67 (.agg #[.int .i64 (d : Int)])) RF.out
  have r4 := (Below.heap_alloc _ (.cells #[.int .i64 0, .int .i64 0, .int .i64 0, .string ⟨#[]⟩] 35) _ (by simpa [World.setCell] using lt5)).trans (heap_setCell_same _ f 1 _ 57 (.slice none 0 0) r3)
  have r5 : (((w1.setCell ⟨f, 3, none⟩ (.iface 67 (.agg #[.int .i64 (d : Int)]))).setCell ⟨f, 1, none⟩ (.slice none 0 0)).alloc (.cells #[.int .i64 0, .int .i64 0, .int .i64 0, .string ⟨#[]⟩] 35)).heap[w.heap.size]? = some (.cells #[.int .i64 0, .int .i64 0, .int .i64 0, .string ⟨#[]⟩] 35 (0, 0)) := by
    have hne : w.heap.size ≠ f := by have := H.out.lt; omega
    rw [Below.heap_alloc _ _ _ (by simpa [World.setCell] using lt2), Below.heap_setCell _ _ _ _ hne, Below.heap_setCell _ _ _ _ hne]; exact r1.out
  generalize ((w1.setCell ⟨f, 3, none⟩ (.iface 67 (.agg #[.int .i64 (d : Int)]))).setCell ⟨f, 1, none⟩ (.slice none 0 0)).alloc (.cells #[.int .i64 0, .int .i64 0, .int .i64 0, .string ⟨#[]⟩] 35) = W2 at FX r4 r5 ⊢
  refine (WY.out W2 (G.out.far FX.out (fun k hk => by rw [hk]; exact G.out.ge H.out))).mono ?_
  rintro e w3 ⟨rfl, b3⟩
  have ltr : w.heap.size < W2.heap.size := (Array.getElem?_eq_some_iff.1 r5).1
  have ltf : f < W2.heap.size := (Array.getElem?_eq_some_iff.1 r4).1
  have R4 := Lib.hid ((b3.block f ltf).trans r4)
  have R5 := Lib.hid ((b3.block w.heap.size ltr).trans r5)
  have FY := Lib.hid (FX.out.trans (Far.of_ext (S := fun k => k = f) b3) (fun k _ hk => hk))
  clear q0 q1 q2 q3 z0 z1 z2 z3 k1 k3 y1 y3 r3 r4 r5 g1
  have q0 : w3.cell? ⟨w.heap.size, 0, none⟩ = _ := cell_of_row _ _ 0 _ 35 (0, 0) R5.out
  have q1 : w3.cell? ⟨w.heap.size, 1, none⟩ = _ := cell_of_row _ _ 1 _ 35 (0, 0) R5.out
  have q2 : w3.cell? ⟨w.heap.size, 2, none⟩ = _ := cell_of_row _ _ 2 _ 35 (0, 0) R5.out
  have q3 : w3.cell? ⟨w.heap.size, 3, none⟩ = _ := cell_of_row _ _ 3 _ 35 (0, 0) R5.out
  have z0 : w3.frozen? ⟨w.heap.size, 0, none⟩ = false := frozen_of_row _ _ 0 _ 35 R5.out
  have z1 : w3.frozen? ⟨w.heap.size, 1, none⟩ = false := frozen_of_row _ _ 1 _ 35 R5.out
  have z2 : w3.frozen? ⟨w.heap.size, 2, none⟩ = false := frozen_of_row _ _ 2 _ 35 R5.out
  have z3 : w3.frozen? ⟨w.heap.size, 3, none⟩ = false := frozen_of_row _ _ 3 _ 35 R5.out
  clear b3
  go_wp2_with fail
  refine bodyPost_ret (v := ansV zR false d) (by simp [results, Tryd.results11, go_sem, zR, ansV, q0, q1, q2, q3]) rfl ⟨rfl, ?_⟩
  have hne : f ≠ w.heap.size := by have := H.out.lt; omega
  have FZ := (((((Far.refl (fun k => k = w.heap.size) w3).set ⟨w.heap.size, 0, none⟩ (.int .i64 0) rfl).set ⟨w.heap.size, 1, none⟩ (.int .i64 0) rfl).set ⟨w.heap.size, 2, none⟩ (.int .i64 0) rfl).set ⟨w.heap.size, 3, none⟩ (.string ⟨#[]⟩) rfl)
  have ltf3 : f < w3.heap.size := (Array.getElem?_eq_some_iff.1 R4.out).1
  have end_ : ∀ W, Far (fun k => k = w.heap.size) w3 W → Fm W B f (.slice none 0 0) [] n (.iface 67 (.agg #[.int .i64 (d : Int)])) ∧ Far (FS f v) w W := fun W hW =>
    ⟨⟨(hW.block f ltf3 hne).trans R4.out, .inl (World.ownsRow_nil _ _ _ _), H.out.fB, by simp⟩, (FY.out.mono (fun k _ hk => (.inl hk : FS f v k))).trans hW (fun k hk e => by omega)⟩
  exact end_ _ FZ
set_option maxHeartbeats 4000000 in
set_option maxRecDepth 100000 in
theorem n_take {K F N : Int} {bs : ByteArray} {l' : List Nat} {n' : Int} (h : Fm w B f v l n .nilIface) (T : ∀ W, Below w.heap.size w W → Calls Tryd.prog 22 #[.pointer (some ⟨f, 0, none⟩)] W fun e w' => ∃ v', e = .returned (.tuple #[.agg #[.int .i64 K, .int .i64 F, .int .i64 N, .string bs], .nilIface]) ∧ Fm w' B f v' l' n' .nilIface ∧ Far (FS f v) W w' ∧ ∀ k, v'.ownBlock = some k → v.ownBlock = some k) :
    Calls Tryd.prog 11 #[.pointer (some ⟨f, 0, none⟩)] w fun e w' => ∃ v', e = .returned (ansV (.agg #[.int .i64 K, .int .i64 F, .int .i64 N, .string bs]) true 0) ∧ Fm w' B f v' l' n' .nilIface ∧ Far (FS f v) w w' ∧ ∀ k, v'.ownBlock = some k → v.ownBlock = some k := by
  have N0 := Lib.hid (f_none (h.ext (ext_alloc w (.cells #[.int .i64 0, .int .i64 0, .int .i64 0, .string ⟨#[]⟩] 35))))
  have T1 := Lib.hid (T _ (ext_alloc w (.cells #[.int .i64 0, .int .i64 0, .int .i64 0, .string ⟨#[]⟩] 35)))
  have H := Lib.hid h
  clear h T
  go_enter Tryd.func11, Tryd.ntmps11
  go_wp2_with fail
  refine N0.out.mono ?_
  rintro e w1 ⟨rfl, rfl⟩
  clear N0
  go_wp2_with fail
  refine T1.out.mono ?_
  rintro e w1 ⟨v', rfl, h1, F1, o1⟩
  have nr : ¬ FS f v w.heap.size := fun hk => by have := H.out.hi hk; omega
  have r1 : w1.heap[w.heap.size]? = some (.cells #[.int .i64 0, .int .i64 0, .int .i64 0, .string ⟨#[]⟩] 35 (0, 0)) := (F1.block w.heap.size (by simp) nr).trans (heap_alloc_new w _)
  have F0 := Lib.hid ((Far.of_ext (S := FS f v) (ext_alloc w (.cells #[.int .i64 0, .int .i64 0, .int .i64 0, .string ⟨#[]⟩] 35))).trans F1 (fun k _ hk => hk))
  have H1 := Lib.hid h1
  have O1 := Lib.hid o1
  have q0 : w1.cell? ⟨w.heap.size, 0, none⟩ = _ := cell_of_row w1 w.heap.size 0 _ 35 (0, 0) r1
  have q1 : w1.cell? ⟨w.heap.size, 1, none⟩ = _ := cell_of_row w1 w.heap.size 1 _ 35 (0, 0) r1
  have q2 : w1.cell? ⟨w.heap.size, 2, none⟩ = _ := cell_of_row w1 w.heap.size 2 _ 35 (0, 0) r1
  have q3 : w1.cell? ⟨w.heap.size, 3, none⟩ = _ := cell_of_row w1 w.heap.size 3 _ 35 (0, 0) r1
  have z0 : w1.frozen? ⟨w.heap.size, 0, none⟩ = false := frozen_of_row w1 w.heap.size 0 _ 35 r1
  have z1 : w1.frozen? ⟨w.heap.size, 1, none⟩ = false := frozen_of_row w1 w.heap.size 1 _ 35 r1
  have z2 : w1.frozen? ⟨w.heap.size, 2, none⟩ = false := frozen_of_row w1 w.heap.size 2 _ 35 r1
  have z3 : w1.frozen? ⟨w.heap.size, 3, none⟩ = false := frozen_of_row w1 w.heap.size 3 _ 35 r1
  have lt2 : w.heap.size < w1.heap.size := (Array.getElem?_eq_some_iff.1 r1).1
  have ln := Nat.ne_of_lt lt2
  replace r1 := Lib.hid r1
  clear h1 F1 o1 T1
  go_wp2_with fail
  refine bodyPost_ret (v := ansV (.agg #[.int .i64 K, .int .i64 F, .int .i64 N, .string bs]) true 0) (by simp [results, Tryd.results11, go_sem, ansV, q0, q1, q2, q3, ln, lt2]) rfl ⟨v', rfl, ?_⟩
  have end_ : ∀ W, Far (fun k => k = w.heap.size) w1 W → Fm W B f v' l' n' .nilIface ∧ Far (FS f v) w W ∧ ∀ k, v'.ownBlock = some k → v.ownBlock = some k := fun W hW =>
    ⟨H1.out.fars hW (fun k hk e => by subst e; exact nr (hk.imp id (fun h => O1.out _ h))), F0.out.trans hW (fun k hk e => by omega), O1.out⟩
  refine end_ _ ?_
  repeat (first | exact Far.refl _ _ | refine Far.drew ?_ | refine Far.alloc ?_ _ | refine Far.set ?_ _ _ rfl)
theorem f_next {s : St} (h : Fm w B f v s.l s.n (fltV s.d)) (g : Gl a0 w) (hl : s.l.length ≤ 140737488355328) (hn0 : 0 ≤ s.n) (hn1 : s.n ≤ 1000000) (hd0 : s.d ≠ 0 → s.l = []) :
    Calls Tryd.prog 11 #[.pointer (some ⟨f, 0, none⟩)] w fun e w' => ∃ v', e = .returned (ansV s.next.2.1 s.next.2.2.1 s.next.2.2.2) ∧ Fm w' B f v' s.next.1.l s.next.1.n (fltV s.next.1.d) ∧ Far (FS f v) w w' ∧ ∀ k, v'.ownBlock = some k → v.ownBlock = some k := by
  obtain ⟨l, n, d⟩ := s
  simp only at h hl hn0 hn1 hd0
  by_cases hd : d = 0
  · subst hd
    have h' : Fm w B f v l n .nilIface := h
    by_cases h2 : (hd l).e = 2
    · have e1 : (St.next ⟨l, n, 0⟩) = (⟨l, n, 0⟩, zR, false, 0) := by simp [St.next, h2]
      rw [e1]
      refine (n_wait h' g (fun W hW => ?_)).mono ?_
      · exact t_wait (h'.ext hW) (g.ext hW) hl (K := (hd l).k) (F := (hd l).f) (N := (hd l).n) (T := (hd l).to) (by rw [← h2])
      · rintro e w' ⟨rfl, hb⟩
        exact ⟨v, rfl, h'.ext hb, Far.of_ext hb, fun k hk => hk⟩
    by_cases h0 : (hd l).e = 0
    · by_cases hs : l.length < (hd l).to + (hd l).n
      · have e1 : (St.next ⟨l, n, 0⟩) = (⟨l, n, 0⟩, zR, false, 0) := by simp [St.next, h0, hs]
        rw [e1]
        refine (n_wait h' g (fun W hW => ?_)).mono ?_
        · exact t_wait2 (h'.ext hW) (g.ext hW) hl (K := (hd l).k) (F := (hd l).f) (N := (hd l).n) (T := (hd l).to) (by rw [← h0]) hs
        · rintro e w' ⟨rfl, hb⟩
          exact ⟨v, rfl, h'.ext hb, Far.of_ext hb, fun k hk => hk⟩
      · have e1 : (St.next ⟨l, n, 0⟩) = (⟨l.drop ((hd l).to + (hd l).n), n + 1, 0⟩, rawV l, true, 0) := by simp [St.next, h0, hs]
        rw [e1]
        exact n_take h' (fun W hW => (t_take (h'.ext hW) (g.ext hW) hl h0 (by omega) hn0 hn1).mono (fun e w' he => he))
    · have e1 : (St.next ⟨l, n, 0⟩) = (⟨[], n, (hd l).e⟩, zR, false, (hd l).e) := by simp [St.next, h0, h2]
      rw [e1]
      refine (n_bad h' g (d := (hd l).e) (fun W hW => ?_)).mono ?_
      · exact t_bad (h'.ext hW) (g.ext hW) hl (K := (hd l).k) (F := (hd l).f) (N := (hd l).n) (T := (hd l).to) rfl h2 h0
      · rintro e w' ⟨rfl, hf, hF⟩
        refine ⟨.slice none 0 0, rfl, ?_, hF, fun k hk => by cases hk⟩
        simpa [fltV, h0] using hf
  · have h' : Fm w B f v l n (.iface 67 (.agg #[.int .i64 (d : Int)])) := by simpa [fltV, hd] using h
    have e1 : (St.next ⟨l, n, d⟩) = (⟨l, n, d⟩, zR, false, d) := by simp [St.next, hd]
    rw [e1]
    obtain rfl := hd0 hd
    refine (n_bad h' g (d := d) (fun W hW => t_dead (h'.ext hW))).mono ?_
    rintro e w' ⟨rfl, hf, hF⟩
    refine ⟨.slice none 0 0, rfl, ?_, hF, fun k hk => by cases hk⟩
    simpa [fltV, hd] using hf
end
end Go.Proofs.YtceiipcdkonnlaaDoor
