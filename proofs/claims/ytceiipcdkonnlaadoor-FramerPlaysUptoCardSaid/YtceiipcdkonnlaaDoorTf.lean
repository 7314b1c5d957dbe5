/-
  LAYER 12: the document's Next.
-/
import Derived.Test.YtceiipcdkonnlaaDoorTe
import Derived.Deep.RegionLaw
import Derived.Deep.AppendLies
namespace Go.Proofs.YtceiipcdkonnlaaDoor
open Go.RowKit
set_option linter.unusedVariables false
set_option linter.unusedSimpArgs false
theorem Far.drewN {S : Nat → Prop} {a b : World} (h : Far S a b) (n : Nat) : Far S a (b.drewN n) := ⟨h.os, h.tape, h.output, h.size, h.block⟩
section
variable {w : World} {B f : Nat} {v : Value} {l : List Nat} {n : Int} {a0 : Addr}
set_option maxHeartbeats 4000000 in
set_option maxRecDepth 100000 in
theorem xn_wait (h : Fd w B f v l n 0) (hbt : ∀ x ∈ l, x < 256) (hl : l.length ≤ 140737488355328) {K F N T : Nat} (hh : hd l = ⟨K, F, N, T, 2⟩) :
    Calls Tryd.prog 12 #[.pointer (some ⟨f, 0, none⟩)] w fun e w' => e = .returned (ansV zR false 0) ∧ Below w.heap.size w w' := by
  have c0 := h.c0
  have c2 := h.c2
  have lt := h.lt
  have GT := rget_any v l 0 (w.alloc (.cells #[.int .i64 0, .int .i64 0, .int .i64 0, .string ⟨#[]⟩] 35)) (h.wt.bytes.keep (ext_alloc w _) (Nat.le_refl _)) hbt hl (Nat.zero_le _)
  unfold GPost at GT
  rw [getV_hd, hh] at GT
  unfold HV at GT
  simp only at GT
  replace GT := Lib.hid GT
  replace hh := Lib.hid hh
  have H := Lib.hid h
  clear h hl hbt
  go_enter Tryd.func12, Tryd.ntmps12
  go_wp2_with fail
  refine GT.out.mono ?_
  rintro e w1 ⟨rfl, b1⟩
  have r1 := at_new b1
  have bb := Lib.hid ((ext_alloc w _).trans (b1.mono (by simp)))
  have RF := Lib.hid (H.out.ext bb.out).row
  have k0 : w1.cell? ⟨f, 0, none⟩ = some v := cell_of_row _ _ 0 _ 28 (0, 0) RF.out
  have q0 : w1.cell? ⟨w.heap.size, 0, none⟩ = _ := cell_of_row w1 w.heap.size 0 _ 35 (0, 0) r1
  have q1 : w1.cell? ⟨w.heap.size, 1, none⟩ = _ := cell_of_row w1 w.heap.size 1 _ 35 (0, 0) r1
  have q2 : w1.cell? ⟨w.heap.size, 2, none⟩ = _ := cell_of_row w1 w.heap.size 2 _ 35 (0, 0) r1
  have q3 : w1.cell? ⟨w.heap.size, 3, none⟩ = _ := cell_of_row w1 w.heap.size 3 _ 35 (0, 0) r1
  have z0 : w1.frozen? ⟨w.heap.size, 0, none⟩ = false := frozen_of_row w1 w.heap.size 0 _ 35 r1
  have z1 : w1.frozen? ⟨w.heap.size, 1, none⟩ = false := frozen_of_row w1 w.heap.size 1 _ 35 r1
  have z2 : w1.frozen? ⟨w.heap.size, 2, none⟩ = false := frozen_of_row w1 w.heap.size 2 _ 35 r1
  have z3 : w1.frozen? ⟨w.heap.size, 3, none⟩ = false := frozen_of_row w1 w.heap.size 3 _ 35 r1
  have lt2 : w.heap.size < w1.heap.size := (Array.getElem?_eq_some_iff.1 r1).1
  have lt4 : f < w1.heap.size := by omega
  have ln := Nat.ne_of_lt lt2
  replace r1 := Lib.hid r1
  clear b1 GT c0 c2
  go_wp2_with fail
  go_quiet (fail)
  go_wp2_with fail
  refine bodyPost_ret (v := ansV zR false 0) (by simp [results, Tryd.results12, go_sem, zR, ansV, q0, q1, q2, q3, ln, lt2]) rfl ⟨rfl, ?_⟩
  repeat (first | exact bb.out | refine Below.drew ?_ | refine below_drewN ?_ _ | refine Below.alloc ?_ (by first | omega | (simp; omega) | simp) _ | refine Below.setCell ?_ (by first | omega | (simp; omega) | simp) _)
set_option maxHeartbeats 4000000 in
set_option maxRecDepth 100000 in
theorem xn_wait2 (h : Fd w B f v l n 0) (hbt : ∀ x ∈ l, x < 256) (hl : l.length ≤ 140737488355328) {K F N T : Nat} (hh : hd l = ⟨K, F, N, T, 0⟩) (hs : l.length < T + N) :
    Calls Tryd.prog 12 #[.pointer (some ⟨f, 0, none⟩)] w fun e w' => e = .returned (ansV zR false 0) ∧ Below w.heap.size w w' := by
  have c0 := h.c0
  have c2 := h.c2
  have lt := h.lt
  obtain ⟨va, vc, rfl⟩ := h.wt.len
  have hbd := hd_bd l
  rw [hh] at hbd
  simp only at hbd
  have hN := hbd.1
  have hT := hbd.2.1
  have hs1 : (l.length : Int) - (T : Int) < (N : Int) := by omega
  have hw : IntKind.i64.wrap ((l.length : Int) - (T : Int)) = (l.length : Int) - (T : Int) := IntWalk.i64_in _ (by omega)
  have GT := rget_any _ l 0 (w.alloc (.cells #[.int .i64 0, .int .i64 0, .int .i64 0, .string ⟨#[]⟩] 35)) (h.wt.bytes.keep (ext_alloc w _) (Nat.le_refl _)) hbt hl (Nat.zero_le _)
  unfold GPost at GT
  rw [getV_hd, hh] at GT
  unfold HV at GT
  simp only at GT
  replace GT := Lib.hid GT
  replace hh := Lib.hid hh
  have H := Lib.hid h
  clear h hl hs hbd hbt
  go_enter Tryd.func12, Tryd.ntmps12
  go_wp2_with fail
  refine GT.out.mono ?_
  rintro e w1 ⟨rfl, b1⟩
  have r1 := at_new b1
  have bb := Lib.hid ((ext_alloc w _).trans (b1.mono (by simp)))
  have RF := Lib.hid (H.out.ext bb.out).row
  have k0 : w1.cell? ⟨f, 0, none⟩ = _ := cell_of_row _ _ 0 _ 28 (0, 0) RF.out
  have q0 : w1.cell? ⟨w.heap.size, 0, none⟩ = _ := cell_of_row w1 w.heap.size 0 _ 35 (0, 0) r1
  have q1 : w1.cell? ⟨w.heap.size, 1, none⟩ = _ := cell_of_row w1 w.heap.size 1 _ 35 (0, 0) r1
  have q2 : w1.cell? ⟨w.heap.size, 2, none⟩ = _ := cell_of_row w1 w.heap.size 2 _ 35 (0, 0) r1
  have q3 : w1.cell? ⟨w.heap.size, 3, none⟩ = _ := cell_of_row w1 w.heap.size 3 _ 35 (0, 0) r1
  have z0 : w1.frozen? ⟨w.heap.size, 0, none⟩ = false := frozen_of_row w1 w.heap.size 0 _ 35 r1
  have z1 : w1.frozen? ⟨w.heap.size, 1, none⟩ = false := frozen_of_row w1 w.heap.size 1 _ 35 r1
  have z2 : w1.frozen? ⟨w.heap.size, 2, none⟩ = false := frozen_of_row w1 w.heap.size 2 _ 35 r1
  have z3 : w1.frozen? ⟨w.heap.size, 3, none⟩ = false := frozen_of_row w1 w.heap.size 3 _ 35 r1
  have lt2 : w.heap.size < w1.heap.size := (Array.getElem?_eq_some_iff.1 r1).1
  have lt4 : f < w1.heap.size := by omega
  have ln := Nat.ne_of_lt lt2
  replace r1 := Lib.hid r1
  clear b1 GT c0 c2
  go_wp2_with fail
  go_quiet (fail)
  go_wp2_with fail
  refine bodyPost_ret (v := ansV zR false 0) (by simp [results, Tryd.results12, go_sem, zR, ansV, q0, q1, q2, q3, ln, lt2]) rfl ⟨rfl, ?_⟩
  repeat (first | exact bb.out | refine Below.drew ?_ | refine below_drewN ?_ _ | refine Below.alloc ?_ (by first | omega | (simp; omega) | simp) _ | refine Below.setCell ?_ (by first | omega | (simp; omega) | simp) _)
set_option maxHeartbeats 4000000 in
set_option maxRecDepth 100000 in
theorem xn_bad (h : Fd w B f v l n 0) (hbt : ∀ x ∈ l, x < 256) (hl : l.length ≤ 140737488355328) {K F N T E : Nat} (hh : hd l = ⟨K, F, N, T, E⟩) (h2 : E ≠ 2) (h0 : E ≠ 0) :
    Calls Tryd.prog 12 #[.pointer (some ⟨f, 0, none⟩)] w fun e w' => e = .returned (ansV zR false E) ∧ Fd w' B f (.slice none 0 0) [] n E ∧ Far (FS f v) w w' := by
  have c0 := h.c0
  have c2 := h.c2
  have lt := h.lt
  have e2 : (((E : Nat) : Int) == 2) = false := by simp; omega
  have e3 : (((E : Nat) : Int) == 0) = false := by simp; omega
  have e0 : (((E : Nat) : Int) != 0) = true := by simp; omega
  have GT := rget_any v l 0 (w.alloc (.cells #[.int .i64 0, .int .i64 0, .int .i64 0, .string ⟨#[]⟩] 35)) (h.wt.bytes.keep (ext_alloc w _) (Nat.le_refl _)) hbt hl (Nat.zero_le _)
  unfold GPost at GT
  rw [getV_hd, hh] at GT
  unfold HV at GT
  simp only at GT
  replace GT := Lib.hid GT
  replace hh := Lib.hid hh
  have H := Lib.hid h
  clear h hl hbt h2 h0
  go_enter Tryd.func12, Tryd.ntmps12
  go_wp2_with fail
  refine GT.out.mono ?_
  rintro e w1 ⟨rfl, b1⟩
  have r1 := at_new b1
  have bb := Lib.hid ((ext_alloc w _).trans (b1.mono (by simp)))
  have RF := Lib.hid (H.out.ext bb.out).row
  have k0 : w1.cell? ⟨f, 0, none⟩ = some v := cell_of_row _ _ 0 _ 28 (0, 0) RF.out
  have q0 : w1.cell? ⟨w.heap.size, 0, none⟩ = _ := cell_of_row w1 w.heap.size 0 _ 35 (0, 0) r1
  have q1 : w1.cell? ⟨w.heap.size, 1, none⟩ = _ := cell_of_row w1 w.heap.size 1 _ 35 (0, 0) r1
  have q2 : w1.cell? ⟨w.heap.size, 2, none⟩ = _ := cell_of_row w1 w.heap.size 2 _ 35 (0, 0) r1
  have q3 : w1.cell? ⟨w.heap.size, 3, none⟩ = _ := cell_of_row w1 w.heap.size 3 _ 35 (0, 0) r1
  have z0 : w1.frozen? ⟨w.heap.size, 0, none⟩ = false := frozen_of_row w1 w.heap.size 0 _ 35 r1
  have z1 : w1.frozen? ⟨w.heap.size, 1, none⟩ = false := frozen_of_row w1 w.heap.size 1 _ 35 r1
  have z2 : w1.frozen? ⟨w.heap.size, 2, none⟩ = false := frozen_of_row w1 w.heap.size 2 _ 35 r1
  have z3 : w1.frozen? ⟨w.heap.size, 3, none⟩ = false := frozen_of_row w1 w.heap.size 3 _ 35 r1
  have lt2 : w.heap.size < w1.heap.size := (Array.getElem?_eq_some_iff.1 r1).1
  have lt4 : f < w1.heap.size := by omega
  have ln := Nat.ne_of_lt lt2
  replace r1 := Lib.hid r1
  clear b1 GT c0 c2
  have y0 : w1.frozen? ⟨f, 0, none⟩ = false := frozen_of_row _ _ 0 _ 28 RF.out
  have y2 : w1.frozen? ⟨f, 2, none⟩ = false := frozen_of_row _ _ 2 _ 28 RF.out
  have k2 : w1.cell? ⟨f, 2, none⟩ = _ := cell_of_row _ _ 2 _ 28 (0, 0) RF.out
  have hne : ¬ w.heap.size = f := by omega
  go_wp2_with fail
  go_quiet (fail)
  go_wp2_with fail
  refine bodyPost_ret (v := ansV zR false E) (by simp [results, Tryd.results12, go_sem, zR, ansV, q0, q1, q2, q3, ln, lt2, hne]) rfl ⟨rfl, ?_⟩
  have end_ : ∀ W0, Below w1.heap.size w1 W0 → ∀ W, Far (fun k => k = w.heap.size) ((W0.setCell ⟨f, 2, none⟩ (.int .i64 (E : Int))).setCell ⟨f, 0, none⟩ (.slice none 0 0)) W → Fd W B f (.slice none 0 0) [] n E ∧ Far (FS f v) w W := fun W0 h0 W hW => by
    have r3 := heap_setCell_same W0 f 2 _ 28 (.int .i64 (E : Int)) ((h0.block f lt4).trans RF.out)
    have r4 := heap_setCell_same _ f 0 _ 28 (.slice none 0 0) r3
    refine ⟨⟨(hW.block f (by have := h0.size; simpa [World.setCell] using Nat.lt_of_lt_of_le lt4 this) (by omega)).trans r4, .inl (World.ownsRow_nil _ _ _ _), H.out.fB⟩, ?_⟩
    exact (((Far.of_ext (S := FS f v) (bb.out.trans (h0.mono (Nat.le_of_lt lt2)))).set ⟨f, 2, none⟩ _ (.inl rfl)).set ⟨f, 0, none⟩ _ (.inl rfl)).trans hW (fun k hk e => by omega)
  exact end_ ((w1.alloc (.cells #[.int .i64 (K : Int), .int .i64 (F : Int), .int .i64 (N : Int)] 33)).drewN nq) (below_drewN (ext_alloc _ _) _) _ (((((Far.refl (fun k => k = w.heap.size) _).set ⟨w.heap.size, 0, none⟩ (.int .i64 0) rfl).set ⟨w.heap.size, 1, none⟩ (.int .i64 0) rfl).set ⟨w.heap.size, 2, none⟩ (.int .i64 0) rfl).set ⟨w.heap.size, 3, none⟩ (.string ⟨#[]⟩) rfl)
end
end Go.Proofs.YtceiipcdkonnlaaDoor
