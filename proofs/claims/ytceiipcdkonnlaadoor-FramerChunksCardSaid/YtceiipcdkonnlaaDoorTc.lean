/-
  LAYER 12: a head as plain numbers; what the program's take answers.
-/
import Derived.Test.YtceiipcdkonnlaaDoorTb
import Derived.RegionTactic
import Derived.ChangeAlike
import Derived.BigRegion
namespace Go.Proofs.YtceiipcdkonnlaaDoor
open Go.RowKit
set_option linter.unusedVariables false
set_option linter.unusedSimpArgs false
/-- What a head reads as: kind, flags, the length, where the body begins, the error. -/
structure Hd where
  k : Nat
  f : Nat
  n : Nat
  to : Nat
  e : Nat
def RightN (k f : Nat) : Nat := (RightF (k : Int) (f : Int)).toNat
theorem RightF_nn (k f : Int) : 0 ≤ RightF k f ∧ RightF k f ≤ 11 := by
  unfold RightF
  split
  · omega
  · split
    · split <;> omega
    · split
      · split <;> omega
      · split <;> omega
theorem RightN_eq (k f : Nat) : ((RightN k f : Nat) : Int) = RightF k f := by
  have := RightF_nn k f
  unfold RightN
  omega
def hd (l : List Nat) : Hd :=
  if 0 = l.length then ⟨0, 0, 0, 0, 2⟩
  else if RightN (l.getD 0 0 / 16) (l.getD 0 0 % 16) ≠ 0 then ⟨0, 0, 0, 0, RightN (l.getD 0 0 / 16) (l.getD 0 0 % 16)⟩
  else if (lenF 4 0 0 (l.drop 1)).2.2 = 0 then ⟨l.getD 0 0 / 16, l.getD 0 0 % 16, (lenF 4 0 0 (l.drop 1)).1, 1 + (lenF 4 0 0 (l.drop 1)).2.1, 0⟩
  else ⟨0, 0, 0, 0, (lenF 4 0 0 (l.drop 1)).2.2⟩
theorem getV_hd (l : List Nat) : getV l 0 = HV (hd l).k (hd l).f (hd l).n (hd l).to (hd l).e := by
  have E := RightN_eq (l.getD 0 0 / 16) (l.getD 0 0 % 16)
  by_cases h0 : 0 = l.length
  · have e1 : hd l = ⟨0, 0, 0, 0, 2⟩ := by unfold hd; rw [if_pos h0]
    rw [e1]; unfold getV; rw [if_pos h0]; rfl
  by_cases h1 : RightN (l.getD 0 0 / 16) (l.getD 0 0 % 16) = 0
  · have h1' : ¬ RightF ((l.getD 0 0 / 16 : Nat) : Int) ((l.getD 0 0 % 16 : Nat) : Int) ≠ 0 := by rw [← E, h1]; simp
    by_cases h2 : (lenF 4 0 0 (l.drop 1)).2.2 = 0
    · have e1 : hd l = ⟨l.getD 0 0 / 16, l.getD 0 0 % 16, (lenF 4 0 0 (l.drop 1)).1, 1 + (lenF 4 0 0 (l.drop 1)).2.1, 0⟩ := by unfold hd; rw [if_neg h0, if_neg (by rw [h1]; simp), if_pos h2]
      rw [e1]; unfold getV; rw [if_neg h0, if_neg h1', if_pos h2]
      simp only [HV]
      congr 3
    · have e1 : hd l = ⟨0, 0, 0, 0, (lenF 4 0 0 (l.drop 1)).2.2⟩ := by unfold hd; rw [if_neg h0, if_neg (by rw [h1]; simp), if_neg h2]
      rw [e1]; unfold getV; rw [if_neg h0, if_neg h1', if_neg h2]; rfl
  · have h1' : RightF ((l.getD 0 0 / 16 : Nat) : Int) ((l.getD 0 0 % 16 : Nat) : Int) ≠ 0 := by rw [← E]; simpa using h1
    have e1 : hd l = ⟨0, 0, 0, 0, RightN (l.getD 0 0 / 16) (l.getD 0 0 % 16)⟩ := by unfold hd; rw [if_neg h0, if_pos h1]
    rw [e1]; unfold getV; rw [if_neg h0, if_pos h1', ← E]; rfl
theorem lenF_bd : ∀ (g i n : Nat) (l : List Nat), (lenF g i n l).1 ≤ 4096 ∧ (lenF g i n l).2.1 ≤ i + g ∧ (lenF g i n l).2.2 ≤ 3
  | 0, i, n, l => by simp [lenF]
  | g + 1, i, n, [] => by simp [lenF]
  | g + 1, i, n, c :: r => by
    simp only [lenF]
    split
    · split
      · refine ⟨by assumption, ?_, ?_⟩
        · show i + 1 ≤ i + (g + 1); omega
        · simp
      · simp
    · have := lenF_bd g (i + 1) (n + (c - 128) * 128 ^ i) r
      exact ⟨this.1, by omega, this.2.2⟩
theorem hd_bd (l : List Nat) : (hd l).n ≤ 4096 ∧ (hd l).to ≤ 5 ∧ (hd l).e ≤ 11 ∧ ((hd l).e = 0 → 1 ≤ (hd l).to) := by
  have h := lenF_bd 4 0 0 (l.drop 1)
  have hr := RightF_nn (l.getD 0 0 / 16 : Nat) (l.getD 0 0 % 16 : Nat)
  have he := RightN_eq (l.getD 0 0 / 16) (l.getD 0 0 % 16)
  generalize hq : lenF 4 0 0 (l.drop 1) = q at *
  obtain ⟨q1, q2, q3⟩ := q
  generalize hr2 : RightN (l.getD 0 0 / 16) (l.getD 0 0 % 16) = r at *
  unfold hd
  rw [hq, hr2]
  simp only at h
  split
  · simp
  · split
    · rename_i h1
      refine ⟨by simp, by simp, ?_, fun h => absurd h h1⟩
      show r ≤ 11; omega
    · split
      · exact ⟨h.1, by show 1 + q2 ≤ 5; omega, by simp, fun _ => by show 1 ≤ 1 + q2; omega⟩
      · rename_i h2
        exact ⟨by simp, by simp, by show q3 ≤ 11; omega, fun h => absurd h h2⟩
/-- What a run of the program needs of its variables. -/
def Gl (a0 : Addr) (w : World) : Prop := w.cell? ⟨0, 0, none⟩ = some (.iface 107 (.pointer (some a0))) ∧ w.cell? ⟨1, 0, none⟩ = some (.iface 79 (.agg #[.pointer (some ⟨3, 55, none⟩)])) ∧ Tab3 w
theorem Gl.ext {a0 : Addr} {w w' : World} (h : Gl a0 w) (hb : Below w.heap.size w w') : Gl a0 w' :=
  ⟨(hb.cell (p := ⟨0, 0, none⟩) (World.block_lt_of_cell? w _ h.1)).trans h.1, (hb.cell (p := ⟨1, 0, none⟩) (World.block_lt_of_cell? w _ h.2.1)).trans h.2.1, h.2.2.keep hb⟩
theorem Gl.far {a0 : Addr} {w w' : World} {S : Nat → Prop} (h : Gl a0 w) (hb : Far S w w') (hs : ∀ k, S k → 3 ≤ k) : Gl a0 w' := by
  have l2 : 2 < w.heap.size := World.block_lt_of_cell? w _ h.2.2.1
  have hB : Below 3 w w' := hb.below l2 hs
  exact ⟨(hB.cell (p := ⟨0, 0, none⟩) (by decide)).trans h.1, (hB.cell (p := ⟨1, 0, none⟩) (by decide)).trans h.2.1, (hB.cell (p := ⟨2, 0, none⟩) (by decide)).trans h.2.2.1, (hB.cell (p := ⟨2, 1, none⟩) (by decide)).trans h.2.2.2.1, (hB.cell (p := ⟨2, 2, none⟩) (by decide)).trans h.2.2.2.2⟩
def zR : Value := .agg #[.int .i64 0, .int .i64 0, .int .i64 0, .string ⟨#[]⟩]
section
variable {w : World} {B f : Nat} {v : Value} {l : List Nat} {n : Int} {a0 : Addr}
/-- A new block of the call's own behind a contract. -/
theorem at_new {w w1 : World} {cs : Array Value} {t : TypeId} (hb : Below (w.alloc (.cells cs t)).heap.size (w.alloc (.cells cs t)) w1) : w1.heap[w.heap.size]? = some (.cells cs t (0, 0)) :=
  (hb.block w.heap.size (by simp)).trans (heap_alloc_new w _)
set_option maxHeartbeats 2000000 in
set_option maxRecDepth 100000 in
theorem t_wait (h : Fm w B f v l n .nilIface) (g : Gl a0 w) (hl : l.length ≤ 140737488355328) {K F N T : Nat} (hh : hd l = ⟨K, F, N, T, 2⟩) :
    Calls Tryd.prog 22 #[.pointer (some ⟨f, 0, none⟩)] w fun e w' => e = .returned (.tuple #[zR, .iface 107 (.pointer (some a0))]) ∧ Below w.heap.size w w' := by
  have c1 := h.c1
  have c3 := h.c3
  have lt := h.lt
  have GT := get_any v l 0 (w.alloc (.cells #[.int .i64 0, .int .i64 0, .int .i64 0, .string ⟨#[]⟩] 35)) (g.ext (ext_alloc w _)).2.2 (h.wt.bytes.keep (ext_alloc w _) (Nat.le_refl _)) h.bt hl (Nat.zero_le _)
  unfold GPost at GT
  rw [getV_hd, hh] at GT
  unfold HV at GT
  simp only at GT
  replace GT := Lib.hid GT
  replace hh := Lib.hid hh
  have G := Lib.hid g
  have H := Lib.hid h
  clear g h hl
  go_enter Tryd.func22, Tryd.ntmps22
  go_wp2_with fail
  refine GT.out.mono ?_
  rintro e w1 ⟨rfl, b1⟩
  have g1 := (G.out.ext ((ext_alloc w _).trans (b1.mono (by simp)))).1
  have r1 := at_new b1
  have bb := Lib.hid ((ext_alloc w _).trans (b1.mono (by simp)))
  have k1 : w1.cell? ⟨f, 1, none⟩ = some v := (H.out.ext bb.out).c1
  have q0 : w1.cell? ⟨w.heap.size, 0, none⟩ = _ := cell_of_row w1 w.heap.size 0 _ 35 (0, 0) r1
  have q1 : w1.cell? ⟨w.heap.size, 1, none⟩ = _ := cell_of_row w1 w.heap.size 1 _ 35 (0, 0) r1
  have q2 : w1.cell? ⟨w.heap.size, 2, none⟩ = _ := cell_of_row w1 w.heap.size 2 _ 35 (0, 0) r1
  have q3 : w1.cell? ⟨w.heap.size, 3, none⟩ = _ := cell_of_row w1 w.heap.size 3 _ 35 (0, 0) r1
  have z0 : w1.frozen? ⟨w.heap.size, 0, none⟩ = false := frozen_of_row w1 w.heap.size 0 _ 35 r1
  have z1 : w1.frozen? ⟨w.heap.size, 1, none⟩ = false := frozen_of_row w1 w.heap.size 1 _ 35 r1
  have z2 : w1.frozen? ⟨w.heap.size, 2, none⟩ = false := frozen_of_row w1 w.heap.size 2 _ 35 r1
  have z3 : w1.frozen? ⟨w.heap.size, 3, none⟩ = false := frozen_of_row w1 w.heap.size 3 _ 35 r1
  have lt2 : w.heap.size < w1.heap.size := (Array.getElem?_eq_some_iff.1 r1).1
  have lt3 : 0 < w1.heap.size := by omega
  have lt4 : f < w1.heap.size := by omega
  have ln := Nat.ne_of_lt lt2
  replace r1 := Lib.hid r1
  clear b1 GT c1 c3
  go_wp2_with fail
  go_region
  all_goals
    go_wp2_with fail
    refine bodyPost_ret (v := .tuple #[zR, .iface 107 (.pointer (some a0))]) (by simp [results, Tryd.results22, go_sem, zR, q0, q1, q2, q3, ln, lt2]) rfl ⟨rfl, ?_⟩
    repeat (first | exact bb.out | refine Below.drew ?_ | refine Below.alloc ?_ (by simp <;> omega) _ | refine Below.setCell ?_ (by simp <;> omega) _)
set_option maxHeartbeats 2000000 in
set_option maxRecDepth 100000 in
theorem t_wait2 (h : Fm w B f v l n .nilIface) (g : Gl a0 w) (hl : l.length ≤ 140737488355328) {K F N T : Nat} (hh : hd l = ⟨K, F, N, T, 0⟩) (hs : l.length < T + N) :
    Calls Tryd.prog 22 #[.pointer (some ⟨f, 0, none⟩)] w fun e w' => e = .returned (.tuple #[zR, .iface 107 (.pointer (some a0))]) ∧ Below w.heap.size w w' := by
  obtain ⟨va, vc, rfl⟩ := h.wt.len
  have hbd := hd_bd l
  rw [hh] at hbd
  simp only at hbd
  have hN := hbd.1
  have hT := hbd.2.1
  have hs1 : (l.length : Int) < (T : Int) + (N : Int) := by omega
  have hw : IntKind.i64.wrap ((T : Int) + (N : Int)) = (T : Int) + (N : Int) := IntWalk.i64_in _ (by omega)
  have c1 := h.c1
  have c3 := h.c3
  have lt := h.lt
  have GT := get_any _ l 0 (w.alloc (.cells #[.int .i64 0, .int .i64 0, .int .i64 0, .string ⟨#[]⟩] 35)) (g.ext (ext_alloc w _)).2.2 (h.wt.bytes.keep (ext_alloc w _) (Nat.le_refl _)) h.bt hl (Nat.zero_le _)
  unfold GPost at GT
  rw [getV_hd, hh] at GT
  unfold HV at GT
  simp only at GT
  replace GT := Lib.hid GT
  replace hh := Lib.hid hh
  have G := Lib.hid g
  have H := Lib.hid h
  clear g h hl hs hbd
  go_enter Tryd.func22, Tryd.ntmps22
  go_wp2_with fail
  refine GT.out.mono ?_
  rintro e w1 ⟨rfl, b1⟩
  have g1 := (G.out.ext ((ext_alloc w _).trans (b1.mono (by simp)))).1
  have r1 := at_new b1
  have bb := Lib.hid ((ext_alloc w _).trans (b1.mono (by simp)))
  have k1 : w1.cell? ⟨f, 1, none⟩ = _ := (H.out.ext bb.out).c1
  have q0 : w1.cell? ⟨w.heap.size, 0, none⟩ = _ := cell_of_row w1 w.heap.size 0 _ 35 (0, 0) r1
  have q1 : w1.cell? ⟨w.heap.size, 1, none⟩ = _ := cell_of_row w1 w.heap.size 1 _ 35 (0, 0) r1
  have q2 : w1.cell? ⟨w.heap.size, 2, none⟩ = _ := cell_of_row w1 w.heap.size 2 _ 35 (0, 0) r1
  have q3 : w1.cell? ⟨w.heap.size, 3, none⟩ = _ := cell_of_row w1 w.heap.size 3 _ 35 (0, 0) r1
  have z0 : w1.frozen? ⟨w.heap.size, 0, none⟩ = false := frozen_of_row w1 w.heap.size 0 _ 35 r1
  have z1 : w1.frozen? ⟨w.heap.size, 1, none⟩ = false := frozen_of_row w1 w.heap.size 1 _ 35 r1
  have z2 : w1.frozen? ⟨w.heap.size, 2, none⟩ = false := frozen_of_row w1 w.heap.size 2 _ 35 r1
  have z3 : w1.frozen? ⟨w.heap.size, 3, none⟩ = false := frozen_of_row w1 w.heap.size 3 _ 35 r1
  have lt2 : w.heap.size < w1.heap.size := (Array.getElem?_eq_some_iff.1 r1).1
  have lt3 : 0 < w1.heap.size := by omega
  have lt4 : f < w1.heap.size := by omega
  have ln := Nat.ne_of_lt lt2
  replace r1 := Lib.hid r1
  clear b1 GT c1 c3
  go_wp2_with fail
  go_region
  all_goals
    go_wp2_with fail
    refine bodyPost_ret (v := .tuple #[zR, .iface 107 (.pointer (some a0))]) (by simp [results, Tryd.results22, go_sem, zR, q0, q1, q2, q3, ln, lt2]) rfl ⟨rfl, ?_⟩
    repeat (first | exact bb.out | refine Below.drew ?_ | refine Below.alloc ?_ (by simp <;> omega) _ | refine Below.setCell ?_ (by simp <;> omega) _)
set_option maxHeartbeats 2000000 in
set_option maxRecDepth 100000 in
theorem t_bad (h : Fm w B f v l n .nilIface) (g : Gl a0 w) (hl : l.length ≤ 140737488355328) {K F N T E : Nat} (hh : hd l = ⟨K, F, N, T, E⟩) (h2 : E ≠ 2) (h0 : E ≠ 0) :
    Calls Tryd.prog 22 #[.pointer (some ⟨f, 0, none⟩)] w fun e w' => e = .returned (.tuple #[zR, .iface 67 (.agg #[.int .i64 (E : Int)])]) ∧ Below w.heap.size w w' := by
  have e2 : (((E : Nat) : Int) == 2) = false := by simp; omega
  have e0 : (((E : Nat) : Int) != 0) = true := by simp; omega
  have c1 := h.c1
  have c3 := h.c3
  have lt := h.lt
  have GT := get_any v l 0 (w.alloc (.cells #[.int .i64 0, .int .i64 0, .int .i64 0, .string ⟨#[]⟩] 35)) (g.ext (ext_alloc w _)).2.2 (h.wt.bytes.keep (ext_alloc w _) (Nat.le_refl _)) h.bt hl (Nat.zero_le _)
  unfold GPost at GT
  rw [getV_hd, hh] at GT
  unfold HV at GT
  simp only at GT
  replace GT := Lib.hid GT
  replace hh := Lib.hid hh
  have G := Lib.hid g
  have H := Lib.hid h
  clear g h hl h2 h0
  go_enter Tryd.func22, Tryd.ntmps22
  go_wp2_with fail
  refine GT.out.mono ?_
  rintro e w1 ⟨rfl, b1⟩
  have g1 := (G.out.ext ((ext_alloc w _).trans (b1.mono (by simp)))).1
  have r1 := at_new b1
  have bb := Lib.hid ((ext_alloc w _).trans (b1.mono (by simp)))
  have k1 : w1.cell? ⟨f, 1, none⟩ = some v := (H.out.ext bb.out).c1
  have q0 : w1.cell? ⟨w.heap.size, 0, none⟩ = _ := cell_of_row w1 w.heap.size 0 _ 35 (0, 0) r1
  have q1 : w1.cell? ⟨w.heap.size, 1, none⟩ = _ := cell_of_row w1 w.heap.size 1 _ 35 (0, 0) r1
  have q2 : w1.cell? ⟨w.heap.size, 2, none⟩ = _ := cell_of_row w1 w.heap.size 2 _ 35 (0, 0) r1
  have q3 : w1.cell? ⟨w.heap.size, 3, none⟩ = _ := cell_of_row w1 w.heap.size 3 _ 35 (0, 0) r1
  have z0 : w1.frozen? ⟨w.heap.size, 0, none⟩ = false := frozen_of_row w1 w.heap.size 0 _ 35 r1
  have z1 : w1.frozen? ⟨w.heap.size, 1, none⟩ = false := frozen_of_row w1 w.heap.size 1 _ 35 r1
  have z2 : w1.frozen? ⟨w.heap.size, 2, none⟩ = false := frozen_of_row w1 w.heap.size 2 _ 35 r1
  have z3 : w1.frozen? ⟨w.heap.size, 3, none⟩ = false := frozen_of_row w1 w.heap.size 3 _ 35 r1
  have lt2 : w.heap.size < w1.heap.size := (Array.getElem?_eq_some_iff.1 r1).1
  have lt3 : 0 < w1.heap.size := by omega
  have lt4 : f < w1.heap.size := by omega
  have ln := Nat.ne_of_lt lt2
  replace r1 := Lib.hid r1
  clear b1 GT c1 c3
  go_wp2_with fail
  refine bodyPost_ret (v := .tuple #[zR, .iface 67 (.agg #[.int .i64 (E : Int)])]) (by simp [results, Tryd.results22, go_sem, zR, q0, q1, q2, q3, ln, lt2]) rfl ⟨rfl, ?_⟩
  repeat (first | exact bb.out | refine Below.drew ?_ | refine Below.alloc ?_ (by simp <;> omega) _ | refine Below.setCell ?_ (by simp <;> omega) _)
set_option maxHeartbeats 2000000 in
set_option maxRecDepth 100000 in
theorem t_dead {X : TypeId} {d : Value} (h : Fm w B f v l n (.iface X d)) :
    Calls Tryd.prog 22 #[.pointer (some ⟨f, 0, none⟩)] w fun e w' => e = .returned (.tuple #[zR, .iface X d]) ∧ Below w.heap.size w w' := by
  have c3 := h.c3
  have lt := h.lt
  replace h := Lib.hid h
  go_enter Tryd.func22, Tryd.ntmps22
  go_wp2_with fail
  go_region
  all_goals
    go_wp2_with fail
    refine bodyPost_ret (v := .tuple #[zR, .iface X d]) (by simp [results, Tryd.results22, go_sem, zR]) rfl ⟨rfl, ?_⟩
    repeat (first | exact ext_alloc _ _ | refine Below.drew ?_ | refine Below.alloc ?_ (by simp <;> omega) _ | refine Below.setCell ?_ (by simp <;> omega) _)
end
end Go.Proofs.YtceiipcdkonnlaaDoor
