/-
  LAYER 12: the program's take, where a packet is there.
-/
import Derived.Test.YtceiipcdkonnlaaDoorTc
namespace Go.Proofs.YtceiipcdkonnlaaDoor
open Go.RowKit
set_option linter.unusedVariables false
set_option linter.unusedSimpArgs false
theorem sizeOf5 (w : World) : (sizeOf (Tryd.prog.elem 23)).run Tryd.prog w = .ok 1 w := by kernel_rfl
theorem Wt.tail0 {w : World} {B b o len cap : Nat} {l : List Nat} (h : Wt w B (.slice (some ⟨b, o, none⟩) len cap) l) : Wt w B (.slice (some ⟨b, o, none⟩) 0 0) [] := by
  obtain ⟨h1, -, cur, h2⟩ := h.own (k := b) rfl
  exact .inr ⟨b, o, cur, rfl, h1, h2, fun i hi => absurd hi (Nat.not_lt_zero _)⟩
/-- Some of the bytes in the middle. -/
theorem BytesAt.mid {w : World} {b o cap : Nat} {l : List Nat} (h : BytesAt w (.slice (some ⟨b, o, none⟩) l.length cap) l) (T N : Nat) (hT : T + N ≤ l.length) (c : Nat) (hc : N ≤ c) : BytesAt w (.slice (some ⟨b, o + T, none⟩) N c) ((l.drop T).take N) := by
  have hl : ((l.drop T).take N).length = N := by simp; omega
  obtain ⟨a', cap', hv, hcp, hcase⟩ := h
  simp only [Value.slice.injEq] at hv
  obtain ⟨rfl, -, rfl⟩ := hv
  refine ⟨_, c, by rw [hl], ⟨by omega, fun h => by cases h⟩, ?_⟩
  by_cases h0 : N = 0
  · left
    exact List.eq_nil_of_length_eq_zero (by omega)
  right
  rcases hcase with h | ⟨b', o', he, hb, hcell⟩
  · rw [h] at hT; simp at hT; omega
  · simp only [Option.some.injEq, Addr.mk.injEq, and_true] at he
    obtain ⟨rfl, rfl⟩ := he
    refine ⟨b, o + T, rfl, hb, fun i hi => ?_⟩
    rw [hl] at hi
    have e : ((l.drop T).take N).getD i 0 = l.getD (T + i) 0 := by simp [List.getD, List.getElem?_take, hi]
    rw [e, Nat.add_assoc]
    exact hcell (T + i) (by omega)
section
variable {w : World} {B f : Nat} {v : Value} {l : List Nat} {n : Int} {a0 : Addr}
theorem heap_drew (w : World) : w.drew.heap = w.heap := rfl
theorem Far.set {S : Nat → Prop} {a b : World} (h : Far S a b) (p : Addr) (v : Value) (hp : S p.block) : Far S a (b.setCell p v) :=
  ⟨h.os, h.tape, h.output, by simpa [World.setCell] using h.size, fun k hk hS => (Below.heap_setCell _ _ _ _ (fun e => hS (by rw [e]; exact hp))).trans (h.block k hk hS)⟩
theorem Far.drew {S : Nat → Prop} {a b : World} (h : Far S a b) : Far S a b.drew := ⟨h.os, h.tape, h.output, h.size, h.block⟩
/-- What is left behind a packet that was taken. -/
theorem took_end {W2 : World} (h : Fm w B f v l n .nilIface) (bx : Below w.heap.size w W2) (hr : w.heap.size < W2.heap.size) {v' : Value} {l' : List Nat} (wt : Wt w B v' l') (hb : ∀ x ∈ l', x < 256) (n' : Int) (a b c d : Value) :
    Fm ((((((W2.setCell ⟨f, 1, none⟩ v').setCell ⟨f, 2, none⟩ (.int .i64 n')).setCell ⟨w.heap.size, 0, none⟩ a).setCell ⟨w.heap.size, 1, none⟩ b).setCell ⟨w.heap.size, 2, none⟩ c).setCell ⟨w.heap.size, 3, none⟩ d).drew B f v' l' n' .nilIface ∧
      Far (FS f v) w ((((((W2.setCell ⟨f, 1, none⟩ v').setCell ⟨f, 2, none⟩ (.int .i64 n')).setCell ⟨w.heap.size, 0, none⟩ a).setCell ⟨w.heap.size, 1, none⟩ b).setCell ⟨w.heap.size, 2, none⟩ c).setCell ⟨w.heap.size, 3, none⟩ d).drew := by
  have hlt := h.lt
  have hne : f ≠ w.heap.size := by omega
  have e0 := (bx.block f hlt).trans h.row
  have e1 := heap_setCell_same W2 f 1 _ 57 v' e0
  have e2 := heap_setCell_same _ f 2 _ 57 (.int .i64 n') e1
  have F2 : Far (fun k => k = f ∨ w.heap.size ≤ k) W2 ((((((W2.setCell ⟨f, 1, none⟩ v').setCell ⟨f, 2, none⟩ (.int .i64 n')).setCell ⟨w.heap.size, 0, none⟩ a).setCell ⟨w.heap.size, 1, none⟩ b).setCell ⟨w.heap.size, 2, none⟩ c).setCell ⟨w.heap.size, 3, none⟩ d).drew :=
    ((((((((Far.refl _ W2).set ⟨f, 1, none⟩ v' (.inl rfl)).set ⟨f, 2, none⟩ _ (.inl rfl)).set ⟨w.heap.size, 0, none⟩ _ (.inr (Nat.le_refl _))).set ⟨w.heap.size, 1, none⟩ _ (.inr (Nat.le_refl _))).set ⟨w.heap.size, 2, none⟩ _ (.inr (Nat.le_refl _))).set ⟨w.heap.size, 3, none⟩ _ (.inr (Nat.le_refl _))).drew)
  refine ⟨⟨?_, ?_, h.fB, hb⟩, ?_⟩
  · rw [heap_drew, Below.heap_setCell _ _ _ _ hne, Below.heap_setCell _ _ _ _ hne, Below.heap_setCell _ _ _ _ hne, Below.heap_setCell _ _ _ _ hne]
    exact e2
  · refine (wt.ext bx).fars F2 ?_
    rintro k hk (rfl | hk2)
    · exact wt.ne h.row (by decide) hk
    · have := (wt.own hk).2.1; omega
  · exact (Far.of_ext bx).trans F2 (fun k hk hS => hS.elim .inl (fun h2 => by omega))
set_option maxHeartbeats 4000000 in
set_option maxRecDepth 100000 in
theorem t_take_a {b o cap : Nat} (h : Fm w B f (.slice (some ⟨b, o, none⟩) l.length cap) l n .nilIface) (g : Gl a0 w) (hl : l.length ≤ 140737488355328) {K F N T : Nat} (hh : hd l = ⟨K, F, N, T, 0⟩) (hs : T + N < l.length) (hcp : l.length ≤ cap) (hn0 : 0 ≤ n) (hn1 : n ≤ 1000000) :
    Calls Tryd.prog 22 #[.pointer (some ⟨f, 0, none⟩)] w fun e w' => e = .returned (.tuple #[.agg #[.int .i64 (K : Int), .int .i64 (F : Int), .int .i64 (N : Int), .string (strB ((l.drop T).take N))], .nilIface]) ∧ Fm w' B f (.slice (some ⟨b, o + (T + N), none⟩) (l.length - (T + N)) (l.length - (T + N))) (l.drop (T + N)) (n + 1) .nilIface ∧ Far (FS f (.slice (some ⟨b, o, none⟩) l.length cap)) w w' := by
  have hbd := hd_bd l
  rw [hh] at hbd
  simp only at hbd
  have hN := hbd.1
  have hT := hbd.2.1
  have hs1 : ¬ (l.length : Int) < (T : Int) + (N : Int) := by omega
  have hw : IntKind.i64.wrap ((T : Int) + (N : Int)) = (T : Int) + (N : Int) := IntWalk.i64_in _ (by omega)
  have hcT : ¬ cap = T := by omega
  have hlE : ¬ l.length = T + N := by omega
  have h4 : (T : Int) ≤ (T : Int) + (N : Int) := by omega
  have h5 : (T : Int) + (N : Int) ≤ (cap : Int) := by omega
  have h6 : (T : Int) + (N : Int) ≤ (l.length : Int) := by omega
  have h7 : (l.length : Int) ≤ (cap : Int) := by omega
  have h8 : ((T : Int) + (N : Int)).toNat = T + N := by omega
  have h9 : T + N - T = N := by omega
  have WT1 : Hid (Wt w B (.slice (some ⟨b, o + (T + N), none⟩) (l.length - (T + N)) (l.length - (T + N))) (l.drop (T + N))) := Lib.hid (by
    obtain ⟨b', o', c', hv, hw⟩ := h.wt.tail (by omega) (T + N) (by omega)
    simp only [Value.slice.injEq, Option.some.injEq, Addr.mk.injEq, and_true] at hv
    obtain ⟨⟨rfl, rfl⟩, -⟩ := hv
    simpa using hw)
  have hB0 := Lib.hid h.wt.bytes
  have c1 := h.c1
  have c3 := h.c3
  have lt := h.lt
  have GT := get_any _ l 0 (w.alloc (.cells #[.int .i64 0, .int .i64 0, .int .i64 0, .string ⟨#[]⟩] 35)) (g.ext (ext_alloc w _)).2.2 (h.wt.bytes.keep (ext_alloc w _) (Nat.le_refl _)) h.bt hl (Nat.zero_le _)
  unfold GPost at GT
  rw [getV_hd, hh] at GT
  unfold HV at GT
  simp only at GT
  replace GT := Lib.hid GT
  replace hh := Lib.hid hh
  have G := Lib.hid g
  have H := Lib.hid h
  clear g h hl hbd
  go_enter Tryd.func22, Tryd.ntmps22
  go_wp2_with fail
  refine GT.out.mono ?_
  rintro e w1 ⟨rfl, b1⟩
  have g1 := (G.out.ext ((ext_alloc w _).trans (b1.mono (by simp)))).1
  have r1 := at_new b1
  have bb := Lib.hid ((ext_alloc w _).trans (b1.mono (by simp)))
  have k1 : w1.cell? ⟨f, 1, none⟩ = _ := (H.out.ext bb.out).c1
  have q0 : w1.cell? ⟨w.heap.size, 0, none⟩ = _ := cell_of_row w1 w.heap.size 0 _ 35 (0, 0) r1
  have q1 : w1.cell? ⟨w.heap.size, 1, none⟩ = _ := cell_of_row w1 w.heap.size 1 _ 35 (0, 0) r1
  have q2 : w1.cell? ⟨w.heap.size, 2, none⟩ = _ := cell_of_row w1 w.heap.size 2 _ 35 (0, 0) r1
  have q3 : w1.cell? ⟨w.heap.size, 3, none⟩ = _ := cell_of_row w1 w.heap.size 3 _ 35 (0, 0) r1
  have z0 : w1.frozen? ⟨w.heap.size, 0, none⟩ = false := frozen_of_row w1 w.heap.size 0 _ 35 r1
  have z1 : w1.frozen? ⟨w.heap.size, 1, none⟩ = false := frozen_of_row w1 w.heap.size 1 _ 35 r1
  have z2 : w1.frozen? ⟨w.heap.size, 2, none⟩ = false := frozen_of_row w1 w.heap.size 2 _ 35 r1
  have z3 : w1.frozen? ⟨w.heap.size, 3, none⟩ = false := frozen_of_row w1 w.heap.size 3 _ 35 r1
  have lt2 : w.heap.size < w1.heap.size := (Array.getElem?_eq_some_iff.1 r1).1
  have lt3 : 0 < w1.heap.size := by omega
  have lt4 : f < w1.heap.size := by omega
  have ln := Nat.ne_of_lt lt2
  replace r1 := Lib.hid r1
  clear b1 GT c1 c3
  have CV : Hid (∀ V, Below w1.heap.size w1 V → (convert 23 9 (.slice (some ⟨b, o + T, none⟩) N (cap - T))).run Tryd.prog V = .ok (.string (strB ((l.drop T).take N))) V) := Lib.hid fun V hV => (((hB0.out.keep bb.out (Nat.le_refl _)).keep hV (Nat.le_refl _)).mid T N (by omega) (cap - T) (by omega)).conv Tryd.underlying23 Tryd.underlying5 Tryd.underlying9
  go_wp2_with fail
  have KS : Hid (∀ V, Below (w1.alloc (.cells #[.int .i64 (K : Int), .int .i64 (F : Int), .int .i64 (N : Int)] 33)).heap.size (w1.alloc (.cells #[.int .i64 (K : Int), .int .i64 (F : Int), .int .i64 (N : Int)] 33)) V → V.cell? ⟨f, 1, none⟩ = some (.slice (some ⟨b, o, none⟩) l.length cap) ∧ V.cell? ⟨w1.heap.size, 0, none⟩ = some (.int .i64 (K : Int)) ∧ V.cell? ⟨w1.heap.size, 1, none⟩ = some (.int .i64 (F : Int)) ∧ V.cell? ⟨w1.heap.size, 2, none⟩ = some (.int .i64 (N : Int)) ∧ (convert 23 9 (.slice (some ⟨b, o + T, none⟩) N (cap - T))).run Tryd.prog V = .ok (.string (strB ((l.drop T).take N))) V) := Lib.hid fun V hV => by
    have hV1 : Below w1.heap.size w1 V := (ext_alloc w1 _).trans (hV.mono (by simp))
    have r := at_new hV
    exact ⟨(hV1.cell (p := ⟨f, 1, none⟩) lt4).trans k1, cell_of_row _ _ 0 _ 33 (0, 0) r, cell_of_row _ _ 1 _ 33 (0, 0) r, cell_of_row _ _ 2 _ 33 (0, 0) r, CV.out V hV1⟩
  generalize hW : w1.alloc _ = W at KS ⊢
  replace hW := Lib.hid hW
  clear q0 q1 q2 q3 z0 z1 z2 z3
  go_region_held3 (fun V => (V.cell? ⟨f, 1, none⟩ = some (.slice (some ⟨b, o, none⟩) l.length cap) ∧ V.cell? ⟨w1.heap.size, 0, none⟩ = some (.int .i64 (K : Int)) ∧ V.cell? ⟨w1.heap.size, 1, none⟩ = some (.int .i64 (F : Int)) ∧ V.cell? ⟨w1.heap.size, 2, none⟩ = some (.int .i64 (N : Int)) ∧ (convert 23 9 (.slice (some ⟨b, o + T, none⟩) N (cap - T))).run Tryd.prog V = .ok (.string (strB ((l.drop T).take N))) V))
    (exact KS.out _ (by repeat (first | exact Below.refl _ _ | exact ext_drew _ | assumption | refine Below.drew ?_ | refine Below.alloc ?_ (by simp <;> omega) _ | refine Below.setCell ?_ (by simp <;> omega) _)))
    (fail)
  go_wp2_with fail
  have e8 : W.heap.size = w1.heap.size + 1 := by rw [← hW.out]; simp
  have BW : Below w1.heap.size w1 (W.alloc (.cells #[.int .i64 (K : Int), .int .i64 (F : Int), .int .i64 (N : Int), .string (strB ((l.drop T).take N))] 35)).drew := by rw [← hW.out]; exact (ext_two w1 _ _).drew
  have r8 : (W.alloc (.cells #[.int .i64 (K : Int), .int .i64 (F : Int), .int .i64 (N : Int), .string (strB ((l.drop T).take N))] 35)).drew.heap[W.heap.size]? = some (.cells #[.int .i64 (K : Int), .int .i64 (F : Int), .int .i64 (N : Int), .string (strB ((l.drop T).take N))] 35 (0, 0)) := heap_alloc_new W _
  have z8 : W.heap.size < (W.alloc (.cells #[.int .i64 (K : Int), .int .i64 (F : Int), .int .i64 (N : Int), .string (strB ((l.drop T).take N))] 35)).drew.heap.size := by simp
  generalize (W.alloc _).drew = W2 at BW r8 z8 ⊢
  have RF := Lib.hid ((BW.block f lt4).trans (H.out.ext bb.out).row)
  have R2 := Lib.hid ((BW.block w.heap.size lt2).trans r1.out)
  rw [e8] at r8 z8
  have R8 := Lib.hid r8
  have p0 : W2.cell? ⟨w1.heap.size + 1, 0, none⟩ = _ := cell_of_row _ _ 0 _ 35 (0, 0) R8.out
  have p1 : W2.cell? ⟨w1.heap.size + 1, 1, none⟩ = _ := cell_of_row _ _ 1 _ 35 (0, 0) R8.out
  have p2 : W2.cell? ⟨w1.heap.size + 1, 2, none⟩ = _ := cell_of_row _ _ 2 _ 35 (0, 0) R8.out
  have p3 : W2.cell? ⟨w1.heap.size + 1, 3, none⟩ = _ := cell_of_row _ _ 3 _ 35 (0, 0) R8.out
  have q0 : W2.cell? ⟨w.heap.size, 0, none⟩ = _ := cell_of_row _ _ 0 _ 35 (0, 0) R2.out
  have q1 : W2.cell? ⟨w.heap.size, 1, none⟩ = _ := cell_of_row _ _ 1 _ 35 (0, 0) R2.out
  have q2 : W2.cell? ⟨w.heap.size, 2, none⟩ = _ := cell_of_row _ _ 2 _ 35 (0, 0) R2.out
  have q3 : W2.cell? ⟨w.heap.size, 3, none⟩ = _ := cell_of_row _ _ 3 _ 35 (0, 0) R2.out
  have z0 : W2.frozen? ⟨w.heap.size, 0, none⟩ = false := frozen_of_row _ _ 0 _ 35 R2.out
  have z1 : W2.frozen? ⟨w.heap.size, 1, none⟩ = false := frozen_of_row _ _ 1 _ 35 R2.out
  have z2 : W2.frozen? ⟨w.heap.size, 2, none⟩ = false := frozen_of_row _ _ 2 _ 35 R2.out
  have z3 : W2.frozen? ⟨w.heap.size, 3, none⟩ = false := frozen_of_row _ _ 3 _ 35 R2.out
  have c1 : W2.cell? ⟨f, 1, none⟩ = _ := cell_of_row _ _ 1 _ 57 (0, 0) RF.out
  have c2 : W2.cell? ⟨f, 2, none⟩ = _ := cell_of_row _ _ 2 _ 57 (0, 0) RF.out
  have y1 : W2.frozen? ⟨f, 1, none⟩ = false := frozen_of_row _ _ 1 _ 57 RF.out
  have y2 : W2.frozen? ⟨f, 2, none⟩ = false := frozen_of_row _ _ 2 _ 57 RF.out
  have BX := Lib.hid BW
  have ea : ¬ f = w1.heap.size + 1 := by omega
  have eb : ¬ f = w.heap.size := by omega
  have ec : ¬ w.heap.size = w1.heap.size + 1 := by omega
  have ln0 : -9223372036854775808 ≤ n + 1 := by omega
  have ln1 : n + 1 ≤ 9223372036854775807 := by omega
  have hz2 : w1.heap.size ≤ W2.heap.size := BW.size
  clear r8 BW k1 g1 lt3 KS
  have S3 : ∀ V, (Instr.slice 23 (.slice (some ⟨b, o, none⟩) l.length cap) (some (.int .i64 ((T : Int) + (N : Int)))) (some (.int .i64 (l.length : Int))) (some (.int .i64 (l.length : Int)))).run Tryd.prog V = .ok (.slice (some ⟨b, o + (T + N), none⟩) (l.length - (T + N)) (l.length - (T + N))) V := fun V => by
    rw [run_slice_lhm V 23 _ _ _ Tryd.underlying23 .i64 .i64 .i64 _ _ _ (by omega) (by omega) (Int.le_refl _) (by omega)]
    simp [sizeOf5, Result.andThen, sliced, h8, hlE, Addr.add]
  go_still_tail 19, (by kernel_rfl)
  go_wp2_with fail
  refine bodyPost_ret (v := .tuple #[.agg #[.int .i64 (K : Int), .int .i64 (F : Int), .int .i64 (N : Int), .string (strB ((l.drop T).take N))], .nilIface]) (by simp [results, Tryd.results22, go_sem, q0, q1, q2, q3, eb, ec]) rfl ⟨rfl, ?_⟩
  have TE := took_end H.out ((bb.out).trans (BX.out.mono (Nat.le_of_lt lt2))) (by omega) WT1.out (fun x hx => H.out.bt x (List.mem_of_mem_drop hx)) (n + 1) (.int .i64 (K : Int)) (.int .i64 (F : Int)) (.int .i64 (N : Int)) (.string (strB ((l.drop T).take N)))
  exact TE
set_option maxHeartbeats 4000000 in
set_option maxRecDepth 100000 in
theorem t_take_b {b o cap : Nat} (h : Fm w B f (.slice (some ⟨b, o, none⟩) l.length cap) l n .nilIface) (g : Gl a0 w) (hl : l.length ≤ 140737488355328) {K F N T : Nat} (hh : hd l = ⟨K, F, N, T, 0⟩) (hs : Hid (l.length = T + N)) (hcp : l.length ≤ cap) (hcT : ¬ cap = T) (hn0 : 0 ≤ n) (hn1 : n ≤ 1000000) :
    Calls Tryd.prog 22 #[.pointer (some ⟨f, 0, none⟩)] w fun e w' => e = .returned (.tuple #[.agg #[.int .i64 (K : Int), .int .i64 (F : Int), .int .i64 (N : Int), .string (strB ((l.drop T).take N))], .nilIface]) ∧ Fm w' B f (.slice (some ⟨b, o, none⟩) 0 0) [] (n + 1) .nilIface ∧ Far (FS f (.slice (some ⟨b, o, none⟩) l.length cap)) w w' := by
  have hbd := hd_bd l
  rw [hh] at hbd
  simp only at hbd
  have hN := hbd.1
  have hT := hbd.2.1
  replace hs := hs.out
  have hs1 : ¬ (l.length : Int) < (T : Int) + (N : Int) := by omega
  have hw : IntKind.i64.wrap ((T : Int) + (N : Int)) = (T : Int) + (N : Int) := IntWalk.i64_in _ (by omega)
  have hlE : Hid (l.length = T + N) := Lib.hid (by omega)
  have h4 : (T : Int) ≤ (T : Int) + (N : Int) := by omega
  have h5 : (T : Int) + (N : Int) ≤ (cap : Int) := by omega
  have h6 : (T : Int) + (N : Int) ≤ (l.length : Int) := by omega
  have h7 : (l.length : Int) ≤ (cap : Int) := by omega
  have h8 : ((T : Int) + (N : Int)).toNat = T + N := by omega
  have h9 : T + N - T = N := by omega
  replace hs := Lib.hid hs
  have hB0 := Lib.hid h.wt.bytes
  have c1 := h.c1
  have c3 := h.c3
  have lt := h.lt
  have GT := get_any _ l 0 (w.alloc (.cells #[.int .i64 0, .int .i64 0, .int .i64 0, .string ⟨#[]⟩] 35)) (g.ext (ext_alloc w _)).2.2 (h.wt.bytes.keep (ext_alloc w _) (Nat.le_refl _)) h.bt hl (Nat.zero_le _)
  unfold GPost at GT
  rw [getV_hd, hh] at GT
  unfold HV at GT
  simp only at GT
  replace GT := Lib.hid GT
  replace hh := Lib.hid hh
  have G := Lib.hid g
  have H := Lib.hid h
  clear g h hl hbd
  go_enter Tryd.func22, Tryd.ntmps22
  go_wp2_with fail
  refine GT.out.mono ?_
  rintro e w1 ⟨rfl, b1⟩
  have g1 := (G.out.ext ((ext_alloc w _).trans (b1.mono (by simp)))).1
  have r1 := at_new b1
  have bb := Lib.hid ((ext_alloc w _).trans (b1.mono (by simp)))
  have k1 : w1.cell? ⟨f, 1, none⟩ = _ := (H.out.ext bb.out).c1
  have q0 : w1.cell? ⟨w.heap.size, 0, none⟩ = _ := cell_of_row w1 w.heap.size 0 _ 35 (0, 0) r1
  have q1 : w1.cell? ⟨w.heap.size, 1, none⟩ = _ := cell_of_row w1 w.heap.size 1 _ 35 (0, 0) r1
  have q2 : w1.cell? ⟨w.heap.size, 2, none⟩ = _ := cell_of_row w1 w.heap.size 2 _ 35 (0, 0) r1
  have q3 : w1.cell? ⟨w.heap.size, 3, none⟩ = _ := cell_of_row w1 w.heap.size 3 _ 35 (0, 0) r1
  have z0 : w1.frozen? ⟨w.heap.size, 0, none⟩ = false := frozen_of_row w1 w.heap.size 0 _ 35 r1
  have z1 : w1.frozen? ⟨w.heap.size, 1, none⟩ = false := frozen_of_row w1 w.heap.size 1 _ 35 r1
  have z2 : w1.frozen? ⟨w.heap.size, 2, none⟩ = false := frozen_of_row w1 w.heap.size 2 _ 35 r1
  have z3 : w1.frozen? ⟨w.heap.size, 3, none⟩ = false := frozen_of_row w1 w.heap.size 3 _ 35 r1
  have lt2 : w.heap.size < w1.heap.size := (Array.getElem?_eq_some_iff.1 r1).1
  have lt3 : 0 < w1.heap.size := by omega
  have lt4 : f < w1.heap.size := by omega
  have ln := Nat.ne_of_lt lt2
  replace r1 := Lib.hid r1
  clear b1 GT c1 c3
  have CV : Hid (∀ V, Below w1.heap.size w1 V → (convert 23 9 (.slice (some ⟨b, o + T, none⟩) N (cap - T))).run Tryd.prog V = .ok (.string (strB ((l.drop T).take N))) V) := Lib.hid fun V hV => (((hB0.out.keep bb.out (Nat.le_refl _)).keep hV (Nat.le_refl _)).mid T N (by have := hlE.out; omega) (cap - T) (by have := hlE.out; omega)).conv Tryd.underlying23 Tryd.underlying5 Tryd.underlying9
  go_wp2_with fail
  have KS : Hid (∀ V, Below (w1.alloc (.cells #[.int .i64 (K : Int), .int .i64 (F : Int), .int .i64 (N : Int)] 33)).heap.size (w1.alloc (.cells #[.int .i64 (K : Int), .int .i64 (F : Int), .int .i64 (N : Int)] 33)) V → V.cell? ⟨f, 1, none⟩ = some (.slice (some ⟨b, o, none⟩) l.length cap) ∧ V.cell? ⟨w1.heap.size, 0, none⟩ = some (.int .i64 (K : Int)) ∧ V.cell? ⟨w1.heap.size, 1, none⟩ = some (.int .i64 (F : Int)) ∧ V.cell? ⟨w1.heap.size, 2, none⟩ = some (.int .i64 (N : Int)) ∧ (convert 23 9 (.slice (some ⟨b, o + T, none⟩) N (cap - T))).run Tryd.prog V = .ok (.string (strB ((l.drop T).take N))) V) := Lib.hid fun V hV => by
    have hV1 : Below w1.heap.size w1 V := (ext_alloc w1 _).trans (hV.mono (by simp))
    have r := at_new hV
    exact ⟨(hV1.cell (p := ⟨f, 1, none⟩) lt4).trans k1, cell_of_row _ _ 0 _ 33 (0, 0) r, cell_of_row _ _ 1 _ 33 (0, 0) r, cell_of_row _ _ 2 _ 33 (0, 0) r, CV.out V hV1⟩
  generalize hW : w1.alloc _ = W at KS ⊢
  replace hW := Lib.hid hW
  clear q0 q1 q2 q3 z0 z1 z2 z3
  go_region_held3 (fun V => (V.cell? ⟨f, 1, none⟩ = some (.slice (some ⟨b, o, none⟩) l.length cap) ∧ V.cell? ⟨w1.heap.size, 0, none⟩ = some (.int .i64 (K : Int)) ∧ V.cell? ⟨w1.heap.size, 1, none⟩ = some (.int .i64 (F : Int)) ∧ V.cell? ⟨w1.heap.size, 2, none⟩ = some (.int .i64 (N : Int)) ∧ (convert 23 9 (.slice (some ⟨b, o + T, none⟩) N (cap - T))).run Tryd.prog V = .ok (.string (strB ((l.drop T).take N))) V))
    (exact KS.out _ (by repeat (first | exact Below.refl _ _ | exact ext_drew _ | assumption | refine Below.drew ?_ | refine Below.alloc ?_ (by simp <;> omega) _ | refine Below.setCell ?_ (by simp <;> omega) _)))
    (fail)
  go_wp2_with fail
  have e8 : W.heap.size = w1.heap.size + 1 := by rw [← hW.out]; simp
  have BW : Below w1.heap.size w1 (W.alloc (.cells #[.int .i64 (K : Int), .int .i64 (F : Int), .int .i64 (N : Int), .string (strB ((l.drop T).take N))] 35)).drew := by rw [← hW.out]; exact (ext_two w1 _ _).drew
  have r8 : (W.alloc (.cells #[.int .i64 (K : Int), .int .i64 (F : Int), .int .i64 (N : Int), .string (strB ((l.drop T).take N))] 35)).drew.heap[W.heap.size]? = some (.cells #[.int .i64 (K : Int), .int .i64 (F : Int), .int .i64 (N : Int), .string (strB ((l.drop T).take N))] 35 (0, 0)) := heap_alloc_new W _
  have z8 : W.heap.size < (W.alloc (.cells #[.int .i64 (K : Int), .int .i64 (F : Int), .int .i64 (N : Int), .string (strB ((l.drop T).take N))] 35)).drew.heap.size := by simp
  generalize (W.alloc _).drew = W2 at BW r8 z8 ⊢
  have RF := Lib.hid ((BW.block f lt4).trans (H.out.ext bb.out).row)
  have R2 := Lib.hid ((BW.block w.heap.size lt2).trans r1.out)
  rw [e8] at r8 z8
  have R8 := Lib.hid r8
  have p0 : W2.cell? ⟨w1.heap.size + 1, 0, none⟩ = _ := cell_of_row _ _ 0 _ 35 (0, 0) R8.out
  have p1 : W2.cell? ⟨w1.heap.size + 1, 1, none⟩ = _ := cell_of_row _ _ 1 _ 35 (0, 0) R8.out
  have p2 : W2.cell? ⟨w1.heap.size + 1, 2, none⟩ = _ := cell_of_row _ _ 2 _ 35 (0, 0) R8.out
  have p3 : W2.cell? ⟨w1.heap.size + 1, 3, none⟩ = _ := cell_of_row _ _ 3 _ 35 (0, 0) R8.out
  have q0 : W2.cell? ⟨w.heap.size, 0, none⟩ = _ := cell_of_row _ _ 0 _ 35 (0, 0) R2.out
  have q1 : W2.cell? ⟨w.heap.size, 1, none⟩ = _ := cell_of_row _ _ 1 _ 35 (0, 0) R2.out
  have q2 : W2.cell? ⟨w.heap.size, 2, none⟩ = _ := cell_of_row _ _ 2 _ 35 (0, 0) R2.out
  have q3 : W2.cell? ⟨w.heap.size, 3, none⟩ = _ := cell_of_row _ _ 3 _ 35 (0, 0) R2.out
  have z0 : W2.frozen? ⟨w.heap.size, 0, none⟩ = false := frozen_of_row _ _ 0 _ 35 R2.out
  have z1 : W2.frozen? ⟨w.heap.size, 1, none⟩ = false := frozen_of_row _ _ 1 _ 35 R2.out
  have z2 : W2.frozen? ⟨w.heap.size, 2, none⟩ = false := frozen_of_row _ _ 2 _ 35 R2.out
  have z3 : W2.frozen? ⟨w.heap.size, 3, none⟩ = false := frozen_of_row _ _ 3 _ 35 R2.out
  have c1 : W2.cell? ⟨f, 1, none⟩ = _ := cell_of_row _ _ 1 _ 57 (0, 0) RF.out
  have c2 : W2.cell? ⟨f, 2, none⟩ = _ := cell_of_row _ _ 2 _ 57 (0, 0) RF.out
  have y1 : W2.frozen? ⟨f, 1, none⟩ = false := frozen_of_row _ _ 1 _ 57 RF.out
  have y2 : W2.frozen? ⟨f, 2, none⟩ = false := frozen_of_row _ _ 2 _ 57 RF.out
  have BX := Lib.hid BW
  have ea : ¬ f = w1.heap.size + 1 := by omega
  have eb : ¬ f = w.heap.size := by omega
  have ec : ¬ w.heap.size = w1.heap.size + 1 := by omega
  have ln0 : -9223372036854775808 ≤ n + 1 := by omega
  have ln1 : n + 1 ≤ 9223372036854775807 := by omega
  have hz2 : w1.heap.size ≤ W2.heap.size := BW.size
  clear r8 BW k1 g1 lt3 KS
  have S3 : ∀ V, (Instr.slice 23 (.slice (some ⟨b, o, none⟩) l.length cap) (some (.int .i64 ((T : Int) + (N : Int)))) (some (.int .i64 (l.length : Int))) (some (.int .i64 (l.length : Int)))).run Tryd.prog V = .ok (.slice (some ⟨b, o, none⟩) 0 0) V := fun V => by
    rw [run_slice_lhm V 23 _ _ _ Tryd.underlying23 .i64 .i64 .i64 _ _ _ (by omega) (by omega) (Int.le_refl _) (by omega)]
    simp only [sizeOf5, Result.andThen, sliced, h8, Int.toNat_natCast]; rw [if_pos (by have := hlE.out; omega), show l.length - (T + N) = 0 by have := hlE.out; omega]
  go_still_tail 19, (by kernel_rfl)
  go_wp2_with fail
  refine bodyPost_ret (v := .tuple #[.agg #[.int .i64 (K : Int), .int .i64 (F : Int), .int .i64 (N : Int), .string (strB ((l.drop T).take N))], .nilIface]) (by simp [results, Tryd.results22, go_sem, q0, q1, q2, q3, eb, ec]) rfl ⟨rfl, ?_⟩
  have TE := took_end H.out ((bb.out).trans (BX.out.mono (Nat.le_of_lt lt2))) (by omega) H.out.wt.tail0 (fun x hx => by cases hx) (n + 1) (.int .i64 (K : Int)) (.int .i64 (F : Int)) (.int .i64 (N : Int)) (.string (strB ((l.drop T).take N)))
  exact TE
set_option maxHeartbeats 4000000 in
set_option maxRecDepth 100000 in
theorem t_take_c {b o : Nat} (h : Fm w B f (.slice (some ⟨b, o, none⟩) l.length l.length) l n .nilIface) (g : Gl a0 w) (hl : l.length ≤ 140737488355328) {K F : Nat} (hh : hd l = ⟨K, F, 0, l.length, 0⟩) (hn0 : 0 ≤ n) (hn1 : n ≤ 1000000) :
    Calls Tryd.prog 22 #[.pointer (some ⟨f, 0, none⟩)] w fun e w' => e = .returned (.tuple #[.agg #[.int .i64 (K : Int), .int .i64 (F : Int), .int .i64 0, .string (strB [])], .nilIface]) ∧ Fm w' B f (.slice (some ⟨b, o, none⟩) 0 0) [] (n + 1) .nilIface ∧ Far (FS f (.slice (some ⟨b, o, none⟩) l.length l.length)) w w' := by
  have hbd := hd_bd l
  rw [hh] at hbd
  simp only at hbd
  have hN := hbd.1
  have hT := hbd.2.1
  have hs1 : ¬ (l.length : Int) < (l.length : Int) := by omega
  have hw : IntKind.i64.wrap (l.length : Int) = (l.length : Int) := IntWalk.i64_in _ (by omega)
  have h4 : (0 : Int) ≤ (l.length : Int) := by omega
  have hB0 := Lib.hid h.wt.bytes
  have WT0 := Lib.hid h.wt.tail0
  have c1 := h.c1
  have c3 := h.c3
  have lt := h.lt
  have GT := get_any _ l 0 (w.alloc (.cells #[.int .i64 0, .int .i64 0, .int .i64 0, .string ⟨#[]⟩] 35)) (g.ext (ext_alloc w _)).2.2 (h.wt.bytes.keep (ext_alloc w _) (Nat.le_refl _)) h.bt hl (Nat.zero_le _)
  unfold GPost at GT
  rw [getV_hd, hh] at GT
  unfold HV at GT
  simp only at GT
  replace GT := Lib.hid GT
  replace hh := Lib.hid hh
  have G := Lib.hid g
  have H := Lib.hid h
  clear g h hl hbd
  go_enter Tryd.func22, Tryd.ntmps22
  go_wp2_with fail
  refine GT.out.mono ?_
  rintro e w1 ⟨rfl, b1⟩
  have g1 := (G.out.ext ((ext_alloc w _).trans (b1.mono (by simp)))).1
  have r1 := at_new b1
  have bb := Lib.hid ((ext_alloc w _).trans (b1.mono (by simp)))
  have k1 : w1.cell? ⟨f, 1, none⟩ = _ := (H.out.ext bb.out).c1
  have q0 : w1.cell? ⟨w.heap.size, 0, none⟩ = _ := cell_of_row w1 w.heap.size 0 _ 35 (0, 0) r1
  have q1 : w1.cell? ⟨w.heap.size, 1, none⟩ = _ := cell_of_row w1 w.heap.size 1 _ 35 (0, 0) r1
  have q2 : w1.cell? ⟨w.heap.size, 2, none⟩ = _ := cell_of_row w1 w.heap.size 2 _ 35 (0, 0) r1
  have q3 : w1.cell? ⟨w.heap.size, 3, none⟩ = _ := cell_of_row w1 w.heap.size 3 _ 35 (0, 0) r1
  have z0 : w1.frozen? ⟨w.heap.size, 0, none⟩ = false := frozen_of_row w1 w.heap.size 0 _ 35 r1
  have z1 : w1.frozen? ⟨w.heap.size, 1, none⟩ = false := frozen_of_row w1 w.heap.size 1 _ 35 r1
  have z2 : w1.frozen? ⟨w.heap.size, 2, none⟩ = false := frozen_of_row w1 w.heap.size 2 _ 35 r1
  have z3 : w1.frozen? ⟨w.heap.size, 3, none⟩ = false := frozen_of_row w1 w.heap.size 3 _ 35 r1
  have lt2 : w.heap.size < w1.heap.size := (Array.getElem?_eq_some_iff.1 r1).1
  have lt3 : 0 < w1.heap.size := by omega
  have lt4 : f < w1.heap.size := by omega
  have ln := Nat.ne_of_lt lt2
  replace r1 := Lib.hid r1
  clear b1 GT c1 c3
  have CV : Hid (∀ V, Below w1.heap.size w1 V → (convert 23 9 (.slice (some ⟨b, o, none⟩) 0 0)).run Tryd.prog V = .ok (.string (strB [])) V) := Lib.hid fun V hV => (WT0.out.ext ((bb.out).trans (hV.mono (Nat.le_of_lt lt2)))).bytes.conv Tryd.underlying23 Tryd.underlying5 Tryd.underlying9
  go_wp2_with fail
  have KS : Hid (∀ V, Below (w1.alloc (.cells #[.int .i64 (K : Int), .int .i64 (F : Int), .int .i64 0] 33)).heap.size (w1.alloc (.cells #[.int .i64 (K : Int), .int .i64 (F : Int), .int .i64 0] 33)) V → V.cell? ⟨f, 1, none⟩ = some (.slice (some ⟨b, o, none⟩) l.length l.length) ∧ V.cell? ⟨w1.heap.size, 0, none⟩ = some (.int .i64 (K : Int)) ∧ V.cell? ⟨w1.heap.size, 1, none⟩ = some (.int .i64 (F : Int)) ∧ V.cell? ⟨w1.heap.size, 2, none⟩ = some (.int .i64 0) ∧ (convert 23 9 (.slice (some ⟨b, o, none⟩) 0 0)).run Tryd.prog V = .ok (.string (strB [])) V) := Lib.hid fun V hV => by
    have hV1 : Below w1.heap.size w1 V := (ext_alloc w1 _).trans (hV.mono (by simp))
    have r := at_new hV
    exact ⟨(hV1.cell (p := ⟨f, 1, none⟩) lt4).trans k1, cell_of_row _ _ 0 _ 33 (0, 0) r, cell_of_row _ _ 1 _ 33 (0, 0) r, cell_of_row _ _ 2 _ 33 (0, 0) r, CV.out V hV1⟩
  generalize hW : w1.alloc _ = W at KS ⊢
  replace hW := Lib.hid hW
  clear q0 q1 q2 q3 z0 z1 z2 z3
  go_region_held3 (fun V => (V.cell? ⟨f, 1, none⟩ = some (.slice (some ⟨b, o, none⟩) l.length l.length) ∧ V.cell? ⟨w1.heap.size, 0, none⟩ = some (.int .i64 (K : Int)) ∧ V.cell? ⟨w1.heap.size, 1, none⟩ = some (.int .i64 (F : Int)) ∧ V.cell? ⟨w1.heap.size, 2, none⟩ = some (.int .i64 0) ∧ (convert 23 9 (.slice (some ⟨b, o, none⟩) 0 0)).run Tryd.prog V = .ok (.string (strB [])) V))
    (exact KS.out _ (by repeat (first | exact Below.refl _ _ | exact ext_drew _ | assumption | refine Below.drew ?_ | refine Below.alloc ?_ (by simp <;> omega) _ | refine Below.setCell ?_ (by simp <;> omega) _)))
    (fail)
  go_wp2_with fail
  have e8 : W.heap.size = w1.heap.size + 1 := by rw [← hW.out]; simp
  have BW : Below w1.heap.size w1 (W.alloc (.cells #[.int .i64 (K : Int), .int .i64 (F : Int), .int .i64 0, .string (strB [])] 35)).drew := by rw [← hW.out]; exact (ext_two w1 _ _).drew
  have r8 : (W.alloc (.cells #[.int .i64 (K : Int), .int .i64 (F : Int), .int .i64 0, .string (strB [])] 35)).drew.heap[W.heap.size]? = some (.cells #[.int .i64 (K : Int), .int .i64 (F : Int), .int .i64 0, .string (strB [])] 35 (0, 0)) := heap_alloc_new W _
  have z8 : W.heap.size < (W.alloc (.cells #[.int .i64 (K : Int), .int .i64 (F : Int), .int .i64 0, .string (strB [])] 35)).drew.heap.size := by simp
  generalize (W.alloc _).drew = W2 at BW r8 z8 ⊢
  have RF := Lib.hid ((BW.block f lt4).trans (H.out.ext bb.out).row)
  have R2 := Lib.hid ((BW.block w.heap.size lt2).trans r1.out)
  rw [e8] at r8 z8
  have R8 := Lib.hid r8
  have p0 : W2.cell? ⟨w1.heap.size + 1, 0, none⟩ = _ := cell_of_row _ _ 0 _ 35 (0, 0) R8.out
  have p1 : W2.cell? ⟨w1.heap.size + 1, 1, none⟩ = _ := cell_of_row _ _ 1 _ 35 (0, 0) R8.out
  have p2 : W2.cell? ⟨w1.heap.size + 1, 2, none⟩ = _ := cell_of_row _ _ 2 _ 35 (0, 0) R8.out
  have p3 : W2.cell? ⟨w1.heap.size + 1, 3, none⟩ = _ := cell_of_row _ _ 3 _ 35 (0, 0) R8.out
  have q0 : W2.cell? ⟨w.heap.size, 0, none⟩ = _ := cell_of_row _ _ 0 _ 35 (0, 0) R2.out
  have q1 : W2.cell? ⟨w.heap.size, 1, none⟩ = _ := cell_of_row _ _ 1 _ 35 (0, 0) R2.out
  have q2 : W2.cell? ⟨w.heap.size, 2, none⟩ = _ := cell_of_row _ _ 2 _ 35 (0, 0) R2.out
  have q3 : W2.cell? ⟨w.heap.size, 3, none⟩ = _ := cell_of_row _ _ 3 _ 35 (0, 0) R2.out
  have z0 : W2.frozen? ⟨w.heap.size, 0, none⟩ = false := frozen_of_row _ _ 0 _ 35 R2.out
  have z1 : W2.frozen? ⟨w.heap.size, 1, none⟩ = false := frozen_of_row _ _ 1 _ 35 R2.out
  have z2 : W2.frozen? ⟨w.heap.size, 2, none⟩ = false := frozen_of_row _ _ 2 _ 35 R2.out
  have z3 : W2.frozen? ⟨w.heap.size, 3, none⟩ = false := frozen_of_row _ _ 3 _ 35 R2.out
  have c1 : W2.cell? ⟨f, 1, none⟩ = _ := cell_of_row _ _ 1 _ 57 (0, 0) RF.out
  have c2 : W2.cell? ⟨f, 2, none⟩ = _ := cell_of_row _ _ 2 _ 57 (0, 0) RF.out
  have y1 : W2.frozen? ⟨f, 1, none⟩ = false := frozen_of_row _ _ 1 _ 57 RF.out
  have y2 : W2.frozen? ⟨f, 2, none⟩ = false := frozen_of_row _ _ 2 _ 57 RF.out
  have BX := Lib.hid BW
  have ea : ¬ f = w1.heap.size + 1 := by omega
  have eb : ¬ f = w.heap.size := by omega
  have ec : ¬ w.heap.size = w1.heap.size + 1 := by omega
  have ln0 : -9223372036854775808 ≤ n + 1 := by omega
  have ln1 : n + 1 ≤ 9223372036854775807 := by omega
  have hz2 : w1.heap.size ≤ W2.heap.size := BW.size
  clear r8 BW k1 g1 lt3 KS
  have S3 : ∀ V, (Instr.slice 23 (.slice (some ⟨b, o, none⟩) l.length l.length) (some (.int .i64 (l.length : Int))) (some (.int .i64 (l.length : Int))) (some (.int .i64 (l.length : Int)))).run Tryd.prog V = .ok (.slice (some ⟨b, o, none⟩) 0 0) V := fun V => by
    rw [run_slice_lhm V 23 _ _ _ Tryd.underlying23 .i64 .i64 .i64 _ _ _ (by omega) (by omega) (Int.le_refl _) (by omega)]
    simp [sizeOf5, Result.andThen, sliced]
  go_still_tail 19, (by kernel_rfl)
  go_wp2_with fail
  refine bodyPost_ret (v := .tuple #[.agg #[.int .i64 (K : Int), .int .i64 (F : Int), .int .i64 0, .string (strB [])], .nilIface]) (by simp [results, Tryd.results22, go_sem, q0, q1, q2, q3, eb, ec]) rfl ⟨rfl, ?_⟩
  have TE := took_end H.out ((bb.out).trans (BX.out.mono (Nat.le_of_lt lt2))) (by omega) H.out.wt.tail0 (fun x hx => by cases hx) (n + 1) (.int .i64 (K : Int)) (.int .i64 (F : Int)) (.int .i64 0) (.string (strB []))
  exact TE
/-- The packet that a head and its body read as. -/
def rawV (l : List Nat) : Value := .agg #[.int .i64 ((hd l).k : Int), .int .i64 ((hd l).f : Int), .int .i64 ((hd l).n : Int), .string (strB ((l.drop (hd l).to).take (hd l).n))]
theorem t_take (h : Fm w B f v l n .nilIface) (g : Gl a0 w) (hl : l.length ≤ 140737488355328) (he : (hd l).e = 0) (hs : (hd l).to + (hd l).n ≤ l.length) (hn0 : 0 ≤ n) (hn1 : n ≤ 1000000) :
    Calls Tryd.prog 22 #[.pointer (some ⟨f, 0, none⟩)] w fun e w' => ∃ v', e = .returned (.tuple #[rawV l, .nilIface]) ∧ Fm w' B f v' (l.drop ((hd l).to + (hd l).n)) (n + 1) .nilIface ∧ Far (FS f v) w w' ∧ ∀ k, v'.ownBlock = some k → v.ownBlock = some k := by
  have hbd := hd_bd l
  have h1 := hbd.2.2.2 he
  unfold rawV
  obtain ⟨K, F, N, T, E, hh⟩ : ∃ K F N T E, hd l = ⟨K, F, N, T, E⟩ := ⟨_, _, _, _, _, rfl⟩
  rw [hh] at he hs h1 ⊢
  simp only at he hs h1 ⊢
  subst he
  obtain ⟨b, o, cap, rfl, -⟩ := h.wt.tail (by omega) 0 (by omega)
  have hcp : l.length ≤ cap := by
    obtain ⟨a', c', hv, hc, -⟩ := h.wt.bytes
    simp only [Value.slice.injEq] at hv
    rw [hv.2.2]; exact hc.1
  by_cases hcT : cap = T
  · have hN : N = 0 := by omega
    have hL : T = l.length := by omega
    subst hN
    obtain rfl : cap = l.length := by omega
    subst hcT
    refine (t_take_c h g hl hh hn0 hn1).mono ?_
    rintro e w' ⟨rfl, h2, h3⟩
    refine ⟨.slice (some ⟨b, o, none⟩) 0 0, by simp, ?_, h3, fun k hk => hk⟩
    rw [List.drop_of_length_le (by omega)]
    exact h2
  by_cases hlt : T + N < l.length
  · refine (t_take_a h g hl hh hlt hcp hn0 hn1).mono ?_
    rintro e w' ⟨rfl, h2, h3⟩
    exact ⟨_, rfl, h2, h3, fun k hk => hk⟩
  · refine (t_take_b h g hl hh (Lib.hid (by omega)) hcp hcT hn0 hn1).mono ?_
    rintro e w' ⟨rfl, h2, h3⟩
    refine ⟨.slice (some ⟨b, o, none⟩) 0 0, rfl, ?_, h3, fun k hk => hk⟩
    rw [List.drop_of_length_le (by omega)]
    exact h2
end
end Go.Proofs.YtceiipcdkonnlaaDoor
