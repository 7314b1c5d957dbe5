/-
  LAYER 3: the program's reader: next, by kinds.
-/
import Derived.Test.YtoglgdkeknojkaaWk
namespace Go.Proofs.Ytoglgdkeknojkaa
open Go.RowKit

set_option maxHeartbeats 2000000 in
set_option maxRecDepth 100000 in
theorem next_0 (v : Value) (l : List Nat) (k r : Nat) (op : List Nat) (w0 w : World) (hS : Src w0 v l) (h : ∀ x ∈ l, x < 256) (hl : l.length ≤ 140737488355328) (hk : k ≤ l.length) (hop8 : op.length ≤ 8) (hR : RS w0 w r v k op)
    (h0 : gE l k = 0) (hD1 : ¬ (gN l k / 8 < 1 ∨ 536870912 ≤ gN l k / 8)) (hM : gN l k % 8 = 0) :
    Calls Try.prog 39 #[.pointer (some ⟨r, 0, none⟩)] w (NextPost l w0 r v k op w) := by
  obtain ⟨T, hT0⟩ : ∃ x, x = gN l k := ⟨_, rfl⟩
  have hT := hT0
  have N : Calls Try.prog 52 #[.pointer (some ⟨r, 0, none⟩)] (w.alloc (.cells #[.int .i64 0, .int .i64 0, .int .u64 0, .string ⟨#[]⟩] 41)) fun e w' => e = .returned (.tuple #[.int .u64 (gN l k : Nat), .int .i64 0]) ∧ RS w0 w' r v (gAt l k) op ∧ KeepT (w.alloc (.cells #[.int .i64 0, .int .i64 0, .int .u64 0, .string ⟨#[]⟩] 41)) w' := by
    refine (num_any v l k r op w0 (w.alloc (.cells #[.int .i64 0, .int .i64 0, .int .u64 0, .string ⟨#[]⟩] 41)) hS h hl hk (hR.ext (ext_alloc _ _))).mono ?_
    rintro e w1 ⟨⟨-, rfl, R1⟩ | ⟨h1, rfl, R1⟩, K1⟩
    · exact ⟨rfl, R1, K1⟩
    · exact absurd h0 h1
  rw [← hT0] at N
  replace N := Lib.hid N
  have K0 := Lib.hid (KeepT.ext (ext_alloc w (.cells #[.int .i64 0, .int .i64 0, .int .u64 0, .string ⟨#[]⟩] 41)))
  have hk0 := Lib.hid (Blk.new w 41 #[.int .i64 0, .int .i64 0, .int .u64 0, .string ⟨#[]⟩])
  have hgs := g_spec l k h hk
  obtain ⟨D, hD⟩ : ∃ x, x = T / 8 := ⟨_, rfl⟩
  obtain ⟨A, hA⟩ : ∃ x, x = gAt l k := ⟨_, rfl⟩
  rw [h0, ← hT, ← hA] at hgs
  rw [← hT] at hM hD1
  obtain ⟨-, g1, g2, g3⟩ : 0 = 0 ∧ T ≤ 18446744073709551615 ∧ k < A ∧ A ≤ l.length := by omega
  have kM : bits .and .u64 (T : Int) 7 = 0 := by
    rw [show (7 : Int) = ((7 : Nat) : Int) from rfl, u64_and_nat T 7 (by omega) (by omega), nat_mask3, hM]
    try rfl
  have qD : (T : Int) / 8 = (D : Nat) := by omega
  have d1 : (1 : Int) ≤ D := by omega
  have d2 : (D : Int) ≤ 536870911 := by omega
  have d2n : D ≤ 536870911 := by omega
  have g1' : (T : Int) ≤ 18446744073709551615 := by omega
  have zr : w0.heap.size ≤ w.heap.size := hR.below.size
  obtain ⟨v', hv'⟩ : ∃ x, x = v := ⟨_, rfl⟩
  replace h0 := Lib.hid h0
  replace hT := Lib.hid hT
  replace hD := Lib.hid hD
  replace hA := Lib.hid hA
  replace hM := Lib.hid hM
  replace hD1 := Lib.hid hD1
  replace hR := Lib.hid hR
  have hS' := Lib.hid hS
  replace h := Lib.hid h
  clear hgs hS g1 hT0
  go_enter Try.func39, Try.ntmps39
  go_wp2_with fail
  refine (N.out).mono ?_
  rintro e w1 ⟨rfl, R1, K1⟩
  rw [← hA.out] at R1
  clear N
  have kb := K1 _ _ _ (by decide) (by decide) hk0.out
  have hlt := kb.lt
  obtain ⟨ov, hB1, hown1, hrest⟩ := id R1
  obtain ⟨ap, cp, rfl⟩ := own_slice hown1
  have o2 : w1.cell? ⟨r, 2, none⟩ = some (.slice ap op.length cp) := hB1.cell 2
  have kg := Blk.new w1 41 #[.int .i64 (D : Nat), .int .i64 0, .int .u64 0, .string ⟨#[]⟩]
  have R2 := R1.ext (ext_alloc w1 (.cells #[.int .i64 (D : Nat), .int .i64 0, .int .u64 0, .string ⟨#[]⟩] 41))
  have kb2 := kb.alloc (.cells #[.int .i64 (D : Nat), .int .i64 0, .int .u64 0, .string ⟨#[]⟩] 41)
  have K2 := (K0.out.trans K1).trans (KeepT.ext (ext_alloc w1 (.cells #[.int .i64 (D : Nat), .int .i64 0, .int .u64 0, .string ⟨#[]⟩] 41)))
  have o3 : (w1.alloc (.cells #[.int .i64 (D : Nat), .int .i64 0, .int .u64 0, .string ⟨#[]⟩] 41)).cell? ⟨r, 2, none⟩ = some (.slice ap op.length cp) := (hB1.alloc _).cell 2
  replace R1 := Lib.hid R1
  replace K1 := Lib.hid K1
  replace kb := Lib.hid kb
  replace R2 := Lib.hid R2
  replace K2 := Lib.hid K2
  replace kg := Lib.hid kg
  replace kb2 := Lib.hid kb2
  clear hB1 hown1 hrest o2
  by_cases c0 : op = []
  · have c0' : op.length = 0 := by rw [c0]; rfl
    replace c0 := Lib.hid c0
    go_wp2_with fail
    refine (num_any v l A r op w0 _ hS'.out h.out hl g3 R2.out).mono ?_
    rintro e w2 ⟨⟨e0, rfl, R3⟩ | ⟨e0, rfl, R3⟩, K3⟩
    · have hv : vE l A 0 = 0 := by simp [vE, e0]
      have hN : nextF l k op = .ok (gAt l A, op, some ⟨D, 0, gN l A, ⟨#[]⟩⟩) := by unfold nextF; rw [if_neg (by simp [h0.out]), ← hT.out, ← hD.out, if_neg (by have := hD1.out; omega), if_neg (by have := hM.out; omega), if_neg (by have := hM.out; omega), ← hA.out, hM.out, if_neg (by simp [hv]), if_neg (by simp [c0.out])]; simp [vA, vF]
      replace hv := Lib.hid hv
      replace hN := Lib.hid hN
      replace e0 := Lib.hid e0
      have kg3 := K3 _ _ _ (by decide) (by decide) kg.out
      have kb3 := K3 _ _ _ (by decide) (by decide) kb2.out
      obtain ⟨q0, q1, q2, q3⟩ := blk4 (f := ⟨D, 0, 0, ⟨#[]⟩⟩) kg3
      obtain ⟨x0, x1, x2, x3⟩ := blk4 (f := ⟨0, 0, 0, ⟨#[]⟩⟩) kb3
      have p2 := kg3.fz 2
      have p3 := kg3.fz 3
      have f0 := kb3.fz 0
      have f1 := kb3.fz 1
      have f2 := kb3.fz 2
      have f3 := kb3.fz 3
      have hn1 : ¬ w1.heap.size = w.heap.size := by omega
      have hn2 : ¬ w.heap.size = w1.heap.size := by omega
      replace R3 := Lib.hid R3
      replace K3 := Lib.hid K3
      replace kg3 := Lib.hid kg3
      replace kb3 := Lib.hid kb3
      go_wp2_with fail
      have kb4 := kb3.out.far (p := ⟨w1.heap.size, 2, none⟩) hn2 (.int .u64 (gN l A : Nat))
      have K4 := ((K2.out.trans K3.out).far (p := ⟨w1.heap.size, 2, none⟩) (by simp only; omega) (.int .u64 (gN l A : Nat))).far4 (g := w.heap.size) (Nat.le_refl _)
      refine ret24 (f := ⟨D, 0, gN l A, ⟨#[]⟩⟩) rfl rfl rfl rfl kb4.set4 ?_
      exact ⟨K4 _ _ _ _, .inr (.inr ⟨_, _, ⟨D, 0, gN l A, ⟨#[]⟩⟩, hN.out, by first | rfl | (simp [Fd.cells]), ((R3.out.far kg3.out (by omega) 2 (.int .u64 (gN l A : Nat))).far4 kb4 zr _ _ _ _)⟩)⟩
    · have hv : vE l A 0 = gE l A := by simp [vE]
      have hE0 : gE l A ≠ 0 := by exact e0
      have hN : nextF l k op = .error (gE l A) := by unfold nextF; rw [if_neg (by simp [h0.out]), ← hT.out, ← hD.out, if_neg (by have := hD1.out; omega), if_neg (by have := hM.out; omega), if_neg (by have := hM.out; omega), ← hA.out, hM.out, if_pos (by rw [hv]; exact hE0), hv]
      replace hv := Lib.hid hv
      replace hN := Lib.hid hN
      replace hE0 := Lib.hid hE0
      replace e0 := Lib.hid e0
      have kg3 := K3 _ _ _ (by decide) (by decide) kg.out
      have kb3 := K3 _ _ _ (by decide) (by decide) kb2.out
      obtain ⟨q0, q1, q2, q3⟩ := blk4 (f := ⟨D, 0, 0, ⟨#[]⟩⟩) kg3
      obtain ⟨x0, x1, x2, x3⟩ := blk4 (f := ⟨0, 0, 0, ⟨#[]⟩⟩) kb3
      have p2 := kg3.fz 2
      have p3 := kg3.fz 3
      have f0 := kb3.fz 0
      have f1 := kb3.fz 1
      have f2 := kb3.fz 2
      have f3 := kb3.fz 3
      have hn1 : ¬ w1.heap.size = w.heap.size := by omega
      have hn2 : ¬ w.heap.size = w1.heap.size := by omega
      replace R3 := Lib.hid R3
      replace K3 := Lib.hid K3
      replace kg3 := Lib.hid kg3
      replace kb3 := Lib.hid kb3
      go_wp2_with fail
      have kb4 := kb3.out.far (p := ⟨w1.heap.size, 2, none⟩) hn2 (.int .u64 (gN l A : Nat))
      have K4 := ((K2.out.trans K3.out).far (p := ⟨w1.heap.size, 2, none⟩) (by simp only; omega) (.int .u64 (gN l A : Nat))).far4 (g := w.heap.size) (Nat.le_refl _)
      refine ret24 (f := ⟨D, 0, gN l A, ⟨#[]⟩⟩) rfl rfl rfl rfl kb4.set4 ?_
      exact ⟨K4 _ _ _ _, .inl ⟨_, ⟨D, 0, gN l A, ⟨#[]⟩⟩, true, hN.out, by first | rfl | (simp [Fd.cells]), ((R3.out.far kg3.out (by omega) 2 (.int .u64 (gN l A : Nat))).far4 kb4 zr _ _ _ _).below⟩⟩
  · have c0' : ((op.length : Int) == 0) = false := by rw [beq_eq_false_iff_ne]; have := List.length_pos_iff.2 c0; omega
    replace c0 := Lib.hid c0
    go_wp2_with fail
    refine (num_any v l A r op w0 _ hS'.out h.out hl g3 R2.out).mono ?_
    rintro e w2 ⟨⟨e0, rfl, R3⟩ | ⟨e0, rfl, R3⟩, K3⟩
    · have hv : vE l A 0 = 0 := by simp [vE, e0]
      have hN : nextF l k op = .ok (gAt l A, op, none) := by unfold nextF; rw [if_neg (by simp [h0.out]), ← hT.out, ← hD.out, if_neg (by have := hD1.out; omega), if_neg (by have := hM.out; omega), if_neg (by have := hM.out; omega), ← hA.out, hM.out, if_neg (by simp [hv]), if_pos (by simpa using c0.out)]; simp [vA]
      replace hv := Lib.hid hv
      replace hN := Lib.hid hN
      replace e0 := Lib.hid e0
      have kg3 := K3 _ _ _ (by decide) (by decide) kg.out
      have kb3 := K3 _ _ _ (by decide) (by decide) kb2.out
      obtain ⟨q0, q1, q2, q3⟩ := blk4 (f := ⟨D, 0, 0, ⟨#[]⟩⟩) kg3
      obtain ⟨x0, x1, x2, x3⟩ := blk4 (f := ⟨0, 0, 0, ⟨#[]⟩⟩) kb3
      have p2 := kg3.fz 2
      have p3 := kg3.fz 3
      have f0 := kb3.fz 0
      have f1 := kb3.fz 1
      have f2 := kb3.fz 2
      have f3 := kb3.fz 3
      have hn1 : ¬ w1.heap.size = w.heap.size := by omega
      have hn2 : ¬ w.heap.size = w1.heap.size := by omega
      replace R3 := Lib.hid R3
      replace K3 := Lib.hid K3
      replace kg3 := Lib.hid kg3
      replace kb3 := Lib.hid kb3
      go_wp2_with fail
      have kb4 := kb3.out.far (p := ⟨w1.heap.size, 2, none⟩) hn2 (.int .u64 (gN l A : Nat))
      have K4 := ((K2.out.trans K3.out).far (p := ⟨w1.heap.size, 2, none⟩) (by simp only; omega) (.int .u64 (gN l A : Nat))).far4 (g := w.heap.size) (Nat.le_refl _)
      refine ret24 (f := ⟨D, 0, gN l A, ⟨#[]⟩⟩) rfl rfl rfl rfl kb4.set4 ?_
      exact ⟨K4 _ _ _ _, .inr (.inl ⟨_, _, ⟨D, 0, gN l A, ⟨#[]⟩⟩, hN.out, by first | rfl | (simp [Fd.cells]), ((R3.out.far kg3.out (by omega) 2 (.int .u64 (gN l A : Nat))).far4 kb4 zr _ _ _ _)⟩)⟩
    · have hv : vE l A 0 = gE l A := by simp [vE]
      have hE0 : gE l A ≠ 0 := by exact e0
      have hN : nextF l k op = .error (gE l A) := by unfold nextF; rw [if_neg (by simp [h0.out]), ← hT.out, ← hD.out, if_neg (by have := hD1.out; omega), if_neg (by have := hM.out; omega), if_neg (by have := hM.out; omega), ← hA.out, hM.out, if_pos (by rw [hv]; exact hE0), hv]
      replace hv := Lib.hid hv
      replace hN := Lib.hid hN
      replace hE0 := Lib.hid hE0
      replace e0 := Lib.hid e0
      have kg3 := K3 _ _ _ (by decide) (by decide) kg.out
      have kb3 := K3 _ _ _ (by decide) (by decide) kb2.out
      obtain ⟨q0, q1, q2, q3⟩ := blk4 (f := ⟨D, 0, 0, ⟨#[]⟩⟩) kg3
      obtain ⟨x0, x1, x2, x3⟩ := blk4 (f := ⟨0, 0, 0, ⟨#[]⟩⟩) kb3
      have p2 := kg3.fz 2
      have p3 := kg3.fz 3
      have f0 := kb3.fz 0
      have f1 := kb3.fz 1
      have f2 := kb3.fz 2
      have f3 := kb3.fz 3
      have hn1 : ¬ w1.heap.size = w.heap.size := by omega
      have hn2 : ¬ w.heap.size = w1.heap.size := by omega
      replace R3 := Lib.hid R3
      replace K3 := Lib.hid K3
      replace kg3 := Lib.hid kg3
      replace kb3 := Lib.hid kb3
      go_wp2_with fail
      have kb4 := kb3.out.far (p := ⟨w1.heap.size, 2, none⟩) hn2 (.int .u64 (gN l A : Nat))
      have K4 := ((K2.out.trans K3.out).far (p := ⟨w1.heap.size, 2, none⟩) (by simp only; omega) (.int .u64 (gN l A : Nat))).far4 (g := w.heap.size) (Nat.le_refl _)
      refine ret24 (f := ⟨D, 0, gN l A, ⟨#[]⟩⟩) rfl rfl rfl rfl kb4.set4 ?_
      exact ⟨K4 _ _ _ _, .inl ⟨_, ⟨D, 0, gN l A, ⟨#[]⟩⟩, false, hN.out, by first | rfl | (simp [Fd.cells]), ((R3.out.far kg3.out (by omega) 2 (.int .u64 (gN l A : Nat))).far4 kb4 zr _ _ _ _).below⟩⟩
set_option maxHeartbeats 2000000 in
set_option maxRecDepth 100000 in
theorem next_2 (v : Value) (l : List Nat) (k r : Nat) (op : List Nat) (w0 w : World) (hS : Src w0 v l) (h : ∀ x ∈ l, x < 256) (hl : l.length ≤ 140737488355328) (hk : k ≤ l.length) (hop8 : op.length ≤ 8) (hR : RS w0 w r v k op)
    (h0 : gE l k = 0) (hD1 : ¬ (gN l k / 8 < 1 ∨ 536870912 ≤ gN l k / 8)) (hM : gN l k % 8 = 2) :
    Calls Try.prog 39 #[.pointer (some ⟨r, 0, none⟩)] w (NextPost l w0 r v k op w) := by
  obtain ⟨T, hT0⟩ : ∃ x, x = gN l k := ⟨_, rfl⟩
  have hT := hT0
  have N : Calls Try.prog 52 #[.pointer (some ⟨r, 0, none⟩)] (w.alloc (.cells #[.int .i64 0, .int .i64 0, .int .u64 0, .string ⟨#[]⟩] 41)) fun e w' => e = .returned (.tuple #[.int .u64 (gN l k : Nat), .int .i64 0]) ∧ RS w0 w' r v (gAt l k) op ∧ KeepT (w.alloc (.cells #[.int .i64 0, .int .i64 0, .int .u64 0, .string ⟨#[]⟩] 41)) w' := by
    refine (num_any v l k r op w0 (w.alloc (.cells #[.int .i64 0, .int .i64 0, .int .u64 0, .string ⟨#[]⟩] 41)) hS h hl hk (hR.ext (ext_alloc _ _))).mono ?_
    rintro e w1 ⟨⟨-, rfl, R1⟩ | ⟨h1, rfl, R1⟩, K1⟩
    · exact ⟨rfl, R1, K1⟩
    · exact absurd h0 h1
  rw [← hT0] at N
  replace N := Lib.hid N
  have K0 := Lib.hid (KeepT.ext (ext_alloc w (.cells #[.int .i64 0, .int .i64 0, .int .u64 0, .string ⟨#[]⟩] 41)))
  have hk0 := Lib.hid (Blk.new w 41 #[.int .i64 0, .int .i64 0, .int .u64 0, .string ⟨#[]⟩])
  have hgs := g_spec l k h hk
  obtain ⟨D, hD⟩ : ∃ x, x = T / 8 := ⟨_, rfl⟩
  obtain ⟨A, hA⟩ : ∃ x, x = gAt l k := ⟨_, rfl⟩
  rw [h0, ← hT, ← hA] at hgs
  rw [← hT] at hM hD1
  obtain ⟨-, g1, g2, g3⟩ : 0 = 0 ∧ T ≤ 18446744073709551615 ∧ k < A ∧ A ≤ l.length := by omega
  have kM : bits .and .u64 (T : Int) 7 = 2 := by
    rw [show (7 : Int) = ((7 : Nat) : Int) from rfl, u64_and_nat T 7 (by omega) (by omega), nat_mask3, hM]
    try rfl
  have qD : (T : Int) / 8 = (D : Nat) := by omega
  have d1 : (1 : Int) ≤ D := by omega
  have d2 : (D : Int) ≤ 536870911 := by omega
  have d2n : D ≤ 536870911 := by omega
  have g1' : (T : Int) ≤ 18446744073709551615 := by omega
  have zr : w0.heap.size ≤ w.heap.size := hR.below.size
  obtain ⟨v', hv'⟩ : ∃ x, x = v := ⟨_, rfl⟩
  replace h0 := Lib.hid h0
  replace hT := Lib.hid hT
  replace hD := Lib.hid hD
  replace hA := Lib.hid hA
  replace hM := Lib.hid hM
  replace hD1 := Lib.hid hD1
  replace hR := Lib.hid hR
  have hS' := Lib.hid hS
  replace h := Lib.hid h
  clear hgs hS g1 hT0
  go_enter Try.func39, Try.ntmps39
  go_wp2_with fail
  refine (N.out).mono ?_
  rintro e w1 ⟨rfl, R1, K1⟩
  rw [← hA.out] at R1
  clear N
  have kb := K1 _ _ _ (by decide) (by decide) hk0.out
  have hlt := kb.lt
  obtain ⟨ov, hB1, hown1, hrest⟩ := id R1
  obtain ⟨ap, cp, rfl⟩ := own_slice hown1
  have o2 : w1.cell? ⟨r, 2, none⟩ = some (.slice ap op.length cp) := hB1.cell 2
  have kg := Blk.new w1 41 #[.int .i64 (D : Nat), .int .i64 2, .int .u64 0, .string ⟨#[]⟩]
  have R2 := R1.ext (ext_alloc w1 (.cells #[.int .i64 (D : Nat), .int .i64 2, .int .u64 0, .string ⟨#[]⟩] 41))
  have kb2 := kb.alloc (.cells #[.int .i64 (D : Nat), .int .i64 2, .int .u64 0, .string ⟨#[]⟩] 41)
  have K2 := (K0.out.trans K1).trans (KeepT.ext (ext_alloc w1 (.cells #[.int .i64 (D : Nat), .int .i64 2, .int .u64 0, .string ⟨#[]⟩] 41)))
  have o3 : (w1.alloc (.cells #[.int .i64 (D : Nat), .int .i64 2, .int .u64 0, .string ⟨#[]⟩] 41)).cell? ⟨r, 2, none⟩ = some (.slice ap op.length cp) := (hB1.alloc _).cell 2
  replace R1 := Lib.hid R1
  replace K1 := Lib.hid K1
  replace kb := Lib.hid kb
  replace R2 := Lib.hid R2
  replace K2 := Lib.hid K2
  replace kg := Lib.hid kg
  replace kb2 := Lib.hid kb2
  clear hB1 hown1 hrest o2
  by_cases c0 : op = []
  · have c0' : op.length = 0 := by rw [c0]; rfl
    replace c0 := Lib.hid c0
    go_wp2_with fail
    refine (tx_any v l A r op w0 _ hS'.out h.out hl g3 R2.out).mono ?_
    rintro e w2 ⟨⟨e0, rfl, R3⟩ | ⟨e0, rfl, pp, R3⟩, K3⟩
    · have hv : vE l A 2 = 0 := e0
      have hN : nextF l k op = .ok (gAt l A + gN l A, op, some ⟨D, 2, 0, strB ((l.drop (gAt l A)).take (gN l A))⟩) := by unfold nextF; rw [if_neg (by simp [h0.out]), ← hT.out, ← hD.out, if_neg (by have := hD1.out; omega), if_neg (by have := hM.out; omega), if_neg (by have := hM.out; omega), ← hA.out, hM.out, if_neg (by simp [hv]), if_neg (by simp [c0.out])]; simp [vA, vF]
      replace hv := Lib.hid hv
      replace hN := Lib.hid hN
      replace e0 := Lib.hid e0
      have kg3 := K3 _ _ _ (by decide) (by decide) kg.out
      have kb3 := K3 _ _ _ (by decide) (by decide) kb2.out
      obtain ⟨q0, q1, q2, q3⟩ := blk4 (f := ⟨D, 2, 0, ⟨#[]⟩⟩) kg3
      obtain ⟨x0, x1, x2, x3⟩ := blk4 (f := ⟨0, 0, 0, ⟨#[]⟩⟩) kb3
      have p2 := kg3.fz 2
      have p3 := kg3.fz 3
      have f0 := kb3.fz 0
      have f1 := kb3.fz 1
      have f2 := kb3.fz 2
      have f3 := kb3.fz 3
      have hn1 : ¬ w1.heap.size = w.heap.size := by omega
      have hn2 : ¬ w.heap.size = w1.heap.size := by omega
      replace R3 := Lib.hid R3
      replace K3 := Lib.hid K3
      replace kg3 := Lib.hid kg3
      replace kb3 := Lib.hid kb3
      go_wp2_with fail
      have kb4 := kb3.out.far (p := ⟨w1.heap.size, 3, none⟩) hn2 (.string (strB ((l.drop (gAt l A)).take (gN l A))))
      have K4 := ((K2.out.trans K3.out).far (p := ⟨w1.heap.size, 3, none⟩) (by simp only; omega) (.string (strB ((l.drop (gAt l A)).take (gN l A))))).far4 (g := w.heap.size) (Nat.le_refl _)
      refine ret24 (f := ⟨D, 2, 0, strB ((l.drop (gAt l A)).take (gN l A))⟩) rfl rfl rfl rfl kb4.set4 ?_
      exact ⟨K4 _ _ _ _, .inr (.inr ⟨_, _, ⟨D, 2, 0, strB ((l.drop (gAt l A)).take (gN l A))⟩, hN.out, by first | rfl | (simp [Fd.cells]), ((R3.out.far kg3.out (by omega) 3 (.string (strB ((l.drop (gAt l A)).take (gN l A))))).far4 kb4 zr _ _ _ _)⟩)⟩
    · have hv : vE l A 2 = vE l A 2 := rfl
      have hE0 : vE l A 2 ≠ 0 := by exact e0
      have hN : nextF l k op = .error (vE l A 2) := by unfold nextF; rw [if_neg (by simp [h0.out]), ← hT.out, ← hD.out, if_neg (by have := hD1.out; omega), if_neg (by have := hM.out; omega), if_neg (by have := hM.out; omega), ← hA.out, hM.out, if_pos (by rw [hv]; exact hE0), hv]
      replace hv := Lib.hid hv
      replace hN := Lib.hid hN
      replace hE0 := Lib.hid hE0
      replace e0 := Lib.hid e0
      have kg3 := K3 _ _ _ (by decide) (by decide) kg.out
      have kb3 := K3 _ _ _ (by decide) (by decide) kb2.out
      obtain ⟨q0, q1, q2, q3⟩ := blk4 (f := ⟨D, 2, 0, ⟨#[]⟩⟩) kg3
      obtain ⟨x0, x1, x2, x3⟩ := blk4 (f := ⟨0, 0, 0, ⟨#[]⟩⟩) kb3
      have p2 := kg3.fz 2
      have p3 := kg3.fz 3
      have f0 := kb3.fz 0
      have f1 := kb3.fz 1
      have f2 := kb3.fz 2
      have f3 := kb3.fz 3
      have hn1 : ¬ w1.heap.size = w.heap.size := by omega
      have hn2 : ¬ w.heap.size = w1.heap.size := by omega
      replace R3 := Lib.hid R3
      replace K3 := Lib.hid K3
      replace kg3 := Lib.hid kg3
      replace kb3 := Lib.hid kb3
      go_wp2_with fail
      have kb4 := kb3.out.far (p := ⟨w1.heap.size, 3, none⟩) hn2 (.string ⟨#[]⟩)
      have K4 := ((K2.out.trans K3.out).far (p := ⟨w1.heap.size, 3, none⟩) (by simp only; omega) (.string ⟨#[]⟩)).far4 (g := w.heap.size) (Nat.le_refl _)
      refine ret24 (f := ⟨D, 2, 0, ⟨#[]⟩⟩) rfl rfl rfl rfl kb4.set4 ?_
      exact ⟨K4 _ _ _ _, .inl ⟨_, ⟨D, 2, 0, ⟨#[]⟩⟩, true, hN.out, by first | rfl | (simp [Fd.cells]), ((R3.out.far kg3.out (by omega) 3 (.string ⟨#[]⟩)).far4 kb4 zr _ _ _ _).below⟩⟩
  · have c0' : ((op.length : Int) == 0) = false := by rw [beq_eq_false_iff_ne]; have := List.length_pos_iff.2 c0; omega
    replace c0 := Lib.hid c0
    go_wp2_with fail
    refine (tx_any v l A r op w0 _ hS'.out h.out hl g3 R2.out).mono ?_
    rintro e w2 ⟨⟨e0, rfl, R3⟩ | ⟨e0, rfl, pp, R3⟩, K3⟩
    · have hv : vE l A 2 = 0 := e0
      have hN : nextF l k op = .ok (gAt l A + gN l A, op, none) := by unfold nextF; rw [if_neg (by simp [h0.out]), ← hT.out, ← hD.out, if_neg (by have := hD1.out; omega), if_neg (by have := hM.out; omega), if_neg (by have := hM.out; omega), ← hA.out, hM.out, if_neg (by simp [hv]), if_pos (by simpa using c0.out)]; simp [vA]
      replace hv := Lib.hid hv
      replace hN := Lib.hid hN
      replace e0 := Lib.hid e0
      have kg3 := K3 _ _ _ (by decide) (by decide) kg.out
      have kb3 := K3 _ _ _ (by decide) (by decide) kb2.out
      obtain ⟨q0, q1, q2, q3⟩ := blk4 (f := ⟨D, 2, 0, ⟨#[]⟩⟩) kg3
      obtain ⟨x0, x1, x2, x3⟩ := blk4 (f := ⟨0, 0, 0, ⟨#[]⟩⟩) kb3
      have p2 := kg3.fz 2
      have p3 := kg3.fz 3
      have f0 := kb3.fz 0
      have f1 := kb3.fz 1
      have f2 := kb3.fz 2
      have f3 := kb3.fz 3
      have hn1 : ¬ w1.heap.size = w.heap.size := by omega
      have hn2 : ¬ w.heap.size = w1.heap.size := by omega
      replace R3 := Lib.hid R3
      replace K3 := Lib.hid K3
      replace kg3 := Lib.hid kg3
      replace kb3 := Lib.hid kb3
      go_wp2_with fail
      have kb4 := kb3.out.far (p := ⟨w1.heap.size, 3, none⟩) hn2 (.string (strB ((l.drop (gAt l A)).take (gN l A))))
      have K4 := ((K2.out.trans K3.out).far (p := ⟨w1.heap.size, 3, none⟩) (by simp only; omega) (.string (strB ((l.drop (gAt l A)).take (gN l A))))).far4 (g := w.heap.size) (Nat.le_refl _)
      refine ret24 (f := ⟨D, 2, 0, strB ((l.drop (gAt l A)).take (gN l A))⟩) rfl rfl rfl rfl kb4.set4 ?_
      exact ⟨K4 _ _ _ _, .inr (.inl ⟨_, _, ⟨D, 2, 0, strB ((l.drop (gAt l A)).take (gN l A))⟩, hN.out, by first | rfl | (simp [Fd.cells]), ((R3.out.far kg3.out (by omega) 3 (.string (strB ((l.drop (gAt l A)).take (gN l A))))).far4 kb4 zr _ _ _ _)⟩)⟩
    · have hv : vE l A 2 = vE l A 2 := rfl
      have hE0 : vE l A 2 ≠ 0 := by exact e0
      have hN : nextF l k op = .error (vE l A 2) := by unfold nextF; rw [if_neg (by simp [h0.out]), ← hT.out, ← hD.out, if_neg (by have := hD1.out; omega), if_neg (by have := hM.out; omega), if_neg (by have := hM.out; omega), ← hA.out, hM.out, if_pos (by rw [hv]; exact hE0), hv]
      replace hv := Lib.hid hv
      replace hN := Lib.hid hN
      replace hE0 := Lib.hid hE0
      replace e0 := Lib.hid e0
      have kg3 := K3 _ _ _ (by decide) (by decide) kg.out
      have kb3 := K3 _ _ _ (by decide) (by decide) kb2.out
      obtain ⟨q0, q1, q2, q3⟩ := blk4 (f := ⟨D, 2, 0, ⟨#[]⟩⟩) kg3
      obtain ⟨x0, x1, x2, x3⟩ := blk4 (f := ⟨0, 0, 0, ⟨#[]⟩⟩) kb3
      have p2 := kg3.fz 2
      have p3 := kg3.fz 3
      have f0 := kb3.fz 0
      have f1 := kb3.fz 1
      have f2 := kb3.fz 2
      have f3 := kb3.fz 3
      have hn1 : ¬ w1.heap.size = w.heap.size := by omega
      have hn2 : ¬ w.heap.size = w1.heap.size := by omega
      replace R3 := Lib.hid R3
      replace K3 := Lib.hid K3
      replace kg3 := Lib.hid kg3
      replace kb3 := Lib.hid kb3
      go_wp2_with fail
      have kb4 := kb3.out.far (p := ⟨w1.heap.size, 3, none⟩) hn2 (.string ⟨#[]⟩)
      have K4 := ((K2.out.trans K3.out).far (p := ⟨w1.heap.size, 3, none⟩) (by simp only; omega) (.string ⟨#[]⟩)).far4 (g := w.heap.size) (Nat.le_refl _)
      refine ret24 (f := ⟨D, 2, 0, ⟨#[]⟩⟩) rfl rfl rfl rfl kb4.set4 ?_
      exact ⟨K4 _ _ _ _, .inl ⟨_, ⟨D, 2, 0, ⟨#[]⟩⟩, false, hN.out, by first | rfl | (simp [Fd.cells]), ((R3.out.far kg3.out (by omega) 3 (.string ⟨#[]⟩)).far4 kb4 zr _ _ _ _).below⟩⟩
set_option maxHeartbeats 2000000 in
set_option maxRecDepth 100000 in
theorem next_1 (v : Value) (l : List Nat) (k r : Nat) (op : List Nat) (w0 w : World) (hS : Src w0 v l) (h : ∀ x ∈ l, x < 256) (hl : l.length ≤ 140737488355328) (hk : k ≤ l.length) (hop8 : op.length ≤ 8) (hR : RS w0 w r v k op)
    (h0 : gE l k = 0) (hD1 : ¬ (gN l k / 8 < 1 ∨ 536870912 ≤ gN l k / 8)) (hM : gN l k % 8 = 1) :
    Calls Try.prog 39 #[.pointer (some ⟨r, 0, none⟩)] w (NextPost l w0 r v k op w) := by
  obtain ⟨T, hT0⟩ : ∃ x, x = gN l k := ⟨_, rfl⟩
  have hT := hT0
  have N : Calls Try.prog 52 #[.pointer (some ⟨r, 0, none⟩)] (w.alloc (.cells #[.int .i64 0, .int .i64 0, .int .u64 0, .string ⟨#[]⟩] 41)) fun e w' => e = .returned (.tuple #[.int .u64 (gN l k : Nat), .int .i64 0]) ∧ RS w0 w' r v (gAt l k) op ∧ KeepT (w.alloc (.cells #[.int .i64 0, .int .i64 0, .int .u64 0, .string ⟨#[]⟩] 41)) w' := by
    refine (num_any v l k r op w0 (w.alloc (.cells #[.int .i64 0, .int .i64 0, .int .u64 0, .string ⟨#[]⟩] 41)) hS h hl hk (hR.ext (ext_alloc _ _))).mono ?_
    rintro e w1 ⟨⟨-, rfl, R1⟩ | ⟨h1, rfl, R1⟩, K1⟩
    · exact ⟨rfl, R1, K1⟩
    · exact absurd h0 h1
  rw [← hT0] at N
  replace N := Lib.hid N
  have K0 := Lib.hid (KeepT.ext (ext_alloc w (.cells #[.int .i64 0, .int .i64 0, .int .u64 0, .string ⟨#[]⟩] 41)))
  have hk0 := Lib.hid (Blk.new w 41 #[.int .i64 0, .int .i64 0, .int .u64 0, .string ⟨#[]⟩])
  have hgs := g_spec l k h hk
  obtain ⟨D, hD⟩ : ∃ x, x = T / 8 := ⟨_, rfl⟩
  obtain ⟨A, hA⟩ : ∃ x, x = gAt l k := ⟨_, rfl⟩
  rw [h0, ← hT, ← hA] at hgs
  rw [← hT] at hM hD1
  obtain ⟨-, g1, g2, g3⟩ : 0 = 0 ∧ T ≤ 18446744073709551615 ∧ k < A ∧ A ≤ l.length := by omega
  have kM : bits .and .u64 (T : Int) 7 = 1 := by
    rw [show (7 : Int) = ((7 : Nat) : Int) from rfl, u64_and_nat T 7 (by omega) (by omega), nat_mask3, hM]
    try rfl
  have qD : (T : Int) / 8 = (D : Nat) := by omega
  have d1 : (1 : Int) ≤ D := by omega
  have d2 : (D : Int) ≤ 536870911 := by omega
  have d2n : D ≤ 536870911 := by omega
  have g1' : (T : Int) ≤ 18446744073709551615 := by omega
  have zr : w0.heap.size ≤ w.heap.size := hR.below.size
  obtain ⟨v', hv'⟩ : ∃ x, x = v := ⟨_, rfl⟩
  replace h0 := Lib.hid h0
  replace hT := Lib.hid hT
  replace hD := Lib.hid hD
  replace hA := Lib.hid hA
  replace hM := Lib.hid hM
  replace hD1 := Lib.hid hD1
  replace hR := Lib.hid hR
  have hS' := Lib.hid hS
  replace h := Lib.hid h
  clear hgs hS g1 hT0
  go_enter Try.func39, Try.ntmps39
  go_wp2_with fail
  refine (N.out).mono ?_
  rintro e w1 ⟨rfl, R1, K1⟩
  rw [← hA.out] at R1
  clear N
  have kb := K1 _ _ _ (by decide) (by decide) hk0.out
  have hlt := kb.lt
  obtain ⟨ov, hB1, hown1, hrest⟩ := id R1
  obtain ⟨ap, cp, rfl⟩ := own_slice hown1
  have o2 : w1.cell? ⟨r, 2, none⟩ = some (.slice ap op.length cp) := hB1.cell 2
  have kg := Blk.new w1 41 #[.int .i64 (D : Nat), .int .i64 1, .int .u64 0, .string ⟨#[]⟩]
  have R2 := R1.ext (ext_alloc w1 (.cells #[.int .i64 (D : Nat), .int .i64 1, .int .u64 0, .string ⟨#[]⟩] 41))
  have kb2 := kb.alloc (.cells #[.int .i64 (D : Nat), .int .i64 1, .int .u64 0, .string ⟨#[]⟩] 41)
  have K2 := (K0.out.trans K1).trans (KeepT.ext (ext_alloc w1 (.cells #[.int .i64 (D : Nat), .int .i64 1, .int .u64 0, .string ⟨#[]⟩] 41)))
  have o3 : (w1.alloc (.cells #[.int .i64 (D : Nat), .int .i64 1, .int .u64 0, .string ⟨#[]⟩] 41)).cell? ⟨r, 2, none⟩ = some (.slice ap op.length cp) := (hB1.alloc _).cell 2
  replace R1 := Lib.hid R1
  replace K1 := Lib.hid K1
  replace kb := Lib.hid kb
  replace R2 := Lib.hid R2
  replace K2 := Lib.hid K2
  replace kg := Lib.hid kg
  replace kb2 := Lib.hid kb2
  clear hB1 hown1 hrest o2
  by_cases c0 : op = []
  · have c0' : op.length = 0 := by rw [c0]; rfl
    replace c0 := Lib.hid c0
    go_wp2_with fail
    refine ((fx_any 8 (.inl rfl) v l A r op w0 _ hS'.out h.out hl g3 R2.out : Calls Try.prog 56 #[.pointer (some ⟨r, 0, none⟩), .bool true] _ _)).mono ?_
    rintro e w2 ⟨⟨e0, rfl, R3⟩ | ⟨e0, rfl, R3⟩, K3⟩
    · have hv : vE l A 1 = 0 := by simp [vE, e0]
      have hN : nextF l k op = .ok (A + 8, op, some ⟨D, 1, valF l A 8, ⟨#[]⟩⟩) := by unfold nextF; rw [if_neg (by simp [h0.out]), ← hT.out, ← hD.out, if_neg (by have := hD1.out; omega), if_neg (by have := hM.out; omega), if_neg (by have := hM.out; omega), ← hA.out, hM.out, if_neg (by simp [hv]), if_neg (by simp [c0.out])]; simp [vA, vF]
      replace hv := Lib.hid hv
      replace hN := Lib.hid hN
      replace e0 := Lib.hid e0
      have kg3 := K3 _ _ _ (by decide) (by decide) kg.out
      have kb3 := K3 _ _ _ (by decide) (by decide) kb2.out
      obtain ⟨q0, q1, q2, q3⟩ := blk4 (f := ⟨D, 1, 0, ⟨#[]⟩⟩) kg3
      obtain ⟨x0, x1, x2, x3⟩ := blk4 (f := ⟨0, 0, 0, ⟨#[]⟩⟩) kb3
      have p2 := kg3.fz 2
      have p3 := kg3.fz 3
      have f0 := kb3.fz 0
      have f1 := kb3.fz 1
      have f2 := kb3.fz 2
      have f3 := kb3.fz 3
      have hn1 : ¬ w1.heap.size = w.heap.size := by omega
      have hn2 : ¬ w.heap.size = w1.heap.size := by omega
      replace R3 := Lib.hid R3
      replace K3 := Lib.hid K3
      replace kg3 := Lib.hid kg3
      replace kb3 := Lib.hid kb3
      go_wp2_with fail
      have kb4 := kb3.out.far (p := ⟨w1.heap.size, 2, none⟩) hn2 (.int .u64 (valF l A 8 : Nat))
      have K4 := ((K2.out.trans K3.out).far (p := ⟨w1.heap.size, 2, none⟩) (by simp only; omega) (.int .u64 (valF l A 8 : Nat))).far4 (g := w.heap.size) (Nat.le_refl _)
      refine ret24 (f := ⟨D, 1, valF l A 8, ⟨#[]⟩⟩) rfl rfl rfl rfl kb4.set4 ?_
      exact ⟨K4 _ _ _ _, .inr (.inr ⟨_, _, ⟨D, 1, valF l A 8, ⟨#[]⟩⟩, hN.out, by first | rfl | (simp [Fd.cells]), ((R3.out.far kg3.out (by omega) 2 (.int .u64 (valF l A 8 : Nat))).far4 kb4 zr _ _ _ _)⟩)⟩
    · have hv : vE l A 1 = 2 := by simp [vE, e0]
      have hE0 : 2 ≠ 0 := by decide
      have hN : nextF l k op = .error (2) := by unfold nextF; rw [if_neg (by simp [h0.out]), ← hT.out, ← hD.out, if_neg (by have := hD1.out; omega), if_neg (by have := hM.out; omega), if_neg (by have := hM.out; omega), ← hA.out, hM.out, if_pos (by rw [hv]; exact hE0), hv]
      replace hv := Lib.hid hv
      replace hN := Lib.hid hN
      replace hE0 := Lib.hid hE0
      replace e0 := Lib.hid e0
      have kg3 := K3 _ _ _ (by decide) (by decide) kg.out
      have kb3 := K3 _ _ _ (by decide) (by decide) kb2.out
      obtain ⟨q0, q1, q2, q3⟩ := blk4 (f := ⟨D, 1, 0, ⟨#[]⟩⟩) kg3
      obtain ⟨x0, x1, x2, x3⟩ := blk4 (f := ⟨0, 0, 0, ⟨#[]⟩⟩) kb3
      have p2 := kg3.fz 2
      have p3 := kg3.fz 3
      have f0 := kb3.fz 0
      have f1 := kb3.fz 1
      have f2 := kb3.fz 2
      have f3 := kb3.fz 3
      have hn1 : ¬ w1.heap.size = w.heap.size := by omega
      have hn2 : ¬ w.heap.size = w1.heap.size := by omega
      replace R3 := Lib.hid R3
      replace K3 := Lib.hid K3
      replace kg3 := Lib.hid kg3
      replace kb3 := Lib.hid kb3
      go_wp2_with fail
      have kb4 := kb3.out.far (p := ⟨w1.heap.size, 2, none⟩) hn2 (.int .u64 0)
      have K4 := ((K2.out.trans K3.out).far (p := ⟨w1.heap.size, 2, none⟩) (by simp only; omega) (.int .u64 0)).far4 (g := w.heap.size) (Nat.le_refl _)
      refine ret24 (f := ⟨D, 1, 0, ⟨#[]⟩⟩) rfl rfl rfl rfl kb4.set4 ?_
      exact ⟨K4 _ _ _ _, .inl ⟨_, ⟨D, 1, 0, ⟨#[]⟩⟩, true, hN.out, by first | rfl | (simp [Fd.cells]), ((R3.out.far kg3.out (by omega) 2 (.int .u64 0)).far4 kb4 zr _ _ _ _).below⟩⟩
  · have c0' : ((op.length : Int) == 0) = false := by rw [beq_eq_false_iff_ne]; have := List.length_pos_iff.2 c0; omega
    replace c0 := Lib.hid c0
    go_wp2_with fail
    refine ((fx_any 8 (.inl rfl) v l A r op w0 _ hS'.out h.out hl g3 R2.out : Calls Try.prog 56 #[.pointer (some ⟨r, 0, none⟩), .bool true] _ _)).mono ?_
    rintro e w2 ⟨⟨e0, rfl, R3⟩ | ⟨e0, rfl, R3⟩, K3⟩
    · have hv : vE l A 1 = 0 := by simp [vE, e0]
      have hN : nextF l k op = .ok (A + 8, op, none) := by unfold nextF; rw [if_neg (by simp [h0.out]), ← hT.out, ← hD.out, if_neg (by have := hD1.out; omega), if_neg (by have := hM.out; omega), if_neg (by have := hM.out; omega), ← hA.out, hM.out, if_neg (by simp [hv]), if_pos (by simpa using c0.out)]; simp [vA]
      replace hv := Lib.hid hv
      replace hN := Lib.hid hN
      replace e0 := Lib.hid e0
      have kg3 := K3 _ _ _ (by decide) (by decide) kg.out
      have kb3 := K3 _ _ _ (by decide) (by decide) kb2.out
      obtain ⟨q0, q1, q2, q3⟩ := blk4 (f := ⟨D, 1, 0, ⟨#[]⟩⟩) kg3
      obtain ⟨x0, x1, x2, x3⟩ := blk4 (f := ⟨0, 0, 0, ⟨#[]⟩⟩) kb3
      have p2 := kg3.fz 2
      have p3 := kg3.fz 3
      have f0 := kb3.fz 0
      have f1 := kb3.fz 1
      have f2 := kb3.fz 2
      have f3 := kb3.fz 3
      have hn1 : ¬ w1.heap.size = w.heap.size := by omega
      have hn2 : ¬ w.heap.size = w1.heap.size := by omega
      replace R3 := Lib.hid R3
      replace K3 := Lib.hid K3
      replace kg3 := Lib.hid kg3
      replace kb3 := Lib.hid kb3
      go_wp2_with fail
      have kb4 := kb3.out.far (p := ⟨w1.heap.size, 2, none⟩) hn2 (.int .u64 (valF l A 8 : Nat))
      have K4 := ((K2.out.trans K3.out).far (p := ⟨w1.heap.size, 2, none⟩) (by simp only; omega) (.int .u64 (valF l A 8 : Nat))).far4 (g := w.heap.size) (Nat.le_refl _)
      refine ret24 (f := ⟨D, 1, valF l A 8, ⟨#[]⟩⟩) rfl rfl rfl rfl kb4.set4 ?_
      exact ⟨K4 _ _ _ _, .inr (.inl ⟨_, _, ⟨D, 1, valF l A 8, ⟨#[]⟩⟩, hN.out, by first | rfl | (simp [Fd.cells]), ((R3.out.far kg3.out (by omega) 2 (.int .u64 (valF l A 8 : Nat))).far4 kb4 zr _ _ _ _)⟩)⟩
    · have hv : vE l A 1 = 2 := by simp [vE, e0]
      have hE0 : 2 ≠ 0 := by decide
      have hN : nextF l k op = .error (2) := by unfold nextF; rw [if_neg (by simp [h0.out]), ← hT.out, ← hD.out, if_neg (by have := hD1.out; omega), if_neg (by have := hM.out; omega), if_neg (by have := hM.out; omega), ← hA.out, hM.out, if_pos (by rw [hv]; exact hE0), hv]
      replace hv := Lib.hid hv
      replace hN := Lib.hid hN
      replace hE0 := Lib.hid hE0
      replace e0 := Lib.hid e0
      have kg3 := K3 _ _ _ (by decide) (by decide) kg.out
      have kb3 := K3 _ _ _ (by decide) (by decide) kb2.out
      obtain ⟨q0, q1, q2, q3⟩ := blk4 (f := ⟨D, 1, 0, ⟨#[]⟩⟩) kg3
      obtain ⟨x0, x1, x2, x3⟩ := blk4 (f := ⟨0, 0, 0, ⟨#[]⟩⟩) kb3
      have p2 := kg3.fz 2
      have p3 := kg3.fz 3
      have f0 := kb3.fz 0
      have f1 := kb3.fz 1
      have f2 := kb3.fz 2
      have f3 := kb3.fz 3
      have hn1 : ¬ w1.heap.size = w.heap.size := by omega
      have hn2 : ¬ w.heap.size = w1.heap.size := by omega
      replace R3 := Lib.hid R3
      replace K3 := Lib.hid K3
      replace kg3 := Lib.hid kg3
      replace kb3 := Lib.hid kb3
      go_wp2_with fail
      have kb4 := kb3.out.far (p := ⟨w1.heap.size, 2, none⟩) hn2 (.int .u64 0)
      have K4 := ((K2.out.trans K3.out).far (p := ⟨w1.heap.size, 2, none⟩) (by simp only; omega) (.int .u64 0)).far4 (g := w.heap.size) (Nat.le_refl _)
      refine ret24 (f := ⟨D, 1, 0, ⟨#[]⟩⟩) rfl rfl rfl rfl kb4.set4 ?_
      exact ⟨K4 _ _ _ _, .inl ⟨_, ⟨D, 1, 0, ⟨#[]⟩⟩, false, hN.out, by first | rfl | (simp [Fd.cells]), ((R3.out.far kg3.out (by omega) 2 (.int .u64 0)).far4 kb4 zr _ _ _ _).below⟩⟩
set_option maxHeartbeats 2000000 in
set_option maxRecDepth 100000 in
theorem next_5 (v : Value) (l : List Nat) (k r : Nat) (op : List Nat) (w0 w : World) (hS : Src w0 v l) (h : ∀ x ∈ l, x < 256) (hl : l.length ≤ 140737488355328) (hk : k ≤ l.length) (hop8 : op.length ≤ 8) (hR : RS w0 w r v k op)
    (h0 : gE l k = 0) (hD1 : ¬ (gN l k / 8 < 1 ∨ 536870912 ≤ gN l k / 8)) (hM : gN l k % 8 = 5) :
    Calls Try.prog 39 #[.pointer (some ⟨r, 0, none⟩)] w (NextPost l w0 r v k op w) := by
  obtain ⟨T, hT0⟩ : ∃ x, x = gN l k := ⟨_, rfl⟩
  have hT := hT0
  have N : Calls Try.prog 52 #[.pointer (some ⟨r, 0, none⟩)] (w.alloc (.cells #[.int .i64 0, .int .i64 0, .int .u64 0, .string ⟨#[]⟩] 41)) fun e w' => e = .returned (.tuple #[.int .u64 (gN l k : Nat), .int .i64 0]) ∧ RS w0 w' r v (gAt l k) op ∧ KeepT (w.alloc (.cells #[.int .i64 0, .int .i64 0, .int .u64 0, .string ⟨#[]⟩] 41)) w' := by
    refine (num_any v l k r op w0 (w.alloc (.cells #[.int .i64 0, .int .i64 0, .int .u64 0, .string ⟨#[]⟩] 41)) hS h hl hk (hR.ext (ext_alloc _ _))).mono ?_
    rintro e w1 ⟨⟨-, rfl, R1⟩ | ⟨h1, rfl, R1⟩, K1⟩
    · exact ⟨rfl, R1, K1⟩
    · exact absurd h0 h1
  rw [← hT0] at N
  replace N := Lib.hid N
  have K0 := Lib.hid (KeepT.ext (ext_alloc w (.cells #[.int .i64 0, .int .i64 0, .int .u64 0, .string ⟨#[]⟩] 41)))
  have hk0 := Lib.hid (Blk.new w 41 #[.int .i64 0, .int .i64 0, .int .u64 0, .string ⟨#[]⟩])
  have hgs := g_spec l k h hk
  obtain ⟨D, hD⟩ : ∃ x, x = T / 8 := ⟨_, rfl⟩
  obtain ⟨A, hA⟩ : ∃ x, x = gAt l k := ⟨_, rfl⟩
  rw [h0, ← hT, ← hA] at hgs
  rw [← hT] at hM hD1
  obtain ⟨-, g1, g2, g3⟩ : 0 = 0 ∧ T ≤ 18446744073709551615 ∧ k < A ∧ A ≤ l.length := by omega
  have kM : bits .and .u64 (T : Int) 7 = 5 := by
    rw [show (7 : Int) = ((7 : Nat) : Int) from rfl, u64_and_nat T 7 (by omega) (by omega), nat_mask3, hM]
    try rfl
  have qD : (T : Int) / 8 = (D : Nat) := by omega
  have d1 : (1 : Int) ≤ D := by omega
  have d2 : (D : Int) ≤ 536870911 := by omega
  have d2n : D ≤ 536870911 := by omega
  have g1' : (T : Int) ≤ 18446744073709551615 := by omega
  have zr : w0.heap.size ≤ w.heap.size := hR.below.size
  obtain ⟨v', hv'⟩ : ∃ x, x = v := ⟨_, rfl⟩
  replace h0 := Lib.hid h0
  replace hT := Lib.hid hT
  replace hD := Lib.hid hD
  replace hA := Lib.hid hA
  replace hM := Lib.hid hM
  replace hD1 := Lib.hid hD1
  replace hR := Lib.hid hR
  have hS' := Lib.hid hS
  replace h := Lib.hid h
  clear hgs hS g1 hT0
  go_enter Try.func39, Try.ntmps39
  go_wp2_with fail
  refine (N.out).mono ?_
  rintro e w1 ⟨rfl, R1, K1⟩
  rw [← hA.out] at R1
  clear N
  have kb := K1 _ _ _ (by decide) (by decide) hk0.out
  have hlt := kb.lt
  obtain ⟨ov, hB1, hown1, hrest⟩ := id R1
  obtain ⟨ap, cp, rfl⟩ := own_slice hown1
  have o2 : w1.cell? ⟨r, 2, none⟩ = some (.slice ap op.length cp) := hB1.cell 2
  have kg := Blk.new w1 41 #[.int .i64 (D : Nat), .int .i64 5, .int .u64 0, .string ⟨#[]⟩]
  have R2 := R1.ext (ext_alloc w1 (.cells #[.int .i64 (D : Nat), .int .i64 5, .int .u64 0, .string ⟨#[]⟩] 41))
  have kb2 := kb.alloc (.cells #[.int .i64 (D : Nat), .int .i64 5, .int .u64 0, .string ⟨#[]⟩] 41)
  have K2 := (K0.out.trans K1).trans (KeepT.ext (ext_alloc w1 (.cells #[.int .i64 (D : Nat), .int .i64 5, .int .u64 0, .string ⟨#[]⟩] 41)))
  have o3 : (w1.alloc (.cells #[.int .i64 (D : Nat), .int .i64 5, .int .u64 0, .string ⟨#[]⟩] 41)).cell? ⟨r, 2, none⟩ = some (.slice ap op.length cp) := (hB1.alloc _).cell 2
  replace R1 := Lib.hid R1
  replace K1 := Lib.hid K1
  replace kb := Lib.hid kb
  replace R2 := Lib.hid R2
  replace K2 := Lib.hid K2
  replace kg := Lib.hid kg
  replace kb2 := Lib.hid kb2
  clear hB1 hown1 hrest o2
  by_cases c0 : op = []
  · have c0' : op.length = 0 := by rw [c0]; rfl
    replace c0 := Lib.hid c0
    go_wp2_with fail
    refine ((fx_any 4 (.inr rfl) v l A r op w0 _ hS'.out h.out hl g3 R2.out : Calls Try.prog 56 #[.pointer (some ⟨r, 0, none⟩), .bool false] _ _)).mono ?_
    rintro e w2 ⟨⟨e0, rfl, R3⟩ | ⟨e0, rfl, R3⟩, K3⟩
    · have hv : vE l A 5 = 0 := by simp [vE, e0]
      have hN : nextF l k op = .ok (A + 4, op, some ⟨D, 5, valF l A 4, ⟨#[]⟩⟩) := by unfold nextF; rw [if_neg (by simp [h0.out]), ← hT.out, ← hD.out, if_neg (by have := hD1.out; omega), if_neg (by have := hM.out; omega), if_neg (by have := hM.out; omega), ← hA.out, hM.out, if_neg (by simp [hv]), if_neg (by simp [c0.out])]; simp [vA, vF]
      replace hv := Lib.hid hv
      replace hN := Lib.hid hN
      replace e0 := Lib.hid e0
      have kg3 := K3 _ _ _ (by decide) (by decide) kg.out
      have kb3 := K3 _ _ _ (by decide) (by decide) kb2.out
      obtain ⟨q0, q1, q2, q3⟩ := blk4 (f := ⟨D, 5, 0, ⟨#[]⟩⟩) kg3
      obtain ⟨x0, x1, x2, x3⟩ := blk4 (f := ⟨0, 0, 0, ⟨#[]⟩⟩) kb3
      have p2 := kg3.fz 2
      have p3 := kg3.fz 3
      have f0 := kb3.fz 0
      have f1 := kb3.fz 1
      have f2 := kb3.fz 2
      have f3 := kb3.fz 3
      have hn1 : ¬ w1.heap.size = w.heap.size := by omega
      have hn2 : ¬ w.heap.size = w1.heap.size := by omega
      replace R3 := Lib.hid R3
      replace K3 := Lib.hid K3
      replace kg3 := Lib.hid kg3
      replace kb3 := Lib.hid kb3
      go_wp2_with fail
      have kb4 := kb3.out.far (p := ⟨w1.heap.size, 2, none⟩) hn2 (.int .u64 (valF l A 4 : Nat))
      have K4 := ((K2.out.trans K3.out).far (p := ⟨w1.heap.size, 2, none⟩) (by simp only; omega) (.int .u64 (valF l A 4 : Nat))).far4 (g := w.heap.size) (Nat.le_refl _)
      refine ret24 (f := ⟨D, 5, valF l A 4, ⟨#[]⟩⟩) rfl rfl rfl rfl kb4.set4 ?_
      exact ⟨K4 _ _ _ _, .inr (.inr ⟨_, _, ⟨D, 5, valF l A 4, ⟨#[]⟩⟩, hN.out, by first | rfl | (simp [Fd.cells]), ((R3.out.far kg3.out (by omega) 2 (.int .u64 (valF l A 4 : Nat))).far4 kb4 zr _ _ _ _)⟩)⟩
    · have hv : vE l A 5 = 2 := by simp [vE, e0]
      have hE0 : 2 ≠ 0 := by decide
      have hN : nextF l k op = .error (2) := by unfold nextF; rw [if_neg (by simp [h0.out]), ← hT.out, ← hD.out, if_neg (by have := hD1.out; omega), if_neg (by have := hM.out; omega), if_neg (by have := hM.out; omega), ← hA.out, hM.out, if_pos (by rw [hv]; exact hE0), hv]
      replace hv := Lib.hid hv
      replace hN := Lib.hid hN
      replace hE0 := Lib.hid hE0
      replace e0 := Lib.hid e0
      have kg3 := K3 _ _ _ (by decide) (by decide) kg.out
      have kb3 := K3 _ _ _ (by decide) (by decide) kb2.out
      obtain ⟨q0, q1, q2, q3⟩ := blk4 (f := ⟨D, 5, 0, ⟨#[]⟩⟩) kg3
      obtain ⟨x0, x1, x2, x3⟩ := blk4 (f := ⟨0, 0, 0, ⟨#[]⟩⟩) kb3
      have p2 := kg3.fz 2
      have p3 := kg3.fz 3
      have f0 := kb3.fz 0
      have f1 := kb3.fz 1
      have f2 := kb3.fz 2
      have f3 := kb3.fz 3
      have hn1 : ¬ w1.heap.size = w.heap.size := by omega
      have hn2 : ¬ w.heap.size = w1.heap.size := by omega
      replace R3 := Lib.hid R3
      replace K3 := Lib.hid K3
      replace kg3 := Lib.hid kg3
      replace kb3 := Lib.hid kb3
      go_wp2_with fail
      have kb4 := kb3.out.far (p := ⟨w1.heap.size, 2, none⟩) hn2 (.int .u64 0)
      have K4 := ((K2.out.trans K3.out).far (p := ⟨w1.heap.size, 2, none⟩) (by simp only; omega) (.int .u64 0)).far4 (g := w.heap.size) (Nat.le_refl _)
      refine ret24 (f := ⟨D, 5, 0, ⟨#[]⟩⟩) rfl rfl rfl rfl kb4.set4 ?_
      exact ⟨K4 _ _ _ _, .inl ⟨_, ⟨D, 5, 0, ⟨#[]⟩⟩, true, hN.out, by first | rfl | (simp [Fd.cells]), ((R3.out.far kg3.out (by omega) 2 (.int .u64 0)).far4 kb4 zr _ _ _ _).below⟩⟩
  · have c0' : ((op.length : Int) == 0) = false := by rw [beq_eq_false_iff_ne]; have := List.length_pos_iff.2 c0; omega
    replace c0 := Lib.hid c0
    go_wp2_with fail
    refine ((fx_any 4 (.inr rfl) v l A r op w0 _ hS'.out h.out hl g3 R2.out : Calls Try.prog 56 #[.pointer (some ⟨r, 0, none⟩), .bool false] _ _)).mono ?_
    rintro e w2 ⟨⟨e0, rfl, R3⟩ | ⟨e0, rfl, R3⟩, K3⟩
    · have hv : vE l A 5 = 0 := by simp [vE, e0]
      have hN : nextF l k op = .ok (A + 4, op, none) := by unfold nextF; rw [if_neg (by simp [h0.out]), ← hT.out, ← hD.out, if_neg (by have := hD1.out; omega), if_neg (by have := hM.out; omega), if_neg (by have := hM.out; omega), ← hA.out, hM.out, if_neg (by simp [hv]), if_pos (by simpa using c0.out)]; simp [vA]
      replace hv := Lib.hid hv
      replace hN := Lib.hid hN
      replace e0 := Lib.hid e0
      have kg3 := K3 _ _ _ (by decide) (by decide) kg.out
      have kb3 := K3 _ _ _ (by decide) (by decide) kb2.out
      obtain ⟨q0, q1, q2, q3⟩ := blk4 (f := ⟨D, 5, 0, ⟨#[]⟩⟩) kg3
      obtain ⟨x0, x1, x2, x3⟩ := blk4 (f := ⟨0, 0, 0, ⟨#[]⟩⟩) kb3
      have p2 := kg3.fz 2
      have p3 := kg3.fz 3
      have f0 := kb3.fz 0
      have f1 := kb3.fz 1
      have f2 := kb3.fz 2
      have f3 := kb3.fz 3
      have hn1 : ¬ w1.heap.size = w.heap.size := by omega
      have hn2 : ¬ w.heap.size = w1.heap.size := by omega
      replace R3 := Lib.hid R3
      replace K3 := Lib.hid K3
      replace kg3 := Lib.hid kg3
      replace kb3 := Lib.hid kb3
      go_wp2_with fail
      have kb4 := kb3.out.far (p := ⟨w1.heap.size, 2, none⟩) hn2 (.int .u64 (valF l A 4 : Nat))
      have K4 := ((K2.out.trans K3.out).far (p := ⟨w1.heap.size, 2, none⟩) (by simp only; omega) (.int .u64 (valF l A 4 : Nat))).far4 (g := w.heap.size) (Nat.le_refl _)
      refine ret24 (f := ⟨D, 5, valF l A 4, ⟨#[]⟩⟩) rfl rfl rfl rfl kb4.set4 ?_
      exact ⟨K4 _ _ _ _, .inr (.inl ⟨_, _, ⟨D, 5, valF l A 4, ⟨#[]⟩⟩, hN.out, by first | rfl | (simp [Fd.cells]), ((R3.out.far kg3.out (by omega) 2 (.int .u64 (valF l A 4 : Nat))).far4 kb4 zr _ _ _ _)⟩)⟩
    · have hv : vE l A 5 = 2 := by simp [vE, e0]
      have hE0 : 2 ≠ 0 := by decide
      have hN : nextF l k op = .error (2) := by unfold nextF; rw [if_neg (by simp [h0.out]), ← hT.out, ← hD.out, if_neg (by have := hD1.out; omega), if_neg (by have := hM.out; omega), if_neg (by have := hM.out; omega), ← hA.out, hM.out, if_pos (by rw [hv]; exact hE0), hv]
      replace hv := Lib.hid hv
      replace hN := Lib.hid hN
      replace hE0 := Lib.hid hE0
      replace e0 := Lib.hid e0
      have kg3 := K3 _ _ _ (by decide) (by decide) kg.out
      have kb3 := K3 _ _ _ (by decide) (by decide) kb2.out
      obtain ⟨q0, q1, q2, q3⟩ := blk4 (f := ⟨D, 5, 0, ⟨#[]⟩⟩) kg3
      obtain ⟨x0, x1, x2, x3⟩ := blk4 (f := ⟨0, 0, 0, ⟨#[]⟩⟩) kb3
      have p2 := kg3.fz 2
      have p3 := kg3.fz 3
      have f0 := kb3.fz 0
      have f1 := kb3.fz 1
      have f2 := kb3.fz 2
      have f3 := kb3.fz 3
      have hn1 : ¬ w1.heap.size = w.heap.size := by omega
      have hn2 : ¬ w.heap.size = w1.heap.size := by omega
      replace R3 := Lib.hid R3
      replace K3 := Lib.hid K3
      replace kg3 := Lib.hid kg3
      replace kb3 := Lib.hid kb3
      go_wp2_with fail
      have kb4 := kb3.out.far (p := ⟨w1.heap.size, 2, none⟩) hn2 (.int .u64 0)
      have K4 := ((K2.out.trans K3.out).far (p := ⟨w1.heap.size, 2, none⟩) (by simp only; omega) (.int .u64 0)).far4 (g := w.heap.size) (Nat.le_refl _)
      refine ret24 (f := ⟨D, 5, 0, ⟨#[]⟩⟩) rfl rfl rfl rfl kb4.set4 ?_
      exact ⟨K4 _ _ _ _, .inl ⟨_, ⟨D, 5, 0, ⟨#[]⟩⟩, false, hN.out, by first | rfl | (simp [Fd.cells]), ((R3.out.far kg3.out (by omega) 2 (.int .u64 0)).far4 kb4 zr _ _ _ _).below⟩⟩
set_option maxHeartbeats 2000000 in
set_option maxRecDepth 100000 in
theorem next_3 (v : Value) (l : List Nat) (k r : Nat) (op : List Nat) (w0 w : World) (hS : Src w0 v l) (h : ∀ x ∈ l, x < 256) (hl : l.length ≤ 140737488355328) (hk : k ≤ l.length) (hop8 : op.length ≤ 8) (hR : RS w0 w r v k op)
    (h0 : gE l k = 0) (hD1 : ¬ (gN l k / 8 < 1 ∨ 536870912 ≤ gN l k / 8)) (hM : gN l k % 8 = 3) :
    Calls Try.prog 39 #[.pointer (some ⟨r, 0, none⟩)] w (NextPost l w0 r v k op w) := by
  obtain ⟨T, hT0⟩ : ∃ x, x = gN l k := ⟨_, rfl⟩
  have hT := hT0
  have N : Calls Try.prog 52 #[.pointer (some ⟨r, 0, none⟩)] (w.alloc (.cells #[.int .i64 0, .int .i64 0, .int .u64 0, .string ⟨#[]⟩] 41)) fun e w' => e = .returned (.tuple #[.int .u64 (gN l k : Nat), .int .i64 0]) ∧ RS w0 w' r v (gAt l k) op ∧ KeepT (w.alloc (.cells #[.int .i64 0, .int .i64 0, .int .u64 0, .string ⟨#[]⟩] 41)) w' := by
    refine (num_any v l k r op w0 (w.alloc (.cells #[.int .i64 0, .int .i64 0, .int .u64 0, .string ⟨#[]⟩] 41)) hS h hl hk (hR.ext (ext_alloc _ _))).mono ?_
    rintro e w1 ⟨⟨-, rfl, R1⟩ | ⟨h1, rfl, R1⟩, K1⟩
    · exact ⟨rfl, R1, K1⟩
    · exact absurd h0 h1
  rw [← hT0] at N
  replace N := Lib.hid N
  have K0 := Lib.hid (KeepT.ext (ext_alloc w (.cells #[.int .i64 0, .int .i64 0, .int .u64 0, .string ⟨#[]⟩] 41)))
  have hk0 := Lib.hid (Blk.new w 41 #[.int .i64 0, .int .i64 0, .int .u64 0, .string ⟨#[]⟩])
  have hgs := g_spec l k h hk
  obtain ⟨D, hD⟩ : ∃ x, x = T / 8 := ⟨_, rfl⟩
  obtain ⟨A, hA⟩ : ∃ x, x = gAt l k := ⟨_, rfl⟩
  rw [h0, ← hT, ← hA] at hgs
  rw [← hT] at hM hD1
  obtain ⟨-, g1, g2, g3⟩ : 0 = 0 ∧ T ≤ 18446744073709551615 ∧ k < A ∧ A ≤ l.length := by omega
  have kM : bits .and .u64 (T : Int) 7 = 3 := by
    rw [show (7 : Int) = ((7 : Nat) : Int) from rfl, u64_and_nat T 7 (by omega) (by omega), nat_mask3, hM]
    try rfl
  have qD : (T : Int) / 8 = (D : Nat) := by omega
  have d1 : (1 : Int) ≤ D := by omega
  have d2 : (D : Int) ≤ 536870911 := by omega
  have d2n : D ≤ 536870911 := by omega
  have g1' : (T : Int) ≤ 18446744073709551615 := by omega
  have zr : w0.heap.size ≤ w.heap.size := hR.below.size
  obtain ⟨v', hv'⟩ : ∃ x, x = v := ⟨_, rfl⟩
  replace h0 := Lib.hid h0
  replace hT := Lib.hid hT
  replace hD := Lib.hid hD
  replace hA := Lib.hid hA
  replace hM := Lib.hid hM
  replace hD1 := Lib.hid hD1
  replace hR := Lib.hid hR
  have hS' := Lib.hid hS
  replace h := Lib.hid h
  clear hgs hS g1 hT0
  go_enter Try.func39, Try.ntmps39
  go_wp2_with fail
  refine (N.out).mono ?_
  rintro e w1 ⟨rfl, R1, K1⟩
  rw [← hA.out] at R1
  clear N
  have kb := K1 _ _ _ (by decide) (by decide) hk0.out
  have hlt := kb.lt
  obtain ⟨ov, hB1, hown1, hrest⟩ := id R1
  obtain ⟨ap, cp, rfl⟩ := own_slice hown1
  have o2 : w1.cell? ⟨r, 2, none⟩ = some (.slice ap op.length cp) := hB1.cell 2
  have kg := Blk.new w1 41 #[.int .i64 (D : Nat), .int .i64 3, .int .u64 0, .string ⟨#[]⟩]
  have R2 := R1.ext (ext_alloc w1 (.cells #[.int .i64 (D : Nat), .int .i64 3, .int .u64 0, .string ⟨#[]⟩] 41))
  have kb2 := kb.alloc (.cells #[.int .i64 (D : Nat), .int .i64 3, .int .u64 0, .string ⟨#[]⟩] 41)
  have K2 := (K0.out.trans K1).trans (KeepT.ext (ext_alloc w1 (.cells #[.int .i64 (D : Nat), .int .i64 3, .int .u64 0, .string ⟨#[]⟩] 41)))
  have o3 : (w1.alloc (.cells #[.int .i64 (D : Nat), .int .i64 3, .int .u64 0, .string ⟨#[]⟩] 41)).cell? ⟨r, 2, none⟩ = some (.slice ap op.length cp) := (hB1.alloc _).cell 2
  replace R1 := Lib.hid R1
  replace K1 := Lib.hid K1
  replace kb := Lib.hid kb
  replace R2 := Lib.hid R2
  replace K2 := Lib.hid K2
  replace kg := Lib.hid kg
  replace kb2 := Lib.hid kb2
  clear hB1 hown1 hrest o2
  go_wp2_with fail
  refine (begin_any v A r D op w0 _ hop8 d2n R2.out).mono ?_
  rintro e w2 ⟨⟨e8, rfl, R3⟩ | ⟨e8, rfl, R3⟩, K3⟩
  · replace e8 := Lib.hid e8
    have hN : nextF l k op = .error 12 := by unfold nextF; rw [if_neg (by simp [h0.out]), ← hT.out, ← hD.out, if_neg (by have := hD1.out; omega), if_pos hM.out, if_pos (by have := e8.out; omega)]
    replace hN := Lib.hid hN
    have kg3 := K3 _ _ _ (by decide) (by decide) kg.out
    have kb3 := K3 _ _ _ (by decide) (by decide) kb2.out
    obtain ⟨q0, q1, q2, q3⟩ := blk4 (f := ⟨D, 3, 0, ⟨#[]⟩⟩) kg3
    obtain ⟨x0, x1, x2, x3⟩ := blk4 (f := ⟨0, 0, 0, ⟨#[]⟩⟩) kb3
    have p2 := kg3.fz 2
    have p3 := kg3.fz 3
    have f0 := kb3.fz 0
    have f1 := kb3.fz 1
    have f2 := kb3.fz 2
    have f3 := kb3.fz 3
    have hn1 : ¬ w1.heap.size = w.heap.size := by omega
    have hn2 : ¬ w.heap.size = w1.heap.size := by omega
    replace R3 := Lib.hid R3
    replace K3 := Lib.hid K3
    replace kg3 := Lib.hid kg3
    replace kb3 := Lib.hid kb3
    go_wp2_with fail
    have kb4 := kb3.out
    have K4 := (K2.out.trans K3.out).far4 (g := w.heap.size) (Nat.le_refl _)
    refine ret24 (f := ⟨0, 0, 0, ⟨#[]⟩⟩) rfl rfl rfl rfl kb4.set4 ?_
    exact ⟨K4 _ _ _ _, .inl ⟨_, ⟨0, 0, 0, ⟨#[]⟩⟩, false, hN.out, by first | rfl | (simp [Fd.cells]), (R3.out.far4 kb4 zr _ _ _ _).below⟩⟩
  · replace e8 := Lib.hid e8
    have hN : nextF l k op = .ok (A, op ++ [D], none) := by unfold nextF; rw [if_neg (by simp [h0.out]), ← hT.out, ← hD.out, if_neg (by have := hD1.out; omega), if_pos hM.out, if_neg (by have := e8.out; omega), ← hA.out]
    replace hN := Lib.hid hN
    have kg3 := K3 _ _ _ (by decide) (by decide) kg.out
    have kb3 := K3 _ _ _ (by decide) (by decide) kb2.out
    obtain ⟨q0, q1, q2, q3⟩ := blk4 (f := ⟨D, 3, 0, ⟨#[]⟩⟩) kg3
    obtain ⟨x0, x1, x2, x3⟩ := blk4 (f := ⟨0, 0, 0, ⟨#[]⟩⟩) kb3
    have p2 := kg3.fz 2
    have p3 := kg3.fz 3
    have f0 := kb3.fz 0
    have f1 := kb3.fz 1
    have f2 := kb3.fz 2
    have f3 := kb3.fz 3
    have hn1 : ¬ w1.heap.size = w.heap.size := by omega
    have hn2 : ¬ w.heap.size = w1.heap.size := by omega
    replace R3 := Lib.hid R3
    replace K3 := Lib.hid K3
    replace kg3 := Lib.hid kg3
    replace kb3 := Lib.hid kb3
    go_wp2_with fail
    have kb4 := kb3.out
    have K4 := (K2.out.trans K3.out).far4 (g := w.heap.size) (Nat.le_refl _)
    refine ret24 (f := ⟨0, 0, 0, ⟨#[]⟩⟩) rfl rfl rfl rfl kb4.set4 ?_
    exact ⟨K4 _ _ _ _, .inr (.inl ⟨_, _, ⟨0, 0, 0, ⟨#[]⟩⟩, hN.out, by first | rfl | (simp [Fd.cells]), (R3.out.far4 kb4 zr _ _ _ _)⟩)⟩
set_option maxHeartbeats 2000000 in
set_option maxRecDepth 100000 in
theorem next_4 (v : Value) (l : List Nat) (k r : Nat) (op : List Nat) (w0 w : World) (hS : Src w0 v l) (h : ∀ x ∈ l, x < 256) (hl : l.length ≤ 140737488355328) (hk : k ≤ l.length) (hop8 : op.length ≤ 8) (hR : RS w0 w r v k op)
    (h0 : gE l k = 0) (hD1 : ¬ (gN l k / 8 < 1 ∨ 536870912 ≤ gN l k / 8)) (hM : gN l k % 8 = 4) :
    Calls Try.prog 39 #[.pointer (some ⟨r, 0, none⟩)] w (NextPost l w0 r v k op w) := by
  obtain ⟨T, hT0⟩ : ∃ x, x = gN l k := ⟨_, rfl⟩
  have hT := hT0
  have N : Calls Try.prog 52 #[.pointer (some ⟨r, 0, none⟩)] (w.alloc (.cells #[.int .i64 0, .int .i64 0, .int .u64 0, .string ⟨#[]⟩] 41)) fun e w' => e = .returned (.tuple #[.int .u64 (gN l k : Nat), .int .i64 0]) ∧ RS w0 w' r v (gAt l k) op ∧ KeepT (w.alloc (.cells #[.int .i64 0, .int .i64 0, .int .u64 0, .string ⟨#[]⟩] 41)) w' := by
    refine (num_any v l k r op w0 (w.alloc (.cells #[.int .i64 0, .int .i64 0, .int .u64 0, .string ⟨#[]⟩] 41)) hS h hl hk (hR.ext (ext_alloc _ _))).mono ?_
    rintro e w1 ⟨⟨-, rfl, R1⟩ | ⟨h1, rfl, R1⟩, K1⟩
    · exact ⟨rfl, R1, K1⟩
    · exact absurd h0 h1
  rw [← hT0] at N
  replace N := Lib.hid N
  have K0 := Lib.hid (KeepT.ext (ext_alloc w (.cells #[.int .i64 0, .int .i64 0, .int .u64 0, .string ⟨#[]⟩] 41)))
  have hk0 := Lib.hid (Blk.new w 41 #[.int .i64 0, .int .i64 0, .int .u64 0, .string ⟨#[]⟩])
  have hgs := g_spec l k h hk
  obtain ⟨D, hD⟩ : ∃ x, x = T / 8 := ⟨_, rfl⟩
  obtain ⟨A, hA⟩ : ∃ x, x = gAt l k := ⟨_, rfl⟩
  rw [h0, ← hT, ← hA] at hgs
  rw [← hT] at hM hD1
  obtain ⟨-, g1, g2, g3⟩ : 0 = 0 ∧ T ≤ 18446744073709551615 ∧ k < A ∧ A ≤ l.length := by omega
  have kM : bits .and .u64 (T : Int) 7 = 4 := by
    rw [show (7 : Int) = ((7 : Nat) : Int) from rfl, u64_and_nat T 7 (by omega) (by omega), nat_mask3, hM]
    try rfl
  have qD : (T : Int) / 8 = (D : Nat) := by omega
  have d1 : (1 : Int) ≤ D := by omega
  have d2 : (D : Int) ≤ 536870911 := by omega
  have d2n : D ≤ 536870911 := by omega
  have g1' : (T : Int) ≤ 18446744073709551615 := by omega
  have zr : w0.heap.size ≤ w.heap.size := hR.below.size
  obtain ⟨v', hv'⟩ : ∃ x, x = v := ⟨_, rfl⟩
  replace h0 := Lib.hid h0
  replace hT := Lib.hid hT
  replace hD := Lib.hid hD
  replace hA := Lib.hid hA
  replace hM := Lib.hid hM
  replace hD1 := Lib.hid hD1
  replace hR := Lib.hid hR
  have hS' := Lib.hid hS
  replace h := Lib.hid h
  clear hgs hS g1 hT0
  go_enter Try.func39, Try.ntmps39
  go_wp2_with fail
  refine (N.out).mono ?_
  rintro e w1 ⟨rfl, R1, K1⟩
  rw [← hA.out] at R1
  clear N
  have kb := K1 _ _ _ (by decide) (by decide) hk0.out
  have hlt := kb.lt
  obtain ⟨ov, hB1, hown1, hrest⟩ := id R1
  obtain ⟨ap, cp, rfl⟩ := own_slice hown1
  have o2 : w1.cell? ⟨r, 2, none⟩ = some (.slice ap op.length cp) := hB1.cell 2
  have kg := Blk.new w1 41 #[.int .i64 (D : Nat), .int .i64 4, .int .u64 0, .string ⟨#[]⟩]
  have R2 := R1.ext (ext_alloc w1 (.cells #[.int .i64 (D : Nat), .int .i64 4, .int .u64 0, .string ⟨#[]⟩] 41))
  have kb2 := kb.alloc (.cells #[.int .i64 (D : Nat), .int .i64 4, .int .u64 0, .string ⟨#[]⟩] 41)
  have K2 := (K0.out.trans K1).trans (KeepT.ext (ext_alloc w1 (.cells #[.int .i64 (D : Nat), .int .i64 4, .int .u64 0, .string ⟨#[]⟩] 41)))
  have o3 : (w1.alloc (.cells #[.int .i64 (D : Nat), .int .i64 4, .int .u64 0, .string ⟨#[]⟩] 41)).cell? ⟨r, 2, none⟩ = some (.slice ap op.length cp) := (hB1.alloc _).cell 2
  replace R1 := Lib.hid R1
  replace K1 := Lib.hid K1
  replace kb := Lib.hid kb
  replace R2 := Lib.hid R2
  replace K2 := Lib.hid K2
  replace kg := Lib.hid kg
  replace kb2 := Lib.hid kb2
  clear hB1 hown1 hrest o2
  go_wp2_with fail
  refine (end_any v A r D op w0 _ hop8 d2n R2.out).mono ?_
  rintro e w2 ⟨⟨e8, rfl, R3⟩ | ⟨e8, rfl, R3⟩, K3⟩
  · replace e8 := Lib.hid e8
    have hN : nextF l k op = .error 4 := by unfold nextF; rw [if_neg (by simp [h0.out]), ← hT.out, ← hD.out, if_neg (by have := hD1.out; omega), if_neg (by have := hM.out; omega), if_pos hM.out, if_pos e8.out]
    replace hN := Lib.hid hN
    have kg3 := K3 _ _ _ (by decide) (by decide) kg.out
    have kb3 := K3 _ _ _ (by decide) (by decide) kb2.out
    obtain ⟨q0, q1, q2, q3⟩ := blk4 (f := ⟨D, 4, 0, ⟨#[]⟩⟩) kg3
    obtain ⟨x0, x1, x2, x3⟩ := blk4 (f := ⟨0, 0, 0, ⟨#[]⟩⟩) kb3
    have p2 := kg3.fz 2
    have p3 := kg3.fz 3
    have f0 := kb3.fz 0
    have f1 := kb3.fz 1
    have f2 := kb3.fz 2
    have f3 := kb3.fz 3
    have hn1 : ¬ w1.heap.size = w.heap.size := by omega
    have hn2 : ¬ w.heap.size = w1.heap.size := by omega
    replace R3 := Lib.hid R3
    replace K3 := Lib.hid K3
    replace kg3 := Lib.hid kg3
    replace kb3 := Lib.hid kb3
    go_wp2_with fail
    have kb4 := kb3.out
    have K4 := (K2.out.trans K3.out).far4 (g := w.heap.size) (Nat.le_refl _)
    refine ret24 (f := ⟨0, 0, 0, ⟨#[]⟩⟩) rfl rfl rfl rfl kb4.set4 ?_
    exact ⟨K4 _ _ _ _, .inl ⟨_, ⟨0, 0, 0, ⟨#[]⟩⟩, false, hN.out, by first | rfl | (simp [Fd.cells]), (R3.out.far4 kb4 zr _ _ _ _).below⟩⟩
  · replace e8 := Lib.hid e8
    have hN : nextF l k op = .ok (A, op.dropLast, none) := by unfold nextF; rw [if_neg (by simp [h0.out]), ← hT.out, ← hD.out, if_neg (by have := hD1.out; omega), if_neg (by have := hM.out; omega), if_pos hM.out, if_neg (by simpa using e8.out), ← hA.out]
    replace hN := Lib.hid hN
    have kg3 := K3 _ _ _ (by decide) (by decide) kg.out
    have kb3 := K3 _ _ _ (by decide) (by decide) kb2.out
    obtain ⟨q0, q1, q2, q3⟩ := blk4 (f := ⟨D, 4, 0, ⟨#[]⟩⟩) kg3
    obtain ⟨x0, x1, x2, x3⟩ := blk4 (f := ⟨0, 0, 0, ⟨#[]⟩⟩) kb3
    have p2 := kg3.fz 2
    have p3 := kg3.fz 3
    have f0 := kb3.fz 0
    have f1 := kb3.fz 1
    have f2 := kb3.fz 2
    have f3 := kb3.fz 3
    have hn1 : ¬ w1.heap.size = w.heap.size := by omega
    have hn2 : ¬ w.heap.size = w1.heap.size := by omega
    replace R3 := Lib.hid R3
    replace K3 := Lib.hid K3
    replace kg3 := Lib.hid kg3
    replace kb3 := Lib.hid kb3
    go_wp2_with fail
    have kb4 := kb3.out
    have K4 := (K2.out.trans K3.out).far4 (g := w.heap.size) (Nat.le_refl _)
    refine ret24 (f := ⟨0, 0, 0, ⟨#[]⟩⟩) rfl rfl rfl rfl kb4.set4 ?_
    exact ⟨K4 _ _ _ _, .inr (.inl ⟨_, _, ⟨0, 0, 0, ⟨#[]⟩⟩, hN.out, by first | rfl | (simp [Fd.cells]), (R3.out.far4 kb4 zr _ _ _ _)⟩)⟩
set_option maxHeartbeats 2000000 in
set_option maxRecDepth 100000 in
theorem next_6 (v : Value) (l : List Nat) (k r : Nat) (op : List Nat) (w0 w : World) (hS : Src w0 v l) (h : ∀ x ∈ l, x < 256) (hl : l.length ≤ 140737488355328) (hk : k ≤ l.length) (hop8 : op.length ≤ 8) (hR : RS w0 w r v k op)
    (h0 : gE l k = 0) (hD1 : ¬ (gN l k / 8 < 1 ∨ 536870912 ≤ gN l k / 8)) (hM : gN l k % 8 = 6) :
    Calls Try.prog 39 #[.pointer (some ⟨r, 0, none⟩)] w (NextPost l w0 r v k op w) := by
  obtain ⟨T, hT0⟩ : ∃ x, x = gN l k := ⟨_, rfl⟩
  have hT := hT0
  have N : Calls Try.prog 52 #[.pointer (some ⟨r, 0, none⟩)] (w.alloc (.cells #[.int .i64 0, .int .i64 0, .int .u64 0, .string ⟨#[]⟩] 41)) fun e w' => e = .returned (.tuple #[.int .u64 (gN l k : Nat), .int .i64 0]) ∧ RS w0 w' r v (gAt l k) op ∧ KeepT (w.alloc (.cells #[.int .i64 0, .int .i64 0, .int .u64 0, .string ⟨#[]⟩] 41)) w' := by
    refine (num_any v l k r op w0 (w.alloc (.cells #[.int .i64 0, .int .i64 0, .int .u64 0, .string ⟨#[]⟩] 41)) hS h hl hk (hR.ext (ext_alloc _ _))).mono ?_
    rintro e w1 ⟨⟨-, rfl, R1⟩ | ⟨h1, rfl, R1⟩, K1⟩
    · exact ⟨rfl, R1, K1⟩
    · exact absurd h0 h1
  rw [← hT0] at N
  replace N := Lib.hid N
  have K0 := Lib.hid (KeepT.ext (ext_alloc w (.cells #[.int .i64 0, .int .i64 0, .int .u64 0, .string ⟨#[]⟩] 41)))
  have hk0 := Lib.hid (Blk.new w 41 #[.int .i64 0, .int .i64 0, .int .u64 0, .string ⟨#[]⟩])
  have hgs := g_spec l k h hk
  obtain ⟨D, hD⟩ : ∃ x, x = T / 8 := ⟨_, rfl⟩
  obtain ⟨A, hA⟩ : ∃ x, x = gAt l k := ⟨_, rfl⟩
  rw [h0, ← hT, ← hA] at hgs
  rw [← hT] at hM hD1
  obtain ⟨-, g1, g2, g3⟩ : 0 = 0 ∧ T ≤ 18446744073709551615 ∧ k < A ∧ A ≤ l.length := by omega
  have kM : bits .and .u64 (T : Int) 7 = 6 := by
    rw [show (7 : Int) = ((7 : Nat) : Int) from rfl, u64_and_nat T 7 (by omega) (by omega), nat_mask3, hM]
    try rfl
  have qD : (T : Int) / 8 = (D : Nat) := by omega
  have d1 : (1 : Int) ≤ D := by omega
  have d2 : (D : Int) ≤ 536870911 := by omega
  have d2n : D ≤ 536870911 := by omega
  have g1' : (T : Int) ≤ 18446744073709551615 := by omega
  have zr : w0.heap.size ≤ w.heap.size := hR.below.size
  obtain ⟨v', hv'⟩ : ∃ x, x = v := ⟨_, rfl⟩
  replace h0 := Lib.hid h0
  replace hT := Lib.hid hT
  replace hD := Lib.hid hD
  replace hA := Lib.hid hA
  replace hM := Lib.hid hM
  replace hD1 := Lib.hid hD1
  replace hR := Lib.hid hR
  have hS' := Lib.hid hS
  replace h := Lib.hid h
  clear hgs hS g1 hT0
  go_enter Try.func39, Try.ntmps39
  go_wp2_with fail
  refine (N.out).mono ?_
  rintro e w1 ⟨rfl, R1, K1⟩
  rw [← hA.out] at R1
  clear N
  have kb := K1 _ _ _ (by decide) (by decide) hk0.out
  have hlt := kb.lt
  obtain ⟨ov, hB1, hown1, hrest⟩ := id R1
  obtain ⟨ap, cp, rfl⟩ := own_slice hown1
  have o2 : w1.cell? ⟨r, 2, none⟩ = some (.slice ap op.length cp) := hB1.cell 2
  have kg := Blk.new w1 41 #[.int .i64 (D : Nat), .int .i64 6, .int .u64 0, .string ⟨#[]⟩]
  have R2 := R1.ext (ext_alloc w1 (.cells #[.int .i64 (D : Nat), .int .i64 6, .int .u64 0, .string ⟨#[]⟩] 41))
  have kb2 := kb.alloc (.cells #[.int .i64 (D : Nat), .int .i64 6, .int .u64 0, .string ⟨#[]⟩] 41)
  have K2 := (K0.out.trans K1).trans (KeepT.ext (ext_alloc w1 (.cells #[.int .i64 (D : Nat), .int .i64 6, .int .u64 0, .string ⟨#[]⟩] 41)))
  have o3 : (w1.alloc (.cells #[.int .i64 (D : Nat), .int .i64 6, .int .u64 0, .string ⟨#[]⟩] 41)).cell? ⟨r, 2, none⟩ = some (.slice ap op.length cp) := (hB1.alloc _).cell 2
  replace R1 := Lib.hid R1
  replace K1 := Lib.hid K1
  replace kb := Lib.hid kb
  replace R2 := Lib.hid R2
  replace K2 := Lib.hid K2
  replace kg := Lib.hid kg
  replace kb2 := Lib.hid kb2
  clear hB1 hown1 hrest o2
  have hv : vE l A 6 = 11 := by simp [vE]
  have hN : nextF l k op = .error 11 := by unfold nextF; rw [if_neg (by simp [h0.out]), ← hT.out, ← hD.out, if_neg (by have := hD1.out; omega), if_neg (by have := hM.out; omega), if_neg (by have := hM.out; omega), ← hA.out, hM.out, if_pos (by rw [hv]; decide), hv]
  replace hv := Lib.hid hv
  replace hN := Lib.hid hN
  have K3 := KeepT.refl (w1.alloc (.cells #[.int .i64 (D : Nat), .int .i64 6, .int .u64 0, .string ⟨#[]⟩] 41))
  have R3 := R2.out
  obtain ⟨y0, y1, y2, y3⟩ := blk4 (f := ⟨0, 0, 0, ⟨#[]⟩⟩) kb.out
  have z0 := kb.out.fz 0
  have z1 := kb.out.fz 1
  have z2 := kb.out.fz 2
  have z3 := kb.out.fz 3
  replace R3 := Lib.hid R3
  replace K3 := Lib.hid K3
  go_wp2_with fail
  refine ret24 (f := ⟨D, 6, 0, ⟨#[]⟩⟩) rfl rfl rfl rfl ((kb.out.set4).alloc _) ?_
  exact ⟨((K0.out.trans K1.out).far4 (g := w.heap.size) (Nat.le_refl _) _ _ _ _).trans (KeepT.ext (ext_alloc _ _)), .inl ⟨_, ⟨D, 6, 0, ⟨#[]⟩⟩, _, hN.out, rfl, ((R1.out.far4 kb.out zr _ _ _ _).ext (ext_alloc _ _)).below⟩⟩
set_option maxHeartbeats 2000000 in
set_option maxRecDepth 100000 in
theorem next_7 (v : Value) (l : List Nat) (k r : Nat) (op : List Nat) (w0 w : World) (hS : Src w0 v l) (h : ∀ x ∈ l, x < 256) (hl : l.length ≤ 140737488355328) (hk : k ≤ l.length) (hop8 : op.length ≤ 8) (hR : RS w0 w r v k op)
    (h0 : gE l k = 0) (hD1 : ¬ (gN l k / 8 < 1 ∨ 536870912 ≤ gN l k / 8)) (hM : gN l k % 8 = 7) :
    Calls Try.prog 39 #[.pointer (some ⟨r, 0, none⟩)] w (NextPost l w0 r v k op w) := by
  obtain ⟨T, hT0⟩ : ∃ x, x = gN l k := ⟨_, rfl⟩
  have hT := hT0
  have N : Calls Try.prog 52 #[.pointer (some ⟨r, 0, none⟩)] (w.alloc (.cells #[.int .i64 0, .int .i64 0, .int .u64 0, .string ⟨#[]⟩] 41)) fun e w' => e = .returned (.tuple #[.int .u64 (gN l k : Nat), .int .i64 0]) ∧ RS w0 w' r v (gAt l k) op ∧ KeepT (w.alloc (.cells #[.int .i64 0, .int .i64 0, .int .u64 0, .string ⟨#[]⟩] 41)) w' := by
    refine (num_any v l k r op w0 (w.alloc (.cells #[.int .i64 0, .int .i64 0, .int .u64 0, .string ⟨#[]⟩] 41)) hS h hl hk (hR.ext (ext_alloc _ _))).mono ?_
    rintro e w1 ⟨⟨-, rfl, R1⟩ | ⟨h1, rfl, R1⟩, K1⟩
    · exact ⟨rfl, R1, K1⟩
    · exact absurd h0 h1
  rw [← hT0] at N
  replace N := Lib.hid N
  have K0 := Lib.hid (KeepT.ext (ext_alloc w (.cells #[.int .i64 0, .int .i64 0, .int .u64 0, .string ⟨#[]⟩] 41)))
  have hk0 := Lib.hid (Blk.new w 41 #[.int .i64 0, .int .i64 0, .int .u64 0, .string ⟨#[]⟩])
  have hgs := g_spec l k h hk
  obtain ⟨D, hD⟩ : ∃ x, x = T / 8 := ⟨_, rfl⟩
  obtain ⟨A, hA⟩ : ∃ x, x = gAt l k := ⟨_, rfl⟩
  rw [h0, ← hT, ← hA] at hgs
  rw [← hT] at hM hD1
  obtain ⟨-, g1, g2, g3⟩ : 0 = 0 ∧ T ≤ 18446744073709551615 ∧ k < A ∧ A ≤ l.length := by omega
  have kM : bits .and .u64 (T : Int) 7 = 7 := by
    rw [show (7 : Int) = ((7 : Nat) : Int) from rfl, u64_and_nat T 7 (by omega) (by omega), nat_mask3, hM]
    try rfl
  have qD : (T : Int) / 8 = (D : Nat) := by omega
  have d1 : (1 : Int) ≤ D := by omega
  have d2 : (D : Int) ≤ 536870911 := by omega
  have d2n : D ≤ 536870911 := by omega
  have g1' : (T : Int) ≤ 18446744073709551615 := by omega
  have zr : w0.heap.size ≤ w.heap.size := hR.below.size
  obtain ⟨v', hv'⟩ : ∃ x, x = v := ⟨_, rfl⟩
  replace h0 := Lib.hid h0
  replace hT := Lib.hid hT
  replace hD := Lib.hid hD
  replace hA := Lib.hid hA
  replace hM := Lib.hid hM
  replace hD1 := Lib.hid hD1
  replace hR := Lib.hid hR
  have hS' := Lib.hid hS
  replace h := Lib.hid h
  clear hgs hS g1 hT0
  go_enter Try.func39, Try.ntmps39
  go_wp2_with fail
  refine (N.out).mono ?_
  rintro e w1 ⟨rfl, R1, K1⟩
  rw [← hA.out] at R1
  clear N
  have kb := K1 _ _ _ (by decide) (by decide) hk0.out
  have hlt := kb.lt
  obtain ⟨ov, hB1, hown1, hrest⟩ := id R1
  obtain ⟨ap, cp, rfl⟩ := own_slice hown1
  have o2 : w1.cell? ⟨r, 2, none⟩ = some (.slice ap op.length cp) := hB1.cell 2
  have kg := Blk.new w1 41 #[.int .i64 (D : Nat), .int .i64 7, .int .u64 0, .string ⟨#[]⟩]
  have R2 := R1.ext (ext_alloc w1 (.cells #[.int .i64 (D : Nat), .int .i64 7, .int .u64 0, .string ⟨#[]⟩] 41))
  have kb2 := kb.alloc (.cells #[.int .i64 (D : Nat), .int .i64 7, .int .u64 0, .string ⟨#[]⟩] 41)
  have K2 := (K0.out.trans K1).trans (KeepT.ext (ext_alloc w1 (.cells #[.int .i64 (D : Nat), .int .i64 7, .int .u64 0, .string ⟨#[]⟩] 41)))
  have o3 : (w1.alloc (.cells #[.int .i64 (D : Nat), .int .i64 7, .int .u64 0, .string ⟨#[]⟩] 41)).cell? ⟨r, 2, none⟩ = some (.slice ap op.length cp) := (hB1.alloc _).cell 2
  replace R1 := Lib.hid R1
  replace K1 := Lib.hid K1
  replace kb := Lib.hid kb
  replace R2 := Lib.hid R2
  replace K2 := Lib.hid K2
  replace kg := Lib.hid kg
  replace kb2 := Lib.hid kb2
  clear hB1 hown1 hrest o2
  have hv : vE l A 7 = 11 := by simp [vE]
  have hN : nextF l k op = .error 11 := by unfold nextF; rw [if_neg (by simp [h0.out]), ← hT.out, ← hD.out, if_neg (by have := hD1.out; omega), if_neg (by have := hM.out; omega), if_neg (by have := hM.out; omega), ← hA.out, hM.out, if_pos (by rw [hv]; decide), hv]
  replace hv := Lib.hid hv
  replace hN := Lib.hid hN
  have K3 := KeepT.refl (w1.alloc (.cells #[.int .i64 (D : Nat), .int .i64 7, .int .u64 0, .string ⟨#[]⟩] 41))
  have R3 := R2.out
  obtain ⟨y0, y1, y2, y3⟩ := blk4 (f := ⟨0, 0, 0, ⟨#[]⟩⟩) kb.out
  have z0 := kb.out.fz 0
  have z1 := kb.out.fz 1
  have z2 := kb.out.fz 2
  have z3 := kb.out.fz 3
  replace R3 := Lib.hid R3
  replace K3 := Lib.hid K3
  go_wp2_with fail
  refine ret24 (f := ⟨D, 7, 0, ⟨#[]⟩⟩) rfl rfl rfl rfl ((kb.out.set4).alloc _) ?_
  exact ⟨((K0.out.trans K1.out).far4 (g := w.heap.size) (Nat.le_refl _) _ _ _ _).trans (KeepT.ext (ext_alloc _ _)), .inl ⟨_, ⟨D, 7, 0, ⟨#[]⟩⟩, _, hN.out, rfl, ((R1.out.far4 kb.out zr _ _ _ _).ext (ext_alloc _ _)).below⟩⟩
theorem next_any (v : Value) (l : List Nat) (k r : Nat) (op : List Nat) (w0 w : World) (hS : Src w0 v l) (h : ∀ x ∈ l, x < 256) (hl : l.length ≤ 140737488355328) (hk : k ≤ l.length) (hop8 : op.length ≤ 8) (hR : RS w0 w r v k op) :
    Calls Try.prog 39 #[.pointer (some ⟨r, 0, none⟩)] w (NextPost l w0 r v k op w) := by
  by_cases h0 : gE l k = 0
  · by_cases hD : gN l k / 8 < 1 ∨ 536870912 ≤ gN l k / 8
    · exact next_num v l k r op w0 w hS h hl hk hR (.inr ⟨h0, hD⟩)
    · have h8 : gN l k % 8 < 8 := Nat.mod_lt _ (by decide)
      by_cases m0 : gN l k % 8 = 0
      · exact next_0 v l k r op w0 w hS h hl hk hop8 hR h0 hD m0
      by_cases m1 : gN l k % 8 = 1
      · exact next_1 v l k r op w0 w hS h hl hk hop8 hR h0 hD m1
      by_cases m2 : gN l k % 8 = 2
      · exact next_2 v l k r op w0 w hS h hl hk hop8 hR h0 hD m2
      by_cases m3 : gN l k % 8 = 3
      · exact next_3 v l k r op w0 w hS h hl hk hop8 hR h0 hD m3
      by_cases m4 : gN l k % 8 = 4
      · exact next_4 v l k r op w0 w hS h hl hk hop8 hR h0 hD m4
      by_cases m5 : gN l k % 8 = 5
      · exact next_5 v l k r op w0 w hS h hl hk hop8 hR h0 hD m5
      by_cases m6 : gN l k % 8 = 6
      · exact next_6 v l k r op w0 w hS h hl hk hop8 hR h0 hD m6
      exact next_7 v l k r op w0 w hS h hl hk hop8 hR h0 hD (by omega)
  · exact next_num v l k r op w0 w hS h hl hk hR (.inl h0)
end Go.Proofs.Ytoglgdkeknojkaa
