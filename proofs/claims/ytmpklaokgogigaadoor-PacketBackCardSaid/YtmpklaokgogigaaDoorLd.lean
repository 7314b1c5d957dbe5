/-
  LAYER 16: Of, of both sides.
-/
import Derived.Test.YtmpklaokgogigaaDoorLc
namespace Go.Proofs.YtmpklaokgogigaaDoor.Pac
set_option linter.unusedVariables false
set_option linter.unusedSimpArgs false
open Go.Proofs.YtmpklaokgogigaaDoor
open Go.RowKit
/-- Both readers, at any kind and flags that may be. -/
theorem read_both (k f n : Int) (s : ByteArray) (hs : s.size ≤ 140737488351232) (hk : Hea.RightF k f = 0) : ∃ (P : Pk) (m : Int),
    (∀ w, Hea.Tab3 w → Calls Tryd.prog 17 #[.agg #[.int .i64 k, .int .i64 f, .int .i64 n, .string s]] w (PkP P m w)) ∧
    (∀ w, Calls Tryd.prog 19 #[.agg #[.int .i64 k, .int .i64 f, .int .i64 n, .string s]] w (PkP P m w)) := by
  have hk2 := hk
  unfold Hea.RightF at hk2
  have hk14 : 1 ≤ k ∧ k ≤ 14 := by
    split at hk2
    · exact absurd hk2 (by decide)
    · omega
  by_cases h1 : k = 1
  · subst h1; exact ⟨_, _, fun w _ => read_1 f n s w hs, fun w => told_1 f n s w hs⟩
  by_cases h2 : k = 2
  · subst h2; exact ⟨_, _, fun w _ => read_2 f n s w, fun w => told_2 f n s w⟩
  by_cases h3 : k = 3
  · subst h3
    have hm : Hea.MayBe f := by
      rw [if_neg (by omega)] at hk2
      rw [← Hea.mayBe_iff]
      by_cases h : Hea.RightF.MayBe f = true
      · exact h
      · simp [h] at hk2
    obtain ⟨t, x, q, i, E, hC, hD⟩ := Pub.ofs s (f / 2 % 4) hs
    exact ⟨_, _, fun w ht => read_3 f n s w ht _ _ _ t x q i E (fun W hT => Hea.told_ok f W hT.tab hm) hC, fun w => told_3 f n s w _ _ _ t x q i E (fun W => Hea.reft_ok f W hm) hD⟩
  by_cases h4 : k = 4
  · subst h4; exact ⟨_, _, fun w _ => read_4 f n s w hs, fun w => told_4 f n s w hs⟩
  by_cases h5 : k = 5
  · subst h5; exact ⟨_, _, fun w _ => read_5 f n s w hs, fun w => told_5 f n s w hs⟩
  by_cases h6 : k = 6
  · subst h6; exact ⟨_, _, fun w _ => read_6 f n s w hs, fun w => told_6 f n s w hs⟩
  by_cases h7 : k = 7
  · subst h7; exact ⟨_, _, fun w _ => read_7 f n s w hs, fun w => told_7 f n s w hs⟩
  by_cases h8 : k = 8
  · subst h8; exact ⟨_, _, fun w _ => read_8 f n s w hs, fun w => told_8 f n s w hs⟩
  by_cases h9 : k = 9
  · subst h9; exact ⟨_, _, fun w _ => read_9 f n s w hs, fun w => told_9 f n s w hs⟩
  by_cases h10 : k = 10
  · subst h10; exact ⟨_, _, fun w _ => read_10 f n s w hs, fun w => told_10 f n s w hs⟩
  by_cases h11 : k = 11
  · subst h11; exact ⟨_, _, fun w _ => read_11 f n s w hs, fun w => told_11 f n s w hs⟩
  by_cases hz : s = ⟨#[]⟩
  · subst hz
    have : k = 12 ∨ k = 13 ∨ k = 14 := by omega
    rcases this with rfl | rfl | rfl
    · exact ⟨_, _, fun w _ => read_12z f n w, fun w => told_12z f n w⟩
    · exact ⟨_, _, fun w _ => read_13z f n w, fun w => told_13z f n w⟩
    · exact ⟨_, _, fun w _ => read_14z f n w, fun w => told_14z f n w⟩
  · have : k = 12 ∨ k = 13 ∨ k = 14 := by omega
    rcases this with rfl | rfl | rfl
    · exact ⟨_, _, fun w _ => read_12n f n s hz w, fun w => told_12n f n s hz w⟩
    · exact ⟨_, _, fun w _ => read_13n f n s hz w, fun w => told_13n f n s hz w⟩
    · exact ⟨_, _, fun w _ => read_14n f n s hz w, fun w => told_14n f n s hz w⟩
theorem of_start (w : World) (k f n : Int) (s : ByteArray) : PR w w.heap.size (w.heap.size + 1) k f n s #[.int .i64 0, .int .i64 0, .bool false, .string ⟨#[]⟩, .string ⟨#[]⟩, .int .i64 0, .bool false, .int .i64 0, .bool false, .int .i64 0, .string ⟨#[]⟩, .bool false, .string ⟨#[]⟩, .string ⟨#[]⟩, .int .i64 0, .bool false, .bool false, .string ⟨#[]⟩, .bool false, .string ⟨#[]⟩, .bool false, .int .i64 0, .slice none 0 0, .slice none 0 0] ((w.alloc (.cells #[.int .i64 k, .int .i64 f, .int .i64 n, .string s] 25)).alloc (.cells #[.int .i64 0, .int .i64 0, .bool false, .string ⟨#[]⟩, .string ⟨#[]⟩, .int .i64 0, .bool false, .int .i64 0, .bool false, .int .i64 0, .string ⟨#[]⟩, .bool false, .string ⟨#[]⟩, .string ⟨#[]⟩, .int .i64 0, .bool false, .bool false, .string ⟨#[]⟩, .bool false, .string ⟨#[]⟩, .bool false, .int .i64 0, .slice none 0 0, .slice none 0 0] 33)) := PR.start w k f n s (Z 0)
theorem l0_size : (Tryd.prog.info? 33).map (·.size) = some (#[.int .i64 0, .int .i64 0, .bool false, .string ⟨#[]⟩, .string ⟨#[]⟩, .int .i64 0, .bool false, .int .i64 0, .bool false, .int .i64 0, .string ⟨#[]⟩, .bool false, .string ⟨#[]⟩, .string ⟨#[]⟩, .int .i64 0, .bool false, .bool false, .string ⟨#[]⟩, .bool false, .string ⟨#[]⟩, .bool false, .int .i64 0, .slice none 0 0, .slice none 0 0] : Array Value).size := by kernel_rfl
theorem l0_one : (#[.int .i64 0, .int .i64 0, .bool false, .string ⟨#[]⟩, .string ⟨#[]⟩, .int .i64 0, .bool false, .int .i64 0, .bool false, .int .i64 0, .string ⟨#[]⟩, .bool false, .string ⟨#[]⟩, .string ⟨#[]⟩, .int .i64 0, .bool false, .bool false, .string ⟨#[]⟩, .bool false, .string ⟨#[]⟩, .bool false, .int .i64 0, .slice none 0 0, .slice none 0 0] : Array Value).all (·.oneCell') = true := by simp [Value.oneCell']
theorem end_of (F : Func) (hF : F.results = #[.cell 2 33, .tmp 3]) {w W : World} {tmps : Array Value} {P : Pk} {fs cs : Value} {m : Int} (hr : Blk W (w.heap.size + 1) 33 (P.v fs cs)) (hb : Below w.heap.size w W) (h2 : tmps.getD 2 undef = .pointer (some ⟨w.heap.size + 1, 0, none⟩)) (h3 : tmps.getD 3 undef = .int .i64 m)
    (hf : FisAt W fs P.fl ∧ Fresh w.heap.size fs) (hc : IntsAt W cs P.cl ∧ Fresh w.heap.size cs) : bodyPost Tryd.prog F (PkP P m w) .ret { tmps := tmps, defers := [] } W := by
  have r1 := run_loadVar_row (P := Tryd.prog) W _ 33 33 (P.v fs cs) (0, 0) _ hr Tryd.underlying33 rfl (by kernel_rfl)
  simp only [Array.getD_eq_getD_getElem?] at h2 h3
  exact ⟨rfl, _, by simp [results, hF, h2, h3, asAddr, r1], fs, cs, rfl, hf, hc, hb⟩
set_option maxRecDepth 100000 in
set_option maxHeartbeats 4000000 in
theorem of_right_p (k f n : Int) (s : ByteArray) (w : World) (ht : Hea.Tab3 w) (h : Hea.RightF k f ≠ 0) : Calls Tryd.prog 7 #[.agg #[.int .i64 k, .int .i64 f, .int .i64 n, .string s]] w (PkP (pk0 0) (Hea.RightF k f) w) := by
  have P0 := Lib.hid (of_start w k f n s)
  have R := Lib.hid (Hea.right_any k f _ (Hea.Tab3.keep ht P0.out.bw))
  generalize Hea.RightF k f = E at *
  have hE : (E != 0) = true := by simpa using h
  have h' := Lib.hid h
  clear h ht
  have P := P0
  go_enter Tryd.func7, Tryd.ntmps7
  go_wp2_with fail
  refine (R.out).mono ?_
  rintro e w1 ⟨rfl, rfl⟩
  clear R P0
  go_wp2_with (refine wpList_store_row rfl 33 (.tmp 2) (.tmp 16) rfl (w.heap.size + 1) #[.int .i64 0, .int .i64 0, .bool false, .string ⟨#[]⟩, .string ⟨#[]⟩, .int .i64 0, .bool false, .int .i64 0, .bool false, .int .i64 0, .string ⟨#[]⟩, .bool false, .string ⟨#[]⟩, .string ⟨#[]⟩, .int .i64 0, .bool false, .bool false, .string ⟨#[]⟩, .bool false, .string ⟨#[]⟩, .bool false, .int .i64 0, .slice none 0 0, .slice none 0 0] rfl rfl 33 #[.int .i64 0, .int .i64 0, .bool false, .string ⟨#[]⟩, .string ⟨#[]⟩, .int .i64 0, .bool false, .int .i64 0, .bool false, .int .i64 0, .string ⟨#[]⟩, .bool false, .string ⟨#[]⟩, .string ⟨#[]⟩, .int .i64 0, .bool false, .bool false, .string ⟨#[]⟩, .bool false, .string ⟨#[]⟩, .bool false, .int .i64 0, .slice none 0 0, .slice none 0 0] P.out.r l0_size rfl l0_one ?_; rw [P.out.same])
  exact end_of _ rfl (P := pk0 0) (fs := noS) (cs := noS) P.out.r P.out.bw rfl rfl (no_fis _ _) (no_ints _ _)
set_option maxRecDepth 100000 in
set_option maxHeartbeats 4000000 in
theorem of_len_p (k f n : Int) (s : ByteArray) (w : World) (ht : Hea.Tab3 w) (h : Hea.RightF k f = 0) (hn : n ≠ (s.size : Int)) : Calls Tryd.prog 7 #[.agg #[.int .i64 k, .int .i64 f, .int .i64 n, .string s]] w (PkP (pk0 0) 4 w) := by
  have P0 := Lib.hid (of_start w k f n s)
  have R := Hea.right_any k f _ (Hea.Tab3.keep ht P0.out.bw)
  rw [h] at R
  replace R := Lib.hid R
  have hE : (n != (s.size : Int)) = true := by simpa using hn
  have h' := Lib.hid hn
  clear hn ht h
  have P := P0
  go_enter Tryd.func7, Tryd.ntmps7
  go_wp2_with fail
  refine (R.out).mono ?_
  rintro e w1 ⟨rfl, rfl⟩
  clear R P0
  go_wp2_with (refine wpList_store_row rfl 33 (.tmp 2) (.tmp 25) rfl (w.heap.size + 1) #[.int .i64 0, .int .i64 0, .bool false, .string ⟨#[]⟩, .string ⟨#[]⟩, .int .i64 0, .bool false, .int .i64 0, .bool false, .int .i64 0, .string ⟨#[]⟩, .bool false, .string ⟨#[]⟩, .string ⟨#[]⟩, .int .i64 0, .bool false, .bool false, .string ⟨#[]⟩, .bool false, .string ⟨#[]⟩, .bool false, .int .i64 0, .slice none 0 0, .slice none 0 0] rfl rfl 33 #[.int .i64 0, .int .i64 0, .bool false, .string ⟨#[]⟩, .string ⟨#[]⟩, .int .i64 0, .bool false, .int .i64 0, .bool false, .int .i64 0, .string ⟨#[]⟩, .bool false, .string ⟨#[]⟩, .string ⟨#[]⟩, .int .i64 0, .bool false, .bool false, .string ⟨#[]⟩, .bool false, .string ⟨#[]⟩, .bool false, .int .i64 0, .slice none 0 0, .slice none 0 0] P.out.r l0_size rfl l0_one ?_; rw [P.out.same])
  exact end_of _ rfl (P := pk0 0) (fs := noS) (cs := noS) P.out.r P.out.bw rfl rfl (no_fis _ _) (no_ints _ _)
set_option maxRecDepth 100000 in
set_option maxHeartbeats 4000000 in
theorem of_reado_p (k f n : Int) (s : ByteArray) (w : World) (ht : Hea.Tab3 w) (h : Hea.RightF k f = 0) (hn : n = (s.size : Int)) (P : Pk)
    (hR : ∀ w, Hea.Tab3 w → Calls Tryd.prog 17 #[.agg #[.int .i64 k, .int .i64 f, .int .i64 n, .string s]] w (PkP P 0 w)) : Calls Tryd.prog 7 #[.agg #[.int .i64 k, .int .i64 f, .int .i64 n, .string s]] w (PkP P 0 w) := by
  have P0 := Lib.hid (of_start w k f n s)
  have R := Hea.right_any k f _ (Hea.Tab3.keep ht P0.out.bw)
  rw [h] at R
  replace R := Lib.hid R
  have hE : (n != (s.size : Int)) = false := by simpa using hn
  have h' := Lib.hid hn
  have RD := Lib.hid (hR ((w.alloc (.cells #[.int .i64 k, .int .i64 f, .int .i64 n, .string s] 25)).alloc (.cells #[.int .i64 0, .int .i64 0, .bool false, .string ⟨#[]⟩, .string ⟨#[]⟩, .int .i64 0, .bool false, .int .i64 0, .bool false, .int .i64 0, .string ⟨#[]⟩, .bool false, .string ⟨#[]⟩, .string ⟨#[]⟩, .int .i64 0, .bool false, .bool false, .string ⟨#[]⟩, .bool false, .string ⟨#[]⟩, .bool false, .int .i64 0, .slice none 0 0, .slice none 0 0] 33)) (Hea.Tab3.keep ht P0.out.bw))
  have LD := Lib.hid (run_loadVar_row (P := Tryd.prog) _ _ 25 25 _ (0, 0) _ P0.out.x Tryd.underlying25 rfl (by kernel_rfl))
  clear hn ht h hR
  go_enter Tryd.func7, Tryd.ntmps7
  go_wp2_with fail
  refine (R.out).mono ?_
  rintro e w1 ⟨rfl, rfl⟩
  clear R
  go_wp2_with fail
  refine (RD.out).mono ?_
  rintro e w2 ⟨fs, cs, rfl, hf, hc, b⟩
  have p := P0.out.ext b
  clear RD P0
  have A2 := Lib.hid (heap_alloc_new w2 (.cells #[.int .i64 0, .int .i64 0, .bool false, .string ⟨#[]⟩, .string ⟨#[]⟩, .int .i64 0, .bool false, .int .i64 0, .bool false, .int .i64 0, .string ⟨#[]⟩, .bool false, .string ⟨#[]⟩, .string ⟨#[]⟩, .int .i64 0, .bool false, .bool false, .string ⟨#[]⟩, .bool false, .string ⟨#[]⟩, .bool false, .int .i64 0, .slice none 0 0, .slice none 0 0] 33))
  have A3 := Lib.hid (World.setRow_alloc_new w2 #[.int .i64 0, .int .i64 0, .bool false, .string ⟨#[]⟩, .string ⟨#[]⟩, .int .i64 0, .bool false, .int .i64 0, .bool false, .int .i64 0, .string ⟨#[]⟩, .bool false, .string ⟨#[]⟩, .string ⟨#[]⟩, .int .i64 0, .bool false, .bool false, .string ⟨#[]⟩, .bool false, .string ⟨#[]⟩, .bool false, .int .i64 0, .slice none 0 0, .slice none 0 0] (P.v fs cs) 33)
  have A4 := Lib.hid (heap_alloc_new w2 (.cells (P.v fs cs) 33))
  have ba := (Below.refl w2.heap.size w2).alloc (Nat.le_refl _) (.cells (P.v fs cs) 33)
  have P2 := Lib.hid (p.ext ba)
  have zb := p.bw.size
  have hb : w.heap.size + 1 + 1 ≤ w2.heap.size := by have := b.size; simpa using this
  have o1 := Lib.hid (fis_one hf.1)
  have o2 := Lib.hid (ints_one hc.1)
  have HF := Lib.hid (⟨hf.1.keep ba (Nat.le_refl _), Fresh.le hf.2 (by simp; omega)⟩ : FisAt _ fs P.fl ∧ Fresh w.heap.size fs)
  have HC := Lib.hid (⟨hc.1.keep ba (Nat.le_refl _), Fresh.le hc.2 (by simp; omega)⟩ : IntsAt _ cs P.cl ∧ Fresh w.heap.size cs)
  have HF2 := Lib.hid (⟨(but_setRow (But.refl (w.heap.size + 1) _) (P.v fs cs)).fis HF.out.1 hf.2 (by simp), HF.out.2⟩ : FisAt _ fs P.fl ∧ Fresh w.heap.size fs)
  have HC2 := Lib.hid (⟨(but_setRow (But.refl (w.heap.size + 1) _) (P.v fs cs)).ints HC.out.1 hc.2 (by simp), HC.out.2⟩ : IntsAt _ cs P.cl ∧ Fresh w.heap.size cs)
  have U : Hid (Blk ((w2.alloc (.cells (P.v fs cs) 33)).setRow (w.heap.size + 1) (P.v fs cs)) (w.heap.size + 1) 33 (P.v fs cs) ∧ Below w.heap.size w ((w2.alloc (.cells (P.v fs cs) 33)).setRow (w.heap.size + 1) (P.v fs cs))) := Lib.hid ⟨setRow_heap _ _ _ _ 33 (0, 0) P2.out.r, below_setRow P2.out.bw (by omega) _⟩
  clear hf hc b p ba
  go_wp2_with (first
    | (refine wpList_store_row rfl 33 (.tmp 5) (.tmp 29) rfl w2.heap.size (P.v fs cs) rfl rfl 33 #[.int .i64 0, .int .i64 0, .bool false, .string ⟨#[]⟩, .string ⟨#[]⟩, .int .i64 0, .bool false, .int .i64 0, .bool false, .int .i64 0, .string ⟨#[]⟩, .bool false, .string ⟨#[]⟩, .string ⟨#[]⟩, .int .i64 0, .bool false, .bool false, .string ⟨#[]⟩, .bool false, .string ⟨#[]⟩, .bool false, .int .i64 0, .slice none 0 0, .slice none 0 0] A2.out (pk_size _ _ _) rfl (pk_one _ _ _ o1.out o2.out) ?_; rw [A3.out])
    | (refine wpList_load_row rfl 33 (.tmp 5) rfl w2.heap.size rfl 33 (P.v fs cs) (0, 0) _ A4.out Tryd.underlying33 rfl (pk_size _ _ _) ?_)
    | (refine wpList_store_row rfl 33 (.tmp 2) (.tmp 35) rfl (w.heap.size + 1) (P.v fs cs) rfl rfl 33 #[.int .i64 0, .int .i64 0, .bool false, .string ⟨#[]⟩, .string ⟨#[]⟩, .int .i64 0, .bool false, .int .i64 0, .bool false, .int .i64 0, .string ⟨#[]⟩, .bool false, .string ⟨#[]⟩, .string ⟨#[]⟩, .int .i64 0, .bool false, .bool false, .string ⟨#[]⟩, .bool false, .string ⟨#[]⟩, .bool false, .int .i64 0, .slice none 0 0, .slice none 0 0] P2.out.r (pk_size _ _ _) rfl (pk_one _ _ _ o1.out o2.out) ?_))
  exact end_of _ rfl (P := P) U.out.1 U.out.2 rfl rfl HF2.out HC2.out
set_option maxRecDepth 100000 in
set_option maxHeartbeats 4000000 in
theorem of_reade_p (k f n : Int) (s : ByteArray) (w : World) (ht : Hea.Tab3 w) (h : Hea.RightF k f = 0) (hn : n = (s.size : Int)) (P : Pk) (m : Int) (hm : m ≠ 0)
    (hR : ∀ w, Hea.Tab3 w → Calls Tryd.prog 17 #[.agg #[.int .i64 k, .int .i64 f, .int .i64 n, .string s]] w (PkP P m w)) : Calls Tryd.prog 7 #[.agg #[.int .i64 k, .int .i64 f, .int .i64 n, .string s]] w (PkP (pk0 0) m w) := by
  have P0 := Lib.hid (of_start w k f n s)
  have R := Hea.right_any k f _ (Hea.Tab3.keep ht P0.out.bw)
  rw [h] at R
  replace R := Lib.hid R
  have hE : (n != (s.size : Int)) = false := by simpa using hn
  have h' := Lib.hid hn
  have RD := Lib.hid (hR ((w.alloc (.cells #[.int .i64 k, .int .i64 f, .int .i64 n, .string s] 25)).alloc (.cells #[.int .i64 0, .int .i64 0, .bool false, .string ⟨#[]⟩, .string ⟨#[]⟩, .int .i64 0, .bool false, .int .i64 0, .bool false, .int .i64 0, .string ⟨#[]⟩, .bool false, .string ⟨#[]⟩, .string ⟨#[]⟩, .int .i64 0, .bool false, .bool false, .string ⟨#[]⟩, .bool false, .string ⟨#[]⟩, .bool false, .int .i64 0, .slice none 0 0, .slice none 0 0] 33)) (Hea.Tab3.keep ht P0.out.bw))
  have LD := Lib.hid (run_loadVar_row (P := Tryd.prog) _ _ 25 25 _ (0, 0) _ P0.out.x Tryd.underlying25 rfl (by kernel_rfl))
  clear hn ht h hR
  go_enter Tryd.func7, Tryd.ntmps7
  go_wp2_with fail
  refine (R.out).mono ?_
  rintro e w1 ⟨rfl, rfl⟩
  clear R
  go_wp2_with fail
  refine (RD.out).mono ?_
  rintro e w2 ⟨fs, cs, rfl, hf, hc, b⟩
  have p := P0.out.ext b
  clear RD P0
  have A2 := Lib.hid (heap_alloc_new w2 (.cells #[.int .i64 0, .int .i64 0, .bool false, .string ⟨#[]⟩, .string ⟨#[]⟩, .int .i64 0, .bool false, .int .i64 0, .bool false, .int .i64 0, .string ⟨#[]⟩, .bool false, .string ⟨#[]⟩, .string ⟨#[]⟩, .int .i64 0, .bool false, .bool false, .string ⟨#[]⟩, .bool false, .string ⟨#[]⟩, .bool false, .int .i64 0, .slice none 0 0, .slice none 0 0] 33))
  have A3 := Lib.hid (World.setRow_alloc_new w2 #[.int .i64 0, .int .i64 0, .bool false, .string ⟨#[]⟩, .string ⟨#[]⟩, .int .i64 0, .bool false, .int .i64 0, .bool false, .int .i64 0, .string ⟨#[]⟩, .bool false, .string ⟨#[]⟩, .string ⟨#[]⟩, .int .i64 0, .bool false, .bool false, .string ⟨#[]⟩, .bool false, .string ⟨#[]⟩, .bool false, .int .i64 0, .slice none 0 0, .slice none 0 0] (P.v fs cs) 33)
  have A4 := Lib.hid (heap_alloc_new w2 (.cells (P.v fs cs) 33))
  have ba := (Below.refl w2.heap.size w2).alloc (Nat.le_refl _) (.cells (P.v fs cs) 33)
  have P2 := Lib.hid (p.ext ba)
  have zb := p.bw.size
  have hb : w.heap.size + 1 + 1 ≤ w2.heap.size := by have := b.size; simpa using this
  have o1 := Lib.hid (fis_one hf.1)
  have o2 := Lib.hid (ints_one hc.1)
  have HF := Lib.hid (⟨hf.1.keep ba (Nat.le_refl _), Fresh.le hf.2 (by simp; omega)⟩ : FisAt _ fs P.fl ∧ Fresh w.heap.size fs)
  have HC := Lib.hid (⟨hc.1.keep ba (Nat.le_refl _), Fresh.le hc.2 (by simp; omega)⟩ : IntsAt _ cs P.cl ∧ Fresh w.heap.size cs)
  have HF2 := Lib.hid (⟨(but_setRow (But.refl (w.heap.size + 1) _) (P.v fs cs)).fis HF.out.1 hf.2 (by simp), HF.out.2⟩ : FisAt _ fs P.fl ∧ Fresh w.heap.size fs)
  have HC2 := Lib.hid (⟨(but_setRow (But.refl (w.heap.size + 1) _) (P.v fs cs)).ints HC.out.1 hc.2 (by simp), HC.out.2⟩ : IntsAt _ cs P.cl ∧ Fresh w.heap.size cs)
  have U : Hid (Blk ((w2.alloc (.cells (P.v fs cs) 33)).setRow (w.heap.size + 1) (P.v fs cs)) (w.heap.size + 1) 33 (P.v fs cs) ∧ Below w.heap.size w ((w2.alloc (.cells (P.v fs cs) 33)).setRow (w.heap.size + 1) (P.v fs cs))) := Lib.hid ⟨setRow_heap _ _ _ _ 33 (0, 0) P2.out.r, below_setRow P2.out.bw (by omega) _⟩
  clear hf hc b p ba
  have hm' : (m != 0) = true := by simpa using hm
  have P := P2
  replace hm := Lib.hid hm
  go_wp2_with (first
    | (refine wpList_store_row rfl 33 (.tmp 5) (.tmp 29) rfl w2.heap.size _ rfl rfl 33 #[.int .i64 0, .int .i64 0, .bool false, .string ⟨#[]⟩, .string ⟨#[]⟩, .int .i64 0, .bool false, .int .i64 0, .bool false, .int .i64 0, .string ⟨#[]⟩, .bool false, .string ⟨#[]⟩, .string ⟨#[]⟩, .int .i64 0, .bool false, .bool false, .string ⟨#[]⟩, .bool false, .string ⟨#[]⟩, .bool false, .int .i64 0, .slice none 0 0, .slice none 0 0] A2.out (pk_size _ _ _) rfl (pk_one _ _ _ o1.out o2.out) ?_; rw [A3.out])
    | (refine wpList_store_row rfl 33 (.tmp 2) (.tmp 33) rfl (w.heap.size + 1) #[.int .i64 0, .int .i64 0, .bool false, .string ⟨#[]⟩, .string ⟨#[]⟩, .int .i64 0, .bool false, .int .i64 0, .bool false, .int .i64 0, .string ⟨#[]⟩, .bool false, .string ⟨#[]⟩, .string ⟨#[]⟩, .int .i64 0, .bool false, .bool false, .string ⟨#[]⟩, .bool false, .string ⟨#[]⟩, .bool false, .int .i64 0, .slice none 0 0, .slice none 0 0] rfl rfl 33 #[.int .i64 0, .int .i64 0, .bool false, .string ⟨#[]⟩, .string ⟨#[]⟩, .int .i64 0, .bool false, .int .i64 0, .bool false, .int .i64 0, .string ⟨#[]⟩, .bool false, .string ⟨#[]⟩, .string ⟨#[]⟩, .int .i64 0, .bool false, .bool false, .string ⟨#[]⟩, .bool false, .string ⟨#[]⟩, .bool false, .int .i64 0, .slice none 0 0, .slice none 0 0] P.out.r l0_size rfl l0_one ?_; rw [P.out.same]))
  exact end_of _ rfl (P := pk0 0) (fs := noS) (cs := noS) P2.out.r P2.out.bw rfl rfl (no_fis _ _) (no_ints _ _)
set_option maxRecDepth 100000 in
set_option maxHeartbeats 4000000 in
theorem of_right_d (k f n : Int) (s : ByteArray) (w : World) (h : Hea.RightF k f ≠ 0) : Calls Tryd.prog 8 #[.agg #[.int .i64 k, .int .i64 f, .int .i64 n, .string s]] w (PkP (pk0 0) (Hea.RightF k f) w) := by
  have P0 := Lib.hid (of_start w k f n s)
  have R := Lib.hid (Hea.ref_any k f ((w.alloc (.cells #[.int .i64 k, .int .i64 f, .int .i64 n, .string s] 25)).alloc (.cells #[.int .i64 0, .int .i64 0, .bool false, .string ⟨#[]⟩, .string ⟨#[]⟩, .int .i64 0, .bool false, .int .i64 0, .bool false, .int .i64 0, .string ⟨#[]⟩, .bool false, .string ⟨#[]⟩, .string ⟨#[]⟩, .int .i64 0, .bool false, .bool false, .string ⟨#[]⟩, .bool false, .string ⟨#[]⟩, .bool false, .int .i64 0, .slice none 0 0, .slice none 0 0] 33)))
  generalize Hea.RightF k f = E at *
  have hE : (E != 0) = true := by simpa using h
  have h' := Lib.hid h
  clear h
  have P := P0
  go_enter Tryd.func8, Tryd.ntmps8
  go_wp2_with fail
  refine (R.out).mono ?_
  rintro e w1 ⟨rfl, rfl⟩
  clear R P0
  go_wp2_with (refine wpList_store_row rfl 33 (.tmp 2) (.tmp 15) rfl (w.heap.size + 1) #[.int .i64 0, .int .i64 0, .bool false, .string ⟨#[]⟩, .string ⟨#[]⟩, .int .i64 0, .bool false, .int .i64 0, .bool false, .int .i64 0, .string ⟨#[]⟩, .bool false, .string ⟨#[]⟩, .string ⟨#[]⟩, .int .i64 0, .bool false, .bool false, .string ⟨#[]⟩, .bool false, .string ⟨#[]⟩, .bool false, .int .i64 0, .slice none 0 0, .slice none 0 0] rfl rfl 33 #[.int .i64 0, .int .i64 0, .bool false, .string ⟨#[]⟩, .string ⟨#[]⟩, .int .i64 0, .bool false, .int .i64 0, .bool false, .int .i64 0, .string ⟨#[]⟩, .bool false, .string ⟨#[]⟩, .string ⟨#[]⟩, .int .i64 0, .bool false, .bool false, .string ⟨#[]⟩, .bool false, .string ⟨#[]⟩, .bool false, .int .i64 0, .slice none 0 0, .slice none 0 0] P.out.r l0_size rfl l0_one ?_; rw [P.out.same])
  exact end_of _ rfl (P := pk0 0) (fs := noS) (cs := noS) P.out.r P.out.bw rfl rfl (no_fis _ _) (no_ints _ _)
set_option maxRecDepth 100000 in
set_option maxHeartbeats 4000000 in
theorem of_len_d (k f n : Int) (s : ByteArray) (w : World) (h : Hea.RightF k f = 0) (hn : n ≠ (s.size : Int)) : Calls Tryd.prog 8 #[.agg #[.int .i64 k, .int .i64 f, .int .i64 n, .string s]] w (PkP (pk0 0) 4 w) := by
  have P0 := Lib.hid (of_start w k f n s)
  have R := Hea.ref_any k f ((w.alloc (.cells #[.int .i64 k, .int .i64 f, .int .i64 n, .string s] 25)).alloc (.cells #[.int .i64 0, .int .i64 0, .bool false, .string ⟨#[]⟩, .string ⟨#[]⟩, .int .i64 0, .bool false, .int .i64 0, .bool false, .int .i64 0, .string ⟨#[]⟩, .bool false, .string ⟨#[]⟩, .string ⟨#[]⟩, .int .i64 0, .bool false, .bool false, .string ⟨#[]⟩, .bool false, .string ⟨#[]⟩, .bool false, .int .i64 0, .slice none 0 0, .slice none 0 0] 33))
  rw [h] at R
  replace R := Lib.hid R
  have hE : (n != (s.size : Int)) = true := by simpa using hn
  have h' := Lib.hid hn
  clear hn h
  have P := P0
  go_enter Tryd.func8, Tryd.ntmps8
  go_wp2_with fail
  refine (R.out).mono ?_
  rintro e w1 ⟨rfl, rfl⟩
  clear R P0
  go_wp2_with (refine wpList_store_row rfl 33 (.tmp 2) (.tmp 24) rfl (w.heap.size + 1) #[.int .i64 0, .int .i64 0, .bool false, .string ⟨#[]⟩, .string ⟨#[]⟩, .int .i64 0, .bool false, .int .i64 0, .bool false, .int .i64 0, .string ⟨#[]⟩, .bool false, .string ⟨#[]⟩, .string ⟨#[]⟩, .int .i64 0, .bool false, .bool false, .string ⟨#[]⟩, .bool false, .string ⟨#[]⟩, .bool false, .int .i64 0, .slice none 0 0, .slice none 0 0] rfl rfl 33 #[.int .i64 0, .int .i64 0, .bool false, .string ⟨#[]⟩, .string ⟨#[]⟩, .int .i64 0, .bool false, .int .i64 0, .bool false, .int .i64 0, .string ⟨#[]⟩, .bool false, .string ⟨#[]⟩, .string ⟨#[]⟩, .int .i64 0, .bool false, .bool false, .string ⟨#[]⟩, .bool false, .string ⟨#[]⟩, .bool false, .int .i64 0, .slice none 0 0, .slice none 0 0] P.out.r l0_size rfl l0_one ?_; rw [P.out.same])
  exact end_of _ rfl (P := pk0 0) (fs := noS) (cs := noS) P.out.r P.out.bw rfl rfl (no_fis _ _) (no_ints _ _)
set_option maxRecDepth 100000 in
set_option maxHeartbeats 4000000 in
theorem of_reado_d (k f n : Int) (s : ByteArray) (w : World) (h : Hea.RightF k f = 0) (hn : n = (s.size : Int)) (P : Pk)
    (hR : ∀ w, Calls Tryd.prog 19 #[.agg #[.int .i64 k, .int .i64 f, .int .i64 n, .string s]] w (PkP P 0 w)) : Calls Tryd.prog 8 #[.agg #[.int .i64 k, .int .i64 f, .int .i64 n, .string s]] w (PkP P 0 w) := by
  have P0 := Lib.hid (of_start w k f n s)
  have R := Hea.ref_any k f ((w.alloc (.cells #[.int .i64 k, .int .i64 f, .int .i64 n, .string s] 25)).alloc (.cells #[.int .i64 0, .int .i64 0, .bool false, .string ⟨#[]⟩, .string ⟨#[]⟩, .int .i64 0, .bool false, .int .i64 0, .bool false, .int .i64 0, .string ⟨#[]⟩, .bool false, .string ⟨#[]⟩, .string ⟨#[]⟩, .int .i64 0, .bool false, .bool false, .string ⟨#[]⟩, .bool false, .string ⟨#[]⟩, .bool false, .int .i64 0, .slice none 0 0, .slice none 0 0] 33))
  rw [h] at R
  replace R := Lib.hid R
  have hE : (n != (s.size : Int)) = false := by simpa using hn
  have h' := Lib.hid hn
  have RD := Lib.hid (hR ((w.alloc (.cells #[.int .i64 k, .int .i64 f, .int .i64 n, .string s] 25)).alloc (.cells #[.int .i64 0, .int .i64 0, .bool false, .string ⟨#[]⟩, .string ⟨#[]⟩, .int .i64 0, .bool false, .int .i64 0, .bool false, .int .i64 0, .string ⟨#[]⟩, .bool false, .string ⟨#[]⟩, .string ⟨#[]⟩, .int .i64 0, .bool false, .bool false, .string ⟨#[]⟩, .bool false, .string ⟨#[]⟩, .bool false, .int .i64 0, .slice none 0 0, .slice none 0 0] 33)) )
  have LD := Lib.hid (run_loadVar_row (P := Tryd.prog) _ _ 25 25 _ (0, 0) _ P0.out.x Tryd.underlying25 rfl (by kernel_rfl))
  clear hn h hR
  go_enter Tryd.func8, Tryd.ntmps8
  go_wp2_with fail
  refine (R.out).mono ?_
  rintro e w1 ⟨rfl, rfl⟩
  clear R
  go_wp2_with fail
  refine (RD.out).mono ?_
  rintro e w2 ⟨fs, cs, rfl, hf, hc, b⟩
  have p := P0.out.ext b
  clear RD P0
  have A2 := Lib.hid (heap_alloc_new w2 (.cells #[.int .i64 0, .int .i64 0, .bool false, .string ⟨#[]⟩, .string ⟨#[]⟩, .int .i64 0, .bool false, .int .i64 0, .bool false, .int .i64 0, .string ⟨#[]⟩, .bool false, .string ⟨#[]⟩, .string ⟨#[]⟩, .int .i64 0, .bool false, .bool false, .string ⟨#[]⟩, .bool false, .string ⟨#[]⟩, .bool false, .int .i64 0, .slice none 0 0, .slice none 0 0] 33))
  have A3 := Lib.hid (World.setRow_alloc_new w2 #[.int .i64 0, .int .i64 0, .bool false, .string ⟨#[]⟩, .string ⟨#[]⟩, .int .i64 0, .bool false, .int .i64 0, .bool false, .int .i64 0, .string ⟨#[]⟩, .bool false, .string ⟨#[]⟩, .string ⟨#[]⟩, .int .i64 0, .bool false, .bool false, .string ⟨#[]⟩, .bool false, .string ⟨#[]⟩, .bool false, .int .i64 0, .slice none 0 0, .slice none 0 0] (P.v fs cs) 33)
  have A4 := Lib.hid (heap_alloc_new w2 (.cells (P.v fs cs) 33))
  have ba := (Below.refl w2.heap.size w2).alloc (Nat.le_refl _) (.cells (P.v fs cs) 33)
  have P2 := Lib.hid (p.ext ba)
  have zb := p.bw.size
  have hb : w.heap.size + 1 + 1 ≤ w2.heap.size := by have := b.size; simpa using this
  have o1 := Lib.hid (fis_one hf.1)
  have o2 := Lib.hid (ints_one hc.1)
  have HF := Lib.hid (⟨hf.1.keep ba (Nat.le_refl _), Fresh.le hf.2 (by simp; omega)⟩ : FisAt _ fs P.fl ∧ Fresh w.heap.size fs)
  have HC := Lib.hid (⟨hc.1.keep ba (Nat.le_refl _), Fresh.le hc.2 (by simp; omega)⟩ : IntsAt _ cs P.cl ∧ Fresh w.heap.size cs)
  have HF2 := Lib.hid (⟨(but_setRow (But.refl (w.heap.size + 1) _) (P.v fs cs)).fis HF.out.1 hf.2 (by simp), HF.out.2⟩ : FisAt _ fs P.fl ∧ Fresh w.heap.size fs)
  have HC2 := Lib.hid (⟨(but_setRow (But.refl (w.heap.size + 1) _) (P.v fs cs)).ints HC.out.1 hc.2 (by simp), HC.out.2⟩ : IntsAt _ cs P.cl ∧ Fresh w.heap.size cs)
  have U : Hid (Blk ((w2.alloc (.cells (P.v fs cs) 33)).setRow (w.heap.size + 1) (P.v fs cs)) (w.heap.size + 1) 33 (P.v fs cs) ∧ Below w.heap.size w ((w2.alloc (.cells (P.v fs cs) 33)).setRow (w.heap.size + 1) (P.v fs cs))) := Lib.hid ⟨setRow_heap _ _ _ _ 33 (0, 0) P2.out.r, below_setRow P2.out.bw (by omega) _⟩
  clear hf hc b p ba
  go_wp2_with (first
    | (refine wpList_store_row rfl 33 (.tmp 5) (.tmp 28) rfl w2.heap.size (P.v fs cs) rfl rfl 33 #[.int .i64 0, .int .i64 0, .bool false, .string ⟨#[]⟩, .string ⟨#[]⟩, .int .i64 0, .bool false, .int .i64 0, .bool false, .int .i64 0, .string ⟨#[]⟩, .bool false, .string ⟨#[]⟩, .string ⟨#[]⟩, .int .i64 0, .bool false, .bool false, .string ⟨#[]⟩, .bool false, .string ⟨#[]⟩, .bool false, .int .i64 0, .slice none 0 0, .slice none 0 0] A2.out (pk_size _ _ _) rfl (pk_one _ _ _ o1.out o2.out) ?_; rw [A3.out])
    | (refine wpList_load_row rfl 33 (.tmp 5) rfl w2.heap.size rfl 33 (P.v fs cs) (0, 0) _ A4.out Tryd.underlying33 rfl (pk_size _ _ _) ?_)
    | (refine wpList_store_row rfl 33 (.tmp 2) (.tmp 34) rfl (w.heap.size + 1) (P.v fs cs) rfl rfl 33 #[.int .i64 0, .int .i64 0, .bool false, .string ⟨#[]⟩, .string ⟨#[]⟩, .int .i64 0, .bool false, .int .i64 0, .bool false, .int .i64 0, .string ⟨#[]⟩, .bool false, .string ⟨#[]⟩, .string ⟨#[]⟩, .int .i64 0, .bool false, .bool false, .string ⟨#[]⟩, .bool false, .string ⟨#[]⟩, .bool false, .int .i64 0, .slice none 0 0, .slice none 0 0] P2.out.r (pk_size _ _ _) rfl (pk_one _ _ _ o1.out o2.out) ?_))
  exact end_of _ rfl (P := P) U.out.1 U.out.2 rfl rfl HF2.out HC2.out
set_option maxRecDepth 100000 in
set_option maxHeartbeats 4000000 in
theorem of_reade_d (k f n : Int) (s : ByteArray) (w : World) (h : Hea.RightF k f = 0) (hn : n = (s.size : Int)) (P : Pk) (m : Int) (hm : m ≠ 0)
    (hR : ∀ w, Calls Tryd.prog 19 #[.agg #[.int .i64 k, .int .i64 f, .int .i64 n, .string s]] w (PkP P m w)) : Calls Tryd.prog 8 #[.agg #[.int .i64 k, .int .i64 f, .int .i64 n, .string s]] w (PkP (pk0 0) m w) := by
  have P0 := Lib.hid (of_start w k f n s)
  have R := Hea.ref_any k f ((w.alloc (.cells #[.int .i64 k, .int .i64 f, .int .i64 n, .string s] 25)).alloc (.cells #[.int .i64 0, .int .i64 0, .bool false, .string ⟨#[]⟩, .string ⟨#[]⟩, .int .i64 0, .bool false, .int .i64 0, .bool false, .int .i64 0, .string ⟨#[]⟩, .bool false, .string ⟨#[]⟩, .string ⟨#[]⟩, .int .i64 0, .bool false, .bool false, .string ⟨#[]⟩, .bool false, .string ⟨#[]⟩, .bool false, .int .i64 0, .slice none 0 0, .slice none 0 0] 33))
  rw [h] at R
  replace R := Lib.hid R
  have hE : (n != (s.size : Int)) = false := by simpa using hn
  have h' := Lib.hid hn
  have RD := Lib.hid (hR ((w.alloc (.cells #[.int .i64 k, .int .i64 f, .int .i64 n, .string s] 25)).alloc (.cells #[.int .i64 0, .int .i64 0, .bool false, .string ⟨#[]⟩, .string ⟨#[]⟩, .int .i64 0, .bool false, .int .i64 0, .bool false, .int .i64 0, .string ⟨#[]⟩, .bool false, .string ⟨#[]⟩, .string ⟨#[]⟩, .int .i64 0, .bool false, .bool false, .string ⟨#[]⟩, .bool false, .string ⟨#[]⟩, .bool false, .int .i64 0, .slice none 0 0, .slice none 0 0] 33)) )
  have LD := Lib.hid (run_loadVar_row (P := Tryd.prog) _ _ 25 25 _ (0, 0) _ P0.out.x Tryd.underlying25 rfl (by kernel_rfl))
  clear hn h hR
  go_enter Tryd.func8, Tryd.ntmps8
  go_wp2_with fail
  refine (R.out).mono ?_
  rintro e w1 ⟨rfl, rfl⟩
  clear R
  go_wp2_with fail
  refine (RD.out).mono ?_
  rintro e w2 ⟨fs, cs, rfl, hf, hc, b⟩
  have p := P0.out.ext b
  clear RD P0
  have A2 := Lib.hid (heap_alloc_new w2 (.cells #[.int .i64 0, .int .i64 0, .bool false, .string ⟨#[]⟩, .string ⟨#[]⟩, .int .i64 0, .bool false, .int .i64 0, .bool false, .int .i64 0, .string ⟨#[]⟩, .bool false, .string ⟨#[]⟩, .string ⟨#[]⟩, .int .i64 0, .bool false, .bool false, .string ⟨#[]⟩, .bool false, .string ⟨#[]⟩, .bool false, .int .i64 0, .slice none 0 0, .slice none 0 0] 33))
  have A3 := Lib.hid (World.setRow_alloc_new w2 #[.int .i64 0, .int .i64 0, .bool false, .string ⟨#[]⟩, .string ⟨#[]⟩, .int .i64 0, .bool false, .int .i64 0, .bool false, .int .i64 0, .string ⟨#[]⟩, .bool false, .string ⟨#[]⟩, .string ⟨#[]⟩, .int .i64 0, .bool false, .bool false, .string ⟨#[]⟩, .bool false, .string ⟨#[]⟩, .bool false, .int .i64 0, .slice none 0 0, .slice none 0 0] (P.v fs cs) 33)
  have A4 := Lib.hid (heap_alloc_new w2 (.cells (P.v fs cs) 33))
  have ba := (Below.refl w2.heap.size w2).alloc (Nat.le_refl _) (.cells (P.v fs cs) 33)
  have P2 := Lib.hid (p.ext ba)
  have zb := p.bw.size
  have hb : w.heap.size + 1 + 1 ≤ w2.heap.size := by have := b.size; simpa using this
  have o1 := Lib.hid (fis_one hf.1)
  have o2 := Lib.hid (ints_one hc.1)
  have HF := Lib.hid (⟨hf.1.keep ba (Nat.le_refl _), Fresh.le hf.2 (by simp; omega)⟩ : FisAt _ fs P.fl ∧ Fresh w.heap.size fs)
  have HC := Lib.hid (⟨hc.1.keep ba (Nat.le_refl _), Fresh.le hc.2 (by simp; omega)⟩ : IntsAt _ cs P.cl ∧ Fresh w.heap.size cs)
  have HF2 := Lib.hid (⟨(but_setRow (But.refl (w.heap.size + 1) _) (P.v fs cs)).fis HF.out.1 hf.2 (by simp), HF.out.2⟩ : FisAt _ fs P.fl ∧ Fresh w.heap.size fs)
  have HC2 := Lib.hid (⟨(but_setRow (But.refl (w.heap.size + 1) _) (P.v fs cs)).ints HC.out.1 hc.2 (by simp), HC.out.2⟩ : IntsAt _ cs P.cl ∧ Fresh w.heap.size cs)
  have U : Hid (Blk ((w2.alloc (.cells (P.v fs cs) 33)).setRow (w.heap.size + 1) (P.v fs cs)) (w.heap.size + 1) 33 (P.v fs cs) ∧ Below w.heap.size w ((w2.alloc (.cells (P.v fs cs) 33)).setRow (w.heap.size + 1) (P.v fs cs))) := Lib.hid ⟨setRow_heap _ _ _ _ 33 (0, 0) P2.out.r, below_setRow P2.out.bw (by omega) _⟩
  clear hf hc b p ba
  have hm' : (m != 0) = true := by simpa using hm
  have P := P2
  replace hm := Lib.hid hm
  go_wp2_with (first
    | (refine wpList_store_row rfl 33 (.tmp 5) (.tmp 28) rfl w2.heap.size _ rfl rfl 33 #[.int .i64 0, .int .i64 0, .bool false, .string ⟨#[]⟩, .string ⟨#[]⟩, .int .i64 0, .bool false, .int .i64 0, .bool false, .int .i64 0, .string ⟨#[]⟩, .bool false, .string ⟨#[]⟩, .string ⟨#[]⟩, .int .i64 0, .bool false, .bool false, .string ⟨#[]⟩, .bool false, .string ⟨#[]⟩, .bool false, .int .i64 0, .slice none 0 0, .slice none 0 0] A2.out (pk_size _ _ _) rfl (pk_one _ _ _ o1.out o2.out) ?_; rw [A3.out])
    | (refine wpList_store_row rfl 33 (.tmp 2) (.tmp 32) rfl (w.heap.size + 1) #[.int .i64 0, .int .i64 0, .bool false, .string ⟨#[]⟩, .string ⟨#[]⟩, .int .i64 0, .bool false, .int .i64 0, .bool false, .int .i64 0, .string ⟨#[]⟩, .bool false, .string ⟨#[]⟩, .string ⟨#[]⟩, .int .i64 0, .bool false, .bool false, .string ⟨#[]⟩, .bool false, .string ⟨#[]⟩, .bool false, .int .i64 0, .slice none 0 0, .slice none 0 0] rfl rfl 33 #[.int .i64 0, .int .i64 0, .bool false, .string ⟨#[]⟩, .string ⟨#[]⟩, .int .i64 0, .bool false, .int .i64 0, .bool false, .int .i64 0, .string ⟨#[]⟩, .bool false, .string ⟨#[]⟩, .string ⟨#[]⟩, .int .i64 0, .bool false, .bool false, .string ⟨#[]⟩, .bool false, .string ⟨#[]⟩, .bool false, .int .i64 0, .slice none 0 0, .slice none 0 0] P.out.r l0_size rfl l0_one ?_; rw [P.out.same]))
  exact end_of _ rfl (P := pk0 0) (fs := noS) (cs := noS) P2.out.r P2.out.bw rfl rfl (no_fis _ _) (no_ints _ _)
theorem of_both (k f n : Int) (s : ByteArray) (hs : s.size ≤ 140737488351232) : ∃ (P : Pk) (m : Int),
    (∀ w, Hea.Tab3 w → Calls Tryd.prog 7 #[.agg #[.int .i64 k, .int .i64 f, .int .i64 n, .string s]] w (PkP P m w)) ∧
    (∀ w, Calls Tryd.prog 8 #[.agg #[.int .i64 k, .int .i64 f, .int .i64 n, .string s]] w (PkP P m w)) := by
  by_cases hk : Hea.RightF k f = 0
  rotate_left
  · exact ⟨_, _, fun w ht => of_right_p k f n s w ht hk, fun w => of_right_d k f n s w hk⟩
  by_cases hn : n = (s.size : Int)
  rotate_left
  · exact ⟨_, _, fun w ht => of_len_p k f n s w ht hk hn, fun w => of_len_d k f n s w hk hn⟩
  obtain ⟨P, m, h1, h2⟩ := read_both k f n s hs hk
  by_cases hm : m = 0
  · subst hm
    exact ⟨P, 0, fun w ht => of_reado_p k f n s w ht hk hn P h1, fun w => of_reado_d k f n s w hk hn P h2⟩
  · exact ⟨pk0 0, m, fun w ht => of_reade_p k f n s w ht hk hn P m hm h1, fun w => of_reade_d k f n s w hk hn P m hm h2⟩
end Go.Proofs.YtmpklaokgogigaaDoor.Pac
