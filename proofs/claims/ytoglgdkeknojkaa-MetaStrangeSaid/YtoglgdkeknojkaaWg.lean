/-
  LAYER 3: the document's reading of a field's value.
-/
import Derived.Test.YtoglgdkeknojkaaWf
namespace Go.Proofs.Ytoglgdkeknojkaa
open Go.RowKit

theorem BytesAt.sub {w : World} {b o n cap : Nat} {l : List Nat} (h : BytesAt w (.slice (some ⟨b, o, none⟩) n cap) l) (k m c : Nat) (hk : k + m ≤ l.length) (hm : m ≤ c) : BytesAt w (.slice (some ⟨b, o + k, none⟩) m c) ((l.drop k).take m) := by
  obtain ⟨a, cap', hv, ⟨h1, h2⟩, hc⟩ := h
  simp only [Value.slice.injEq] at hv
  obtain ⟨rfl, rfl, rfl⟩ := hv
  have hl : ((l.drop k).take m).length = m := by rw [List.length_take, List.length_drop]; omega
  refine ⟨some ⟨b, o + k, none⟩, c, by rw [hl], ⟨by omega, fun h => by cases h⟩, ?_⟩
  rcases hc with rfl | ⟨b', o', hbo, hlt, hcell⟩
  · exact .inl (by simp)
  · simp only [Option.some.injEq, Addr.mk.injEq, and_true] at hbo
    obtain ⟨rfl, rfl⟩ := hbo
    refine .inr ⟨b, o + k, rfl, hlt, fun i hi => ?_⟩
    rw [hl] at hi
    rw [Nat.add_assoc, hcell (k + i) (by omega)]
    simp [List.getD, List.getElem?_take, hi, List.getElem?_drop]
def GetIs (l : List Nat) (k : Nat) (w : World) (e : Ending) (w' : World) : Prop :=
  ((gE l k = 0 ∧ e = .returned (.tuple #[.int .u64 (gN l k : Nat), .int .i64 (gAt l k : Nat), .int .i64 0])) ∨ (gE l k ≠ 0 ∧ e = .returned (.tuple #[.int .u64 (gN l k : Nat), .int .i64 0, .int .i64 (gE l k : Nat)]))) ∧ w = w'
theorem rget_is (v : Value) (l : List Nat) (k : Nat) (w : World) (hB : BytesAt w v l) (h : ∀ x ∈ l, x < 256) (hl : l.length ≤ 140737488355328) (hk : k ≤ l.length) : Calls Try.prog 40 #[v, .int .i64 (k : Int)] w (GetIs l k w) := by
  refine (rget_any v l k w hB h hl hk).mono ?_
  rintro e w' ⟨rfl, rfl⟩
  refine ⟨?_, rfl⟩
  by_cases h0 : gE l k = 0
  · exact .inl ⟨h0, by rw [getV_ok h0]⟩
  · exact .inr ⟨h0, by rw [getV_no h0]⟩
/-- What both sides' reading of four and eight bytes makes. -/
def FixIs (k : IntKind) (l : List Nat) (a m : Nat) (w : World) (e : Ending) (w' : World) : Prop :=
  ((a + m ≤ l.length ∧ e = .returned (.tuple #[.int k (valF l a m : Nat), .int .i64 ((a + m : Nat) : Int), .int .i64 0])) ∨ (¬ a + m ≤ l.length ∧ e = .returned (.tuple #[.int k 0, .int .i64 0, .int .i64 2]))) ∧ w = w'
theorem FixIs.ok {P : Program} {F : FuncId} {args : Array Value} {k : IntKind} {l : List Nat} {a m : Nat} {w : World} (h : a + m ≤ l.length) (c : Calls P F args w fun e w' => e = .returned (.tuple #[.int k (valF l a m : Nat), .int .i64 ((a + m : Nat) : Int), .int .i64 0]) ∧ w = w') : Calls P F args w (FixIs k l a m w) := c.mono fun _ _ ⟨he, hw⟩ => ⟨.inl ⟨h, he⟩, hw⟩
theorem FixIs.no {P : Program} {F : FuncId} {args : Array Value} {k : IntKind} {l : List Nat} {a m : Nat} {w : World} (h : ¬ a + m ≤ l.length) (c : Calls P F args w fun e w' => e = .returned (.tuple #[.int k 0, .int .i64 0, .int .i64 2]) ∧ w = w') : Calls P F args w (FixIs k l a m w) := c.mono fun _ _ ⟨he, hw⟩ => ⟨.inr ⟨h, he⟩, hw⟩
theorem fix_is (v : Value) (l : List Nat) (a : Nat) (w : World) (hB : BytesAt w v l) (h : ∀ x ∈ l, x < 256) (hl : l.length ≤ 140737488355328) (hk : a ≤ l.length) :
    Calls Try.prog 57 #[v, .int .i64 (a : Int)] w (FixIs .u64 l a 8 w) ∧ Calls Try.prog 64 #[v, .int .i64 (a : Int)] w (FixIs .u64 l a 8 w) ∧ Calls Try.prog 58 #[v, .int .i64 (a : Int)] w (FixIs .u32 l a 4 w) ∧ Calls Try.prog 65 #[v, .int .i64 (a : Int)] w (FixIs .u32 l a 4 w) := by
  have hl' : l.length ≤ 9223372036854775807 := by omega
  obtain ⟨aa, cap, rfl, hc, hcase⟩ := hB
  have cells : l.length ≠ 0 → ∃ b o, aa = some ⟨b, o, none⟩ ∧ ∀ i, i < l.length → w.cell? ⟨b, o + i, none⟩ = some (.int .u8 ((l.getD i 0 : Nat) : Int)) := fun hn => by
    rcases hcase with rfl | ⟨b, o, ha, -, hcell⟩
    · simp at hn
    · exact ⟨b, o, ha, hcell⟩
  have v4 := valF_lt l a h 4
  refine ⟨?_, ?_, ?_, ?_⟩
  · by_cases h8 : a + 8 ≤ l.length
    · obtain ⟨b, o, rfl, hcell⟩ := cells (by omega)
      have B0 := frget_ok 8 (by decide) b o l.length cap a l w hl' h8 h hcell
      rw [rv8] at B0
      exact FixIs.ok h8 (rgets8 (some ⟨b, o, none⟩) l.length cap a (valF l a 8) ((a + 8 : Nat) : Int) 0 w B0)
    · exact FixIs.no h8 (rgets8 aa l.length cap a 0 0 2 w (frget_short aa l.length cap a 8 w hl' hk (by omega)))
  · by_cases h8 : a + 8 ≤ l.length
    · obtain ⟨b, o, rfl, hcell⟩ := cells (by omega)
      exact FixIs.ok h8 (get8_ok b o l.length cap a l w hl' h8 h hcell)
    · exact FixIs.no h8 (get8_short aa l.length cap a w hl' hk (by omega))
  · by_cases h4 : a + 4 ≤ l.length
    · obtain ⟨b, o, rfl, hcell⟩ := cells (by omega)
      have B0 := frget_ok 4 (by decide) b o l.length cap a l w hl' h4 h hcell
      rw [rv4] at B0
      exact FixIs.ok h4 (rgets4 (some ⟨b, o, none⟩) l.length cap a (valF l a 4) ((a + 4 : Nat) : Int) 0 w (by omega) B0)
    · exact FixIs.no h4 (rgets4 aa l.length cap a 0 0 2 w (by decide) (frget_short aa l.length cap a 4 w hl' hk (by omega)))
  · by_cases h4 : a + 4 ≤ l.length
    · obtain ⟨b, o, rfl, hcell⟩ := cells (by omega)
      exact FixIs.ok h4 (get4_ok b o l.length cap a l w hl' h4 h hcell)
    · exact FixIs.no h4 (get4_short aa l.length cap a w hl' hk (by omega))
/-- What the document's value makes. -/
def ValIs (l : List Nat) (a num kd : Nat) (w : World) (e : Ending) (w' : World) : Prop :=
  ((vE l a kd = 0 ∧ e = .returned (.tuple #[.agg (vF l a num kd).cells.toArray, .int .i64 (vA l a kd : Nat), .int .i64 0])) ∨
   (vE l a kd ≠ 0 ∧ ∃ (f : Fd) (n : Int), e = .returned (.tuple #[.agg f.cells.toArray, .int .i64 n, .int .i64 (vE l a kd : Nat)]))) ∧ Below w.heap.size w w'
theorem two_blocks (w : World) (x y : Obj) : Below w.heap.size w ((w.alloc x).alloc y) := ext_trans (ext_alloc w x) (ext_alloc _ y)
set_option maxHeartbeats 1000000 in
set_option maxRecDepth 100000 in
theorem rval_0 (v : Value) (l : List Nat) (a num : Nat) (w : World) (hB : BytesAt w v l) (h : ∀ x ∈ l, x < 256) (hl : l.length ≤ 140737488355328) (hk : a ≤ l.length) (hn : num ≤ 536870911) :
    Calls Try.prog 41 #[v, .int .i64 (a : Int), .int .i64 (num : Int), .int .i64 0] w (ValIs l a num 0 w) := by
  have G := Lib.hid fun w' (hb : Below w.heap.size w w') => rget_is v l a w' (hB.keep hb (Nat.le_refl _)) h hl hk
  obtain ⟨aa, cap, rfl, hc, -⟩ := hB
  have hgs := g_spec l a h hk
  replace h := Lib.hid h
  replace hgs := Lib.hid hgs
  go_enter Try.func41, Try.ntmps41
  go_wp2_with fail
  refine (G.out _ (two_blocks w _ _)).mono ?_
  rintro e w' ⟨⟨h0, rfl⟩ | ⟨h0, rfl⟩, rfl⟩
  · replace h0 := Lib.hid h0
    go_wp2_with fail
    exact bodyPost_ret (v := .tuple #[.agg #[.int .i64 num, .int .i64 0, .int .u64 (gN l a : Nat), .string ⟨#[]⟩], .int .i64 (gAt l a : Nat), .int .i64 0]) (by simp [results, Try.results41, go_sem]) rfl ⟨.inl ⟨by simp [vE, h0.out], by simp [vF, vA, Fd.cells]⟩, two_blocks w _ _⟩
  · replace h0 := Lib.hid h0
    go_wp2_with fail
    exact bodyPost_ret (v := .tuple #[.agg #[.int .i64 num, .int .i64 0, .int .u64 (gN l a : Nat), .string ⟨#[]⟩], .int .i64 0, .int .i64 (gE l a : Nat)]) (by simp [results, Try.results41, go_sem]) rfl ⟨.inr ⟨by simp [vE, h0.out], ⟨num, 0, gN l a, ⟨#[]⟩⟩, 0, by simp [vE, Fd.cells]⟩, two_blocks w _ _⟩
set_option maxHeartbeats 1000000 in
set_option maxRecDepth 100000 in
theorem rval_1 (v : Value) (l : List Nat) (a num : Nat) (w : World) (hB : BytesAt w v l) (h : ∀ x ∈ l, x < 256) (hl : l.length ≤ 140737488355328) (hk : a ≤ l.length) (hn : num ≤ 536870911) :
    Calls Try.prog 41 #[v, .int .i64 (a : Int), .int .i64 (num : Int), .int .i64 1] w (ValIs l a num 1 w) := by
  have G := Lib.hid fun w' (hb : Below w.heap.size w w') => (fix_is v l a w' (hB.keep hb (Nat.le_refl _)) h hl hk).1
  obtain ⟨aa, cap, rfl, hc, -⟩ := hB
  replace h := Lib.hid h
  go_enter Try.func41, Try.ntmps41
  go_wp2_with fail
  refine (G.out _ (two_blocks w _ _)).mono ?_
  rintro e w' ⟨⟨h0, rfl⟩ | ⟨h0, rfl⟩, rfl⟩
  · replace h0 := Lib.hid h0
    go_wp2_with fail
    exact bodyPost_ret (v := .tuple #[.agg #[.int .i64 num, .int .i64 1, .int .u64 (valF l a 8 : Nat), .string ⟨#[]⟩], .int .i64 ((a + 8 : Nat) : Int), .int .i64 0]) (by simp [results, Try.results41, go_sem]) rfl ⟨.inl ⟨by simp [vE, h0.out], by simp [vF, vA, Fd.cells]⟩, two_blocks w _ _⟩
  · replace h0 := Lib.hid h0
    go_wp2_with fail
    exact bodyPost_ret (v := .tuple #[.agg #[.int .i64 num, .int .i64 1, .int .u64 0, .string ⟨#[]⟩], .int .i64 0, .int .i64 2]) (by simp [results, Try.results41, go_sem]) rfl ⟨.inr ⟨by simp [vE, h0.out], ⟨num, 1, 0, ⟨#[]⟩⟩, 0, by simp [vE, Fd.cells, h0.out]⟩, two_blocks w _ _⟩
set_option maxHeartbeats 1000000 in
set_option maxRecDepth 100000 in
theorem rval_5 (v : Value) (l : List Nat) (a num : Nat) (w : World) (hB : BytesAt w v l) (h : ∀ x ∈ l, x < 256) (hl : l.length ≤ 140737488355328) (hk : a ≤ l.length) (hn : num ≤ 536870911) :
    Calls Try.prog 41 #[v, .int .i64 (a : Int), .int .i64 (num : Int), .int .i64 5] w (ValIs l a num 5 w) := by
  have G := Lib.hid fun w' (hb : Below w.heap.size w w') => (fix_is v l a w' (hB.keep hb (Nat.le_refl _)) h hl hk).2.2.1
  obtain ⟨aa, cap, rfl, hc, -⟩ := hB
  have v4 : (valF l a 4 : Int) ≤ 4294967295 := by have := valF_lt l a h 4; omega
  replace h := Lib.hid h
  go_enter Try.func41, Try.ntmps41
  go_wp2_with fail
  refine (G.out _ (two_blocks w _ _)).mono ?_
  rintro e w' ⟨⟨h0, rfl⟩ | ⟨h0, rfl⟩, rfl⟩
  · replace h0 := Lib.hid h0
    go_wp2_with fail
    exact bodyPost_ret (v := .tuple #[.agg #[.int .i64 num, .int .i64 5, .int .u64 (valF l a 4 : Nat), .string ⟨#[]⟩], .int .i64 ((a + 4 : Nat) : Int), .int .i64 0]) (by simp [results, Try.results41, go_sem]) rfl ⟨.inl ⟨by simp [vE, h0.out], by simp [vF, vA, Fd.cells]⟩, two_blocks w _ _⟩
  · replace h0 := Lib.hid h0
    go_wp2_with fail
    exact bodyPost_ret (v := .tuple #[.agg #[.int .i64 num, .int .i64 5, .int .u64 0, .string ⟨#[]⟩], .int .i64 0, .int .i64 2]) (by simp [results, Try.results41, go_sem]) rfl ⟨.inr ⟨by simp [vE, h0.out], ⟨num, 5, 0, ⟨#[]⟩⟩, 0, by simp [vE, Fd.cells, h0.out]⟩, two_blocks w _ _⟩
set_option maxHeartbeats 1000000 in
set_option maxRecDepth 100000 in
theorem rval_x (v : Value) (l : List Nat) (a num : Nat) (w : World) (hB : BytesAt w v l) (h : ∀ x ∈ l, x < 256) (hl : l.length ≤ 140737488355328) (hk : a ≤ l.length) (hn : num ≤ 536870911) (kd : Nat) (hkd : kd ≤ 7) (k0 : kd ≠ 0) (k1 : kd ≠ 1) (k2 : kd ≠ 2) (k5 : kd ≠ 5) :
    Calls Try.prog 41 #[v, .int .i64 (a : Int), .int .i64 (num : Int), .int .i64 (kd : Nat)] w (ValIs l a num kd w) := by
  obtain ⟨aa, cap, rfl, hc, -⟩ := hB
  have j0 : ((kd : Int) == 0) = false := by rw [beq_eq_false_iff_ne]; omega
  have j1 : ((kd : Int) == 1) = false := by rw [beq_eq_false_iff_ne]; omega
  have j2 : ((kd : Int) == 2) = false := by rw [beq_eq_false_iff_ne]; omega
  have j5 : ((kd : Int) == 5) = false := by rw [beq_eq_false_iff_ne]; omega
  have hE : vE l a kd = 11 := by unfold vE; rw [if_neg k0, if_neg k1, if_neg k5, if_neg k2]
  replace k0 := Lib.hid k0
  replace k1 := Lib.hid k1
  replace k2 := Lib.hid k2
  replace k5 := Lib.hid k5
  replace h := Lib.hid h
  replace hE := Lib.hid hE
  go_enter Try.func41, Try.ntmps41
  go_wp2_with fail
  exact bodyPost_ret (v := .tuple #[.agg #[.int .i64 num, .int .i64 kd, .int .u64 0, .string ⟨#[]⟩], .int .i64 0, .int .i64 11]) (by simp [results, Try.results41, go_sem]) rfl ⟨.inr ⟨by rw [hE.out]; decide, ⟨num, kd, 0, ⟨#[]⟩⟩, 0, by rw [hE.out]; simp [Fd.cells]⟩, two_blocks w _ _⟩
set_option maxHeartbeats 1000000 in
set_option maxRecDepth 100000 in
theorem rval_2 (v : Value) (l : List Nat) (a num : Nat) (w : World) (hB : BytesAt w v l) (h : ∀ x ∈ l, x < 256) (hl : l.length ≤ 140737488355328) (hk : a ≤ l.length) (hn : num ≤ 536870911) :
    Calls Try.prog 41 #[v, .int .i64 (a : Int), .int .i64 (num : Int), .int .i64 2] w (ValIs l a num 2 w) := by
  have G := Lib.hid fun w' (hb : Below w.heap.size w w') => rget_is v l a w' (hB.keep hb (Nat.le_refl _)) h hl hk
  have HK := Lib.hid fun w' (hb : Below w.heap.size w w') => (hB.keep hb (Nat.le_refl _))
  obtain ⟨aa, cap, rfl, hc, -⟩ := hB
  have hgs := g_spec l a h hk
  replace h := Lib.hid h
  replace hgs := Lib.hid hgs
  obtain ⟨ln, hln⟩ : ∃ x, x = l.length := ⟨_, rfl⟩
  rw [← hln] at hl hk hc HK G ⊢
  have hl' : (ln : Int) ≤ 140737488355328 := by omega
  obtain ⟨N, hN⟩ : ∃ x, x = gN l a := ⟨_, rfl⟩
  obtain ⟨A, hA⟩ : ∃ x, x = gAt l a := ⟨_, rfl⟩
  have hln' := Lib.hid hln
  have hN' := Lib.hid hN
  have hA' := Lib.hid hA
  clear hN hA hln
  go_enter Try.func41, Try.ntmps41
  go_wp2_with fail
  refine (G.out _ (two_blocks w _ _)).mono ?_
  rintro e w' ⟨⟨h0, rfl⟩ | ⟨h0, rfl⟩, rfl⟩
  · have hgs' := hgs.out
    rw [h0, ← hN'.out, ← hA'.out, ← hln'.out] at hgs'
    rw [← hN'.out, ← hA'.out]
    obtain ⟨-, g1, g2, g3⟩ : 0 = 0 ∧ N ≤ 18446744073709551615 ∧ a < A ∧ A ≤ ln := by omega
    replace h0 := Lib.hid h0
    have g3' : (A : Int) ≤ ln := by omega
    have g1' : (N : Int) ≤ 18446744073709551615 := by omega
    clear hgs'
    by_cases hs : ln - A < N
    · have hs' : decide ((ln : Int) - (A : Int) < (N : Int)) = true := decide_eq_true (by omega)
      have hE : vE l a 2 = 2 := by unfold vE; rw [if_neg (by decide), if_neg (by decide), if_neg (by decide), if_pos rfl, if_neg (by simp [h0.out]), if_pos (by rw [← hN'.out, ← hA'.out, ← hln'.out]; exact hs)]
      replace hE := Lib.hid hE
      replace hs := Lib.hid hs
      go_wp2_with fail
      exact bodyPost_ret (v := .tuple #[.agg #[.int .i64 num, .int .i64 2, .int .u64 0, .string ⟨#[]⟩], .int .i64 0, .int .i64 2]) (by simp [results, Try.results41, go_sem]) rfl ⟨.inr ⟨by rw [hE.out]; decide, ⟨num, 2, 0, ⟨#[]⟩⟩, 0, by rw [hE.out]; simp [Fd.cells]⟩, two_blocks w _ _⟩
    · have hs' : decide ((ln : Int) - (A : Int) < (N : Int)) = false := decide_eq_false (by omega)
      have hE : vE l a 2 = 0 := by unfold vE; rw [if_neg (by decide), if_neg (by decide), if_neg (by decide), if_pos rfl, if_neg (by simp [h0.out]), if_neg (by rw [← hN'.out, ← hA'.out, ← hln'.out]; exact hs)]
      replace hE := Lib.hid hE
      have hq : (A : Int) + N ≤ ln := by omega
      have hqn : A + N ≤ ln := by omega
      have hcap : ln ≤ cap := hc.1
      have hcq : (A : Int) + N ≤ cap := by omega
      clear hs g1 g1'
      obtain ⟨bb, o, rfl⟩ : ∃ bb o, aa = some ⟨bb, o, none⟩ := by
        obtain ⟨a', c', hv, hcc, h1⟩ := HK.out w (Below.refl _ _)
        simp only [Value.slice.injEq] at hv
        rcases h1 with h1 | ⟨b, o, ha, -⟩
        · have := hln'.out; rw [h1] at this; simp at this; omega
        · exact ⟨b, o, hv.1.trans ha⟩
      have hW := HK.out _ (two_blocks w (.cells #[.int .i64 0, .int .i64 0, .int .u64 0, .string ⟨#[]⟩] 41) (.cells #[.int .i64 num, .int .i64 2, .int .u64 0, .string ⟨#[]⟩] 41))
      obtain ⟨S, hS⟩ : ∃ x, x = strB ((l.drop A).take N) := ⟨_, rfl⟩
      have hlN : A + N ≤ l.length := by rw [← hln'.out]; exact hqn
      have hvF : vF l a num 2 = ⟨num, 2, 0, S⟩ := by unfold vF; rw [hS, hN'.out, hA'.out]; simp
      have hvA : vA l a 2 = A + N := by unfold vA; rw [hN'.out, hA'.out]; simp
      replace hvF := Lib.hid hvF
      replace hvA := Lib.hid hvA
      by_cases hcA : cap = A
      · obtain rfl : N = 0 := by omega
        subst hcA
        have HB : BytesAt ((w.alloc (.cells #[.int .i64 0, .int .i64 0, .int .u64 0, .string ⟨#[]⟩] 41)).alloc (.cells #[.int .i64 num, .int .i64 2, .int .u64 0, .string ⟨#[]⟩] 41)) (.slice (some ⟨bb, o, none⟩) 0 0) ((l.drop cap).take 0) := ⟨some ⟨bb, o, none⟩, 0, rfl, ⟨by simp, fun h => by cases h⟩, .inl rfl⟩
        have kc := HB.conv (P := Try.prog) Try.underlying25 Try.underlying5 Try.underlying9
        rw [← hS] at kc
        replace hS := Lib.hid hS
        clear HB hW
        go_wp2_with fail
        exact bodyPost_ret (v := .tuple #[.agg #[.int .i64 num, .int .i64 2, .int .u64 0, .string S], .int .i64 (cap : Nat), .int .i64 0]) (by simp [results, Try.results41, go_sem]) rfl ⟨.inl ⟨hE.out, by rw [hvF.out, hvA.out]; simp [Fd.cells]⟩, two_blocks w _ _⟩
      · have HB := hW.sub A N (cap - A) hlN (by omega)
        have kc := HB.conv (P := Try.prog) Try.underlying25 Try.underlying5 Try.underlying9
        rw [← hS] at kc
        replace hS := Lib.hid hS
        have hcA1 : A < cap := by omega
        have hcA2 : (A : Int) < cap := by omega
        clear HB hW hcA
        go_wp2_with fail
        exact bodyPost_ret (v := .tuple #[.agg #[.int .i64 num, .int .i64 2, .int .u64 0, .string S], .int .i64 ((A : Int) + N), .int .i64 0]) (by simp [results, Try.results41, go_sem]) rfl ⟨.inl ⟨hE.out, by rw [hvF.out, hvA.out]; simp [Fd.cells]⟩, two_blocks w _ _⟩
  · have hE : vE l a 2 = gE l a := by unfold vE; rw [if_neg (by decide), if_neg (by decide), if_neg (by decide), if_pos rfl, if_pos h0]
    have h0' : ((gE l a : Int) != 0) = true := by simpa using h0
    replace h0 := Lib.hid h0
    replace hE := Lib.hid hE
    go_wp2_with fail
    exact bodyPost_ret (v := .tuple #[.agg #[.int .i64 num, .int .i64 2, .int .u64 0, .string ⟨#[]⟩], .int .i64 0, .int .i64 (gE l a : Nat)]) (by simp [results, Try.results41, go_sem]) rfl ⟨.inr ⟨by rw [hE.out]; exact h0.out, ⟨num, 2, 0, ⟨#[]⟩⟩, 0, by rw [hE.out]; simp [Fd.cells]⟩, two_blocks w _ _⟩
theorem rval_any (v : Value) (l : List Nat) (a num kd : Nat) (w : World) (hB : BytesAt w v l) (h : ∀ x ∈ l, x < 256) (hl : l.length ≤ 140737488355328) (hk : a ≤ l.length) (hn : num ≤ 536870911) (hkd : kd ≤ 7) :
    Calls Try.prog 41 #[v, .int .i64 (a : Int), .int .i64 (num : Int), .int .i64 (kd : Nat)] w (ValIs l a num kd w) := by
  by_cases k0 : kd = 0
  · subst k0; exact rval_0 v l a num w hB h hl hk hn
  by_cases k1 : kd = 1
  · subst k1; exact rval_1 v l a num w hB h hl hk hn
  by_cases k2 : kd = 2
  · subst k2; exact rval_2 v l a num w hB h hl hk hn
  by_cases k5 : kd = 5
  · subst k5; exact rval_5 v l a num w hB h hl hk hn
  exact rval_x v l a num w hB h hl hk hn kd hkd k0 k1 k2 k5
end Go.Proofs.Ytoglgdkeknojkaa
