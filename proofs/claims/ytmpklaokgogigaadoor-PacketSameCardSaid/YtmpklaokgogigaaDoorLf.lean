/-
  LAYER 16: Clean, the program's, kind by kind.
-/
import Derived.Test.YtmpklaokgogigaaDoorLd
namespace Go.Proofs.YtmpklaokgogigaaDoor.Pac
set_option linter.unusedVariables false
set_option linter.unusedSimpArgs false
open Go.Proofs.YtmpklaokgogigaaDoor
open Go.RowKit
/-- Where Clean stands: the packet that came, what will be answered, what is being laid. -/
structure QC (w : World) (xs : Array Value) (cs : Array Value) (W : World) : Prop where
  x : Blk W w.heap.size 33 xs
  r : Blk W (w.heap.size + 1) 33 (Z 0)
  p : Blk W (w.heap.size + 1 + 1) 33 cs
  bw : Below w.heap.size w W
section
variable {w W W' : World} {xs cs : Array Value}
theorem QC.ext (h : QC w xs cs W) (hb : Below W.heap.size W W') : QC w xs cs W' :=
  ⟨h.x.ext hb, h.r.ext hb, h.p.ext hb, h.bw.trans (hb.mono h.bw.size)⟩
theorem QC.set (h : QC w xs cs W) (i : Nat) (u : Value) : QC w xs (cs.setIfInBounds i u) (W.setCell ⟨w.heap.size + 1 + 1, i, none⟩ u) :=
  ⟨h.x.far (p := ⟨w.heap.size + 1 + 1, i, none⟩) (by simp; omega) u, h.r.far (p := ⟨w.heap.size + 1 + 1, i, none⟩) (by simp) u, h.p.set i u, h.bw.setCell (by simp; omega) u⟩
theorem QC.sets (h : QC w xs cs W) (i : Nat) (vs : List Value) : QC w xs (setsA cs i vs) (W.setCells (w.heap.size + 1 + 1) i vs) :=
  ⟨blk_far_sets vs i h.x (by omega), blk_far_sets vs i h.r (by omega), blk_sets vs i h.p, below_sets vs i h.bw (by omega)⟩
theorem QC.put (h : QC w xs cs W) (ds : Array Value) : Blk (W.setRow (w.heap.size + 1) ds) (w.heap.size + 1) 33 ds ∧ Below w.heap.size w (W.setRow (w.heap.size + 1) ds) :=
  ⟨setRow_heap W _ (Z 0) ds 33 (0, 0) h.r, below_setRow h.bw (by omega) _⟩
theorem QC.start (w : World) (xs : Array Value) (k : Int) : QC w xs (Z k) (((w.alloc (.cells xs 33)).alloc (.cells (Z 0) 33)).alloc (.cells (Z k) 33)) := by
  have k1 : Blk ((w.alloc (.cells xs 33)).alloc (.cells (Z 0) 33)) (w.heap.size + 1) 33 (Z 0) := by
    have := Blk.new (w.alloc (.cells xs 33)) 33 (Z 0)
    simpa using this
  have k2 : Blk (((w.alloc (.cells xs 33)).alloc (.cells (Z 0) 33)).alloc (.cells (Z k) 33)) (w.heap.size + 1 + 1) 33 (Z k) := by
    have := Blk.new ((w.alloc (.cells xs 33)).alloc (.cells (Z 0) 33)) 33 (Z k)
    simpa using this
  exact ⟨((Blk.new w 33 xs).alloc _).alloc _, k1.alloc _, k2, ((((Below.refl _ w).alloc (Nat.le_refl _) _).alloc (by simp) _).alloc (by simp; omega) _)⟩
end
theorem cnew_row (w : World) (o : Obj) : (((w.alloc o).alloc (.cells #[.int .i64 0, .int .i64 0, .bool false, .string ⟨#[]⟩, .string ⟨#[]⟩, .int .i64 0, .bool false, .int .i64 0, .bool false, .int .i64 0, .string ⟨#[]⟩, .bool false, .string ⟨#[]⟩, .string ⟨#[]⟩, .int .i64 0, .bool false, .bool false, .string ⟨#[]⟩, .bool false, .string ⟨#[]⟩, .bool false, .int .i64 0, .slice none 0 0, .slice none 0 0] 33)).alloc (.cells #[.int .i64 0, .int .i64 0, .bool false, .string ⟨#[]⟩, .string ⟨#[]⟩, .int .i64 0, .bool false, .int .i64 0, .bool false, .int .i64 0, .string ⟨#[]⟩, .bool false, .string ⟨#[]⟩, .string ⟨#[]⟩, .int .i64 0, .bool false, .bool false, .string ⟨#[]⟩, .bool false, .string ⟨#[]⟩, .bool false, .int .i64 0, .slice none 0 0, .slice none 0 0] 33)).heap[w.heap.size + 1 + 1]? = some (.cells #[.int .i64 0, .int .i64 0, .bool false, .string ⟨#[]⟩, .string ⟨#[]⟩, .int .i64 0, .bool false, .int .i64 0, .bool false, .int .i64 0, .string ⟨#[]⟩, .bool false, .string ⟨#[]⟩, .string ⟨#[]⟩, .int .i64 0, .bool false, .bool false, .string ⟨#[]⟩, .bool false, .string ⟨#[]⟩, .bool false, .int .i64 0, .slice none 0 0, .slice none 0 0] 33 (0, 0)) := by
  have := heap_alloc_new ((w.alloc o).alloc (.cells #[.int .i64 0, .int .i64 0, .bool false, .string ⟨#[]⟩, .string ⟨#[]⟩, .int .i64 0, .bool false, .int .i64 0, .bool false, .int .i64 0, .string ⟨#[]⟩, .bool false, .string ⟨#[]⟩, .string ⟨#[]⟩, .int .i64 0, .bool false, .bool false, .string ⟨#[]⟩, .bool false, .string ⟨#[]⟩, .bool false, .int .i64 0, .slice none 0 0, .slice none 0 0] 33)) (.cells #[.int .i64 0, .int .i64 0, .bool false, .string ⟨#[]⟩, .string ⟨#[]⟩, .int .i64 0, .bool false, .int .i64 0, .bool false, .int .i64 0, .string ⟨#[]⟩, .bool false, .string ⟨#[]⟩, .string ⟨#[]⟩, .int .i64 0, .bool false, .bool false, .string ⟨#[]⟩, .bool false, .string ⟨#[]⟩, .bool false, .int .i64 0, .slice none 0 0, .slice none 0 0] 33)
  rw [show ((w.alloc o).alloc (.cells #[.int .i64 0, .int .i64 0, .bool false, .string ⟨#[]⟩, .string ⟨#[]⟩, .int .i64 0, .bool false, .int .i64 0, .bool false, .int .i64 0, .string ⟨#[]⟩, .bool false, .string ⟨#[]⟩, .string ⟨#[]⟩, .int .i64 0, .bool false, .bool false, .string ⟨#[]⟩, .bool false, .string ⟨#[]⟩, .bool false, .int .i64 0, .slice none 0 0, .slice none 0 0] 33)).heap.size = w.heap.size + 1 + 1 from by simp] at this
  exact this
theorem cnew_set (w : World) (o : Obj) (cs : Array Value) : (((w.alloc o).alloc (.cells #[.int .i64 0, .int .i64 0, .bool false, .string ⟨#[]⟩, .string ⟨#[]⟩, .int .i64 0, .bool false, .int .i64 0, .bool false, .int .i64 0, .string ⟨#[]⟩, .bool false, .string ⟨#[]⟩, .string ⟨#[]⟩, .int .i64 0, .bool false, .bool false, .string ⟨#[]⟩, .bool false, .string ⟨#[]⟩, .bool false, .int .i64 0, .slice none 0 0, .slice none 0 0] 33)).alloc (.cells #[.int .i64 0, .int .i64 0, .bool false, .string ⟨#[]⟩, .string ⟨#[]⟩, .int .i64 0, .bool false, .int .i64 0, .bool false, .int .i64 0, .string ⟨#[]⟩, .bool false, .string ⟨#[]⟩, .string ⟨#[]⟩, .int .i64 0, .bool false, .bool false, .string ⟨#[]⟩, .bool false, .string ⟨#[]⟩, .bool false, .int .i64 0, .slice none 0 0, .slice none 0 0] 33)).setRow (w.heap.size + 1 + 1) cs = ((w.alloc o).alloc (.cells #[.int .i64 0, .int .i64 0, .bool false, .string ⟨#[]⟩, .string ⟨#[]⟩, .int .i64 0, .bool false, .int .i64 0, .bool false, .int .i64 0, .string ⟨#[]⟩, .bool false, .string ⟨#[]⟩, .string ⟨#[]⟩, .int .i64 0, .bool false, .bool false, .string ⟨#[]⟩, .bool false, .string ⟨#[]⟩, .bool false, .int .i64 0, .slice none 0 0, .slice none 0 0] 33)).alloc (.cells cs 33) := by
  have := World.setRow_alloc_new ((w.alloc o).alloc (.cells #[.int .i64 0, .int .i64 0, .bool false, .string ⟨#[]⟩, .string ⟨#[]⟩, .int .i64 0, .bool false, .int .i64 0, .bool false, .int .i64 0, .string ⟨#[]⟩, .bool false, .string ⟨#[]⟩, .string ⟨#[]⟩, .int .i64 0, .bool false, .bool false, .string ⟨#[]⟩, .bool false, .string ⟨#[]⟩, .bool false, .int .i64 0, .slice none 0 0, .slice none 0 0] 33)) #[.int .i64 0, .int .i64 0, .bool false, .string ⟨#[]⟩, .string ⟨#[]⟩, .int .i64 0, .bool false, .int .i64 0, .bool false, .int .i64 0, .string ⟨#[]⟩, .bool false, .string ⟨#[]⟩, .string ⟨#[]⟩, .int .i64 0, .bool false, .bool false, .string ⟨#[]⟩, .bool false, .string ⟨#[]⟩, .bool false, .int .i64 0, .slice none 0 0, .slice none 0 0] cs 33
  rw [show ((w.alloc o).alloc (.cells #[.int .i64 0, .int .i64 0, .bool false, .string ⟨#[]⟩, .string ⟨#[]⟩, .int .i64 0, .bool false, .int .i64 0, .bool false, .int .i64 0, .string ⟨#[]⟩, .bool false, .string ⟨#[]⟩, .string ⟨#[]⟩, .int .i64 0, .bool false, .bool false, .string ⟨#[]⟩, .bool false, .string ⟨#[]⟩, .bool false, .int .i64 0, .slice none 0 0, .slice none 0 0] 33)).heap.size = w.heap.size + 1 + 1 from by simp] at this
  exact this
theorem clean_end {w W : World} {tmps : Array Value} {P : Pk} {fs cs : Value} (hr : Blk W (w.heap.size + 1) 33 (P.v fs cs) ∧ Below w.heap.size w W) (h2 : tmps.getD 2 undef = .pointer (some ⟨w.heap.size + 1, 0, none⟩))
    (hf : FisAt W fs P.fl) (hc : IntsAt W cs P.cl) : bodyPost Tryd.prog Tryd.f14 (fun e w' => ∃ fs cs, e = .returned (.agg (P.v fs cs)) ∧ FisAt w' fs P.fl ∧ IntsAt w' cs P.cl ∧ Below w.heap.size w w') .ret { tmps := tmps, defers := [] } W := by
  have r1 := run_loadVar_row (P := Tryd.prog) W _ 33 33 (P.v fs cs) (0, 0) _ hr.1 Tryd.underlying33 rfl (by kernel_rfl)
  simp only [Array.getD_eq_getD_getElem?] at h2
  exact ⟨rfl, _, by simp [results, Tryd.f14, h2, asAddr, r1], fs, cs, rfl, hf, hc, hr.2⟩
/-- What Clean answers. -/
def ClP (P : Pk) (w : World) (e : Ending) (w' : World) : Prop := ∃ fs cs, e = .returned (.agg (P.v fs cs)) ∧ FisAt w' fs P.fl ∧ IntsAt w' cs P.cl ∧ Below w.heap.size w w'
theorem mid_rows (w : World) (o : Obj) (R : Array Value) : (((w.alloc o).alloc (.cells #[.int .i64 0, .int .i64 0, .bool false, .string ⟨#[]⟩, .string ⟨#[]⟩, .int .i64 0, .bool false, .int .i64 0, .bool false, .int .i64 0, .string ⟨#[]⟩, .bool false, .string ⟨#[]⟩, .string ⟨#[]⟩, .int .i64 0, .bool false, .bool false, .string ⟨#[]⟩, .bool false, .string ⟨#[]⟩, .bool false, .int .i64 0, .slice none 0 0, .slice none 0 0] 33)).alloc (.cells R 33)).heap[w.heap.size + 1 + 1]? = some (.cells R 33 (0, 0)) ∧ (((w.alloc o).alloc (.cells #[.int .i64 0, .int .i64 0, .bool false, .string ⟨#[]⟩, .string ⟨#[]⟩, .int .i64 0, .bool false, .int .i64 0, .bool false, .int .i64 0, .string ⟨#[]⟩, .bool false, .string ⟨#[]⟩, .string ⟨#[]⟩, .int .i64 0, .bool false, .bool false, .string ⟨#[]⟩, .bool false, .string ⟨#[]⟩, .bool false, .int .i64 0, .slice none 0 0, .slice none 0 0] 33)).alloc (.cells R 33)).heap[w.heap.size + 1]? = some (.cells #[.int .i64 0, .int .i64 0, .bool false, .string ⟨#[]⟩, .string ⟨#[]⟩, .int .i64 0, .bool false, .int .i64 0, .bool false, .int .i64 0, .string ⟨#[]⟩, .bool false, .string ⟨#[]⟩, .string ⟨#[]⟩, .int .i64 0, .bool false, .bool false, .string ⟨#[]⟩, .bool false, .string ⟨#[]⟩, .bool false, .int .i64 0, .slice none 0 0, .slice none 0 0] 33 (0, 0)) := by
  have k1 : Blk ((w.alloc o).alloc (.cells #[.int .i64 0, .int .i64 0, .bool false, .string ⟨#[]⟩, .string ⟨#[]⟩, .int .i64 0, .bool false, .int .i64 0, .bool false, .int .i64 0, .string ⟨#[]⟩, .bool false, .string ⟨#[]⟩, .string ⟨#[]⟩, .int .i64 0, .bool false, .bool false, .string ⟨#[]⟩, .bool false, .string ⟨#[]⟩, .bool false, .int .i64 0, .slice none 0 0, .slice none 0 0] 33)) (w.heap.size + 1) 33 #[.int .i64 0, .int .i64 0, .bool false, .string ⟨#[]⟩, .string ⟨#[]⟩, .int .i64 0, .bool false, .int .i64 0, .bool false, .int .i64 0, .string ⟨#[]⟩, .bool false, .string ⟨#[]⟩, .string ⟨#[]⟩, .int .i64 0, .bool false, .bool false, .string ⟨#[]⟩, .bool false, .string ⟨#[]⟩, .bool false, .int .i64 0, .slice none 0 0, .slice none 0 0] := by
    have := Blk.new (w.alloc o) 33 #[.int .i64 0, .int .i64 0, .bool false, .string ⟨#[]⟩, .string ⟨#[]⟩, .int .i64 0, .bool false, .int .i64 0, .bool false, .int .i64 0, .string ⟨#[]⟩, .bool false, .string ⟨#[]⟩, .string ⟨#[]⟩, .int .i64 0, .bool false, .bool false, .string ⟨#[]⟩, .bool false, .string ⟨#[]⟩, .bool false, .int .i64 0, .slice none 0 0, .slice none 0 0]
    simpa using this
  have k2 : Blk (((w.alloc o).alloc (.cells #[.int .i64 0, .int .i64 0, .bool false, .string ⟨#[]⟩, .string ⟨#[]⟩, .int .i64 0, .bool false, .int .i64 0, .bool false, .int .i64 0, .string ⟨#[]⟩, .bool false, .string ⟨#[]⟩, .string ⟨#[]⟩, .int .i64 0, .bool false, .bool false, .string ⟨#[]⟩, .bool false, .string ⟨#[]⟩, .bool false, .int .i64 0, .slice none 0 0, .slice none 0 0] 33)).alloc (.cells R 33)) (w.heap.size + 1 + 1) 33 R := by
    have := Blk.new ((w.alloc o).alloc (.cells #[.int .i64 0, .int .i64 0, .bool false, .string ⟨#[]⟩, .string ⟨#[]⟩, .int .i64 0, .bool false, .int .i64 0, .bool false, .int .i64 0, .string ⟨#[]⟩, .bool false, .string ⟨#[]⟩, .string ⟨#[]⟩, .int .i64 0, .bool false, .bool false, .string ⟨#[]⟩, .bool false, .string ⟨#[]⟩, .bool false, .int .i64 0, .slice none 0 0, .slice none 0 0] 33)) 33 R
    simpa using this
  exact ⟨k2, k1.alloc _⟩
theorem setRow_alloc_old (w : World) (o : Obj) (g : Nat) (cs : Array Value) (hg : g < w.heap.size) : (w.alloc o).setRow g cs = (w.setRow g cs).alloc o := by
  simp only [World.setRow, World.alloc]
  congr 1
  apply Array.ext_getElem?
  intro i
  simp only [Array.getElem?_modify, Array.getElem?_push, Array.size_modify]
  by_cases h : i = w.heap.size
  · subst h
    rw [if_neg (by omega), if_pos rfl, if_pos rfl]
  · simp only [if_neg h]
theorem mid_set (w : World) (o : Obj) (R : Array Value) : (((w.alloc o).alloc (.cells #[.int .i64 0, .int .i64 0, .bool false, .string ⟨#[]⟩, .string ⟨#[]⟩, .int .i64 0, .bool false, .int .i64 0, .bool false, .int .i64 0, .string ⟨#[]⟩, .bool false, .string ⟨#[]⟩, .string ⟨#[]⟩, .int .i64 0, .bool false, .bool false, .string ⟨#[]⟩, .bool false, .string ⟨#[]⟩, .bool false, .int .i64 0, .slice none 0 0, .slice none 0 0] 33)).alloc (.cells R 33)).setRow (w.heap.size + 1) R = ((w.alloc o).alloc (.cells R 33)).alloc (.cells R 33) := by
  rw [setRow_alloc_old _ _ _ _ (by simp)]
  have := World.setRow_alloc_new (w.alloc o) #[.int .i64 0, .int .i64 0, .bool false, .string ⟨#[]⟩, .string ⟨#[]⟩, .int .i64 0, .bool false, .int .i64 0, .bool false, .int .i64 0, .string ⟨#[]⟩, .bool false, .string ⟨#[]⟩, .string ⟨#[]⟩, .int .i64 0, .bool false, .bool false, .string ⟨#[]⟩, .bool false, .string ⟨#[]⟩, .bool false, .int .i64 0, .slice none 0 0, .slice none 0 0] R 33
  rw [show (w.alloc o).heap.size = w.heap.size + 1 from by simp] at this
  rw [this]
theorem fin_row (w : World) (o : Obj) (R : Array Value) : Blk (((w.alloc o).alloc (.cells R 33)).alloc (.cells R 33)) (w.heap.size + 1) 33 R ∧ Below w.heap.size w (((w.alloc o).alloc (.cells R 33)).alloc (.cells R 33)) := by
  have k1 : Blk ((w.alloc o).alloc (.cells R 33)) (w.heap.size + 1) 33 R := by
    have := Blk.new (w.alloc o) 33 R
    simpa using this
  exact ⟨k1.alloc _, (((Below.refl _ w).alloc (Nat.le_refl _) _).alloc (by simp) _).alloc (by simp; omega) _⟩
set_option maxRecDepth 100000 in
set_option maxHeartbeats 4000000 in
theorem clean_4 (P : Pk) (f1 c1 : Value) (w : World) (hk : P.kind = 4) : Calls Tryd.prog 14 #[.agg (P.v f1 c1)] w (ClP (pkI 4 P.id) w) := by
  obtain ⟨kind, id, dup, t, x, q, r, ⟨x0, x1, x2, x3, x4, x5, x6, x7, x8, x9, x10, x11, x12⟩, pres, code, fl, cl⟩ := P
  simp only at hk
  subst hk
  have A0 := Lib.hid (cnew_row w (.cells #[.int .i64 4, .int .i64 id, .bool dup, .string t, .string x, .int .i64 q, .bool r, .int .i64 x0, .bool x1, .int .i64 x2, .string x3, .bool x4, .string x5, .string x6, .int .i64 x7, .bool x8, .bool x9, .string x10, .bool x11, .string x12, .bool pres, .int .i64 code, f1, c1] 33))
  have A1 := Lib.hid (cnew_set w (.cells #[.int .i64 4, .int .i64 id, .bool dup, .string t, .string x, .int .i64 q, .bool r, .int .i64 x0, .bool x1, .int .i64 x2, .string x3, .bool x4, .string x5, .string x6, .int .i64 x7, .bool x8, .bool x9, .string x10, .bool x11, .string x12, .bool pres, .int .i64 code, f1, c1] 33))
  have P := Lib.hid (mid_rows w (.cells #[.int .i64 4, .int .i64 id, .bool dup, .string t, .string x, .int .i64 q, .bool r, .int .i64 x0, .bool x1, .int .i64 x2, .string x3, .bool x4, .string x5, .string x6, .int .i64 x7, .bool x8, .bool x9, .string x10, .bool x11, .string x12, .bool pres, .int .i64 code, f1, c1] 33) #[.int .i64 4, .int .i64 id, .bool false, .string ⟨#[]⟩, .string ⟨#[]⟩, .int .i64 0, .bool false, .int .i64 0, .bool false, .int .i64 0, .string ⟨#[]⟩, .bool false, .string ⟨#[]⟩, .string ⟨#[]⟩, .int .i64 0, .bool false, .bool false, .string ⟨#[]⟩, .bool false, .string ⟨#[]⟩, .bool false, .int .i64 0, .slice none 0 0, .slice none 0 0])
  have A2 := Lib.hid (mid_set w (.cells #[.int .i64 4, .int .i64 id, .bool dup, .string t, .string x, .int .i64 q, .bool r, .int .i64 x0, .bool x1, .int .i64 x2, .string x3, .bool x4, .string x5, .string x6, .int .i64 x7, .bool x8, .bool x9, .string x10, .bool x11, .string x12, .bool pres, .int .i64 code, f1, c1] 33) #[.int .i64 4, .int .i64 id, .bool false, .string ⟨#[]⟩, .string ⟨#[]⟩, .int .i64 0, .bool false, .int .i64 0, .bool false, .int .i64 0, .string ⟨#[]⟩, .bool false, .string ⟨#[]⟩, .string ⟨#[]⟩, .int .i64 0, .bool false, .bool false, .string ⟨#[]⟩, .bool false, .string ⟨#[]⟩, .bool false, .int .i64 0, .slice none 0 0, .slice none 0 0])
  rw [show Pk.v ⟨4, id, dup, t, x, q, r, ⟨x0, x1, x2, x3, x4, x5, x6, x7, x8, x9, x10, x11, x12⟩, pres, code, fl, cl⟩ f1 c1 = #[.int .i64 4, .int .i64 id, .bool dup, .string t, .string x, .int .i64 q, .bool r, .int .i64 x0, .bool x1, .int .i64 x2, .string x3, .bool x4, .string x5, .string x6, .int .i64 x7, .bool x8, .bool x9, .string x10, .bool x11, .string x12, .bool pres, .int .i64 code, f1, c1] from rfl]
  go_enter Tryd.func14, Tryd.ntmps14
  go_wp2_with (first
    | (refine wpList_store_row rfl 33 (.tmp 3) (.tmp 8) rfl (w.heap.size + 1 + 1) #[.int .i64 4, .int .i64 0, .bool false, .string ⟨#[]⟩, .string ⟨#[]⟩, .int .i64 0, .bool false, .int .i64 0, .bool false, .int .i64 0, .string ⟨#[]⟩, .bool false, .string ⟨#[]⟩, .string ⟨#[]⟩, .int .i64 0, .bool false, .bool false, .string ⟨#[]⟩, .bool false, .string ⟨#[]⟩, .bool false, .int .i64 0, .slice none 0 0, .slice none 0 0] rfl rfl 33 #[.int .i64 0, .int .i64 0, .bool false, .string ⟨#[]⟩, .string ⟨#[]⟩, .int .i64 0, .bool false, .int .i64 0, .bool false, .int .i64 0, .string ⟨#[]⟩, .bool false, .string ⟨#[]⟩, .string ⟨#[]⟩, .int .i64 0, .bool false, .bool false, .string ⟨#[]⟩, .bool false, .string ⟨#[]⟩, .bool false, .int .i64 0, .slice none 0 0, .slice none 0 0] ?_ (lit_size _) rfl (lit_one _) ?_; exact A0.out; rw [A1.out])
    | (refine wpList_load_row rfl 33 (.tmp 3) rfl (w.heap.size + 1 + 1) rfl 33 #[.int .i64 4, .int .i64 id, .bool false, .string ⟨#[]⟩, .string ⟨#[]⟩, .int .i64 0, .bool false, .int .i64 0, .bool false, .int .i64 0, .string ⟨#[]⟩, .bool false, .string ⟨#[]⟩, .string ⟨#[]⟩, .int .i64 0, .bool false, .bool false, .string ⟨#[]⟩, .bool false, .string ⟨#[]⟩, .bool false, .int .i64 0, .slice none 0 0, .slice none 0 0] (0, 0) _ ?_ Tryd.underlying33 rfl (pk_size (pkI 4 id) noS noS) ?_; exact P.out.1)
    | (refine wpList_store_row rfl 33 (.tmp 2) (.tmp 87) rfl (w.heap.size + 1) #[.int .i64 4, .int .i64 id, .bool false, .string ⟨#[]⟩, .string ⟨#[]⟩, .int .i64 0, .bool false, .int .i64 0, .bool false, .int .i64 0, .string ⟨#[]⟩, .bool false, .string ⟨#[]⟩, .string ⟨#[]⟩, .int .i64 0, .bool false, .bool false, .string ⟨#[]⟩, .bool false, .string ⟨#[]⟩, .bool false, .int .i64 0, .slice none 0 0, .slice none 0 0] rfl rfl 33 #[.int .i64 0, .int .i64 0, .bool false, .string ⟨#[]⟩, .string ⟨#[]⟩, .int .i64 0, .bool false, .int .i64 0, .bool false, .int .i64 0, .string ⟨#[]⟩, .bool false, .string ⟨#[]⟩, .string ⟨#[]⟩, .int .i64 0, .bool false, .bool false, .string ⟨#[]⟩, .bool false, .string ⟨#[]⟩, .bool false, .int .i64 0, .slice none 0 0, .slice none 0 0] ?_ (pk_size (pkI 4 id) noS noS) rfl (pk_one (pkI 4 id) noS noS rfl rfl) ?_; exact P.out.2; rw [A2.out]))
  exact clean_end (P := pkI 4 id) (fs := noS) (cs := noS) (fin_row w _ _) rfl (fis_none _) (ints_none _)
end Go.Proofs.YtmpklaokgogigaaDoor.Pac
