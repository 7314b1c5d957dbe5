/-
  LAYER 16: the document's told, kind by kind.
-/
import Derived.Test.YtmpklaokgogigaaDoorLb
import Derived.Test.YtmpklaokgogigaaDoorKf
import Derived.Test.YtmpklaokgogigaaDoorSt
import Derived.Deep.WholeRow
namespace Go.Proofs.YtmpklaokgogigaaDoor.Pac
set_option linter.unusedVariables false
set_option linter.unusedSimpArgs false
open Go.Proofs.YtmpklaokgogigaaDoor
open Go.RowKit
/-- Where the document's reader stands. -/
structure QR (w : World) (k f n : Int) (s : ByteArray) (cs : Array Value) (W : World) : Prop where
  x : Blk W w.heap.size 25 #[.int .i64 k, .int .i64 f, .int .i64 n, .string s]
  r : Blk W (w.heap.size + 1) 33 (Z 0)
  p : Blk W (w.heap.size + 1 + 1) 33 cs
  bw : Below w.heap.size w W
section
variable {w W W' : World} {k f n : Int} {s : ByteArray} {cs : Array Value}
theorem QR.ext (h : QR w k f n s cs W) (hb : Below W.heap.size W W') : QR w k f n s cs W' :=
  ⟨h.x.ext hb, h.r.ext hb, h.p.ext hb, h.bw.trans (hb.mono h.bw.size)⟩
theorem QR.alloc (h : QR w k f n s cs W) (o : Obj) : QR w k f n s cs (W.alloc o) := h.ext ((Below.refl _ _).alloc (Nat.le_refl _) o)
theorem QR.set (h : QR w k f n s cs W) (i : Nat) (u : Value) : QR w k f n s (cs.setIfInBounds i u) (W.setCell ⟨w.heap.size + 1 + 1, i, none⟩ u) :=
  ⟨h.x.far (p := ⟨w.heap.size + 1 + 1, i, none⟩) (by simp; omega) u, h.r.far (p := ⟨w.heap.size + 1 + 1, i, none⟩) (by simp) u, h.p.set i u, h.bw.setCell (by simp; omega) u⟩
theorem QR.sets (h : QR w k f n s cs W) (i : Nat) (vs : List Value) : QR w k f n s (setsA cs i vs) (W.setCells (w.heap.size + 1 + 1) i vs) :=
  ⟨blk_far_sets vs i h.x (by omega), blk_far_sets vs i h.r (by omega), blk_sets vs i h.p, below_sets vs i h.bw (by omega)⟩
theorem below_setRow {B g : Nat} (h : Below B w W) (hg : B ≤ g) (cs : Array Value) : Below B w (W.setRow g cs) :=
  ⟨h.os, h.tape, h.output, by have := h.size; simpa [World.setRow] using this, fun k hk => (setRow_other W g k cs (by omega)).trans (h.block k hk)⟩
theorem QR.put (h : QR w k f n s cs W) (ds : Array Value) : Blk (W.setRow (w.heap.size + 1) ds) (w.heap.size + 1) 33 ds ∧ Below w.heap.size w (W.setRow (w.heap.size + 1) ds) :=
  ⟨setRow_heap W _ (Z 0) ds 33 (0, 0) h.r, below_setRow h.bw (by omega) _⟩
theorem but_setRow {b : Nat} (h : But b w W) (ds : Array Value) : But b w (W.setRow b ds) :=
  ⟨by have := h.1; simpa [World.setRow] using this, fun k hk => (setRow_other W b k ds hk).trans (h.2 k hk)⟩
theorem QR.start (w : World) (k f n : Int) (s : ByteArray) : QR w k f n s (Z k) (((w.alloc (.cells #[.int .i64 k, .int .i64 f, .int .i64 n, .string s] 25)).alloc (.cells (Z 0) 33)).alloc (.cells (Z k) 33)) := by
  have P := PR.start0 w k f n s
  have p0 := PR.start w k f n s (Z 0)
  refine ⟨p0.x.alloc _, p0.r.alloc _, ?_, p0.bw.alloc (by simp; omega) _⟩
  have := Blk.new ((w.alloc (.cells #[.int .i64 k, .int .i64 f, .int .i64 n, .string s] 25)).alloc (.cells (Z 0) 33)) 33 (Z k)
  simpa using this
theorem told_end {tmps : Array Value} {P : Pk} {fs cs : Value} {m : Int} (hr : Blk W (w.heap.size + 1) 33 (P.v fs cs) ∧ Below w.heap.size w W) (h2 : tmps.getD 2 undef = .pointer (some ⟨w.heap.size + 1, 0, none⟩)) (h3 : tmps.getD 3 undef = .int .i64 m)
    (hf : FisAt W fs P.fl ∧ Fresh w.heap.size fs) (hc : IntsAt W cs P.cl ∧ Fresh w.heap.size cs) : bodyPost Tryd.prog Tryd.f19 (PkP P m w) .ret { tmps := tmps, defers := [] } W := by
  have r1 := run_loadVar_row (P := Tryd.prog) W _ 33 33 (P.v fs cs) (0, 0) _ hr.1 Tryd.underlying33 rfl (by kernel_rfl)
  simp only [Array.getD_eq_getD_getElem?] at h2 h3
  exact ⟨rfl, _, by simp [results, Tryd.f19, h2, h3, asAddr, r1], fs, cs, rfl, hf, hc, hr.2⟩
end
theorem not_empty {s : ByteArray} (hz : s ≠ ⟨#[]⟩) : (!s.toList.isEmpty) = true := by
  rw [ByteArray.toList_eq]
  cases hl : s.data.toList with
  | nil => exact absurd (ByteArray.ext (Array.toList_inj.1 hl)) hz
  | cons a b => rfl
def boxO (k f n : Int) (s : ByteArray) : Obj := .cells #[.int .i64 k, .int .i64 f, .int .i64 n, .string s] 25
theorem new_row (w : World) (k f n : Int) (s : ByteArray) : (((w.alloc (.cells #[.int .i64 k, .int .i64 f, .int .i64 n, .string s] 25)).alloc (.cells #[.int .i64 0, .int .i64 0, .bool false, .string ⟨#[]⟩, .string ⟨#[]⟩, .int .i64 0, .bool false, .int .i64 0, .bool false, .int .i64 0, .string ⟨#[]⟩, .bool false, .string ⟨#[]⟩, .string ⟨#[]⟩, .int .i64 0, .bool false, .bool false, .string ⟨#[]⟩, .bool false, .string ⟨#[]⟩, .bool false, .int .i64 0, .slice none 0 0, .slice none 0 0] 33)).alloc (.cells #[.int .i64 0, .int .i64 0, .bool false, .string ⟨#[]⟩, .string ⟨#[]⟩, .int .i64 0, .bool false, .int .i64 0, .bool false, .int .i64 0, .string ⟨#[]⟩, .bool false, .string ⟨#[]⟩, .string ⟨#[]⟩, .int .i64 0, .bool false, .bool false, .string ⟨#[]⟩, .bool false, .string ⟨#[]⟩, .bool false, .int .i64 0, .slice none 0 0, .slice none 0 0] 33)).heap[w.heap.size + 1 + 1]? = some (.cells #[.int .i64 0, .int .i64 0, .bool false, .string ⟨#[]⟩, .string ⟨#[]⟩, .int .i64 0, .bool false, .int .i64 0, .bool false, .int .i64 0, .string ⟨#[]⟩, .bool false, .string ⟨#[]⟩, .string ⟨#[]⟩, .int .i64 0, .bool false, .bool false, .string ⟨#[]⟩, .bool false, .string ⟨#[]⟩, .bool false, .int .i64 0, .slice none 0 0, .slice none 0 0] 33 (0, 0)) := by
  have := heap_alloc_new ((w.alloc (.cells #[.int .i64 k, .int .i64 f, .int .i64 n, .string s] 25)).alloc (.cells #[.int .i64 0, .int .i64 0, .bool false, .string ⟨#[]⟩, .string ⟨#[]⟩, .int .i64 0, .bool false, .int .i64 0, .bool false, .int .i64 0, .string ⟨#[]⟩, .bool false, .string ⟨#[]⟩, .string ⟨#[]⟩, .int .i64 0, .bool false, .bool false, .string ⟨#[]⟩, .bool false, .string ⟨#[]⟩, .bool false, .int .i64 0, .slice none 0 0, .slice none 0 0] 33)) (.cells #[.int .i64 0, .int .i64 0, .bool false, .string ⟨#[]⟩, .string ⟨#[]⟩, .int .i64 0, .bool false, .int .i64 0, .bool false, .int .i64 0, .string ⟨#[]⟩, .bool false, .string ⟨#[]⟩, .string ⟨#[]⟩, .int .i64 0, .bool false, .bool false, .string ⟨#[]⟩, .bool false, .string ⟨#[]⟩, .bool false, .int .i64 0, .slice none 0 0, .slice none 0 0] 33)
  rw [show ((w.alloc (.cells #[.int .i64 k, .int .i64 f, .int .i64 n, .string s] 25)).alloc (.cells #[.int .i64 0, .int .i64 0, .bool false, .string ⟨#[]⟩, .string ⟨#[]⟩, .int .i64 0, .bool false, .int .i64 0, .bool false, .int .i64 0, .string ⟨#[]⟩, .bool false, .string ⟨#[]⟩, .string ⟨#[]⟩, .int .i64 0, .bool false, .bool false, .string ⟨#[]⟩, .bool false, .string ⟨#[]⟩, .bool false, .int .i64 0, .slice none 0 0, .slice none 0 0] 33)).heap.size = w.heap.size + 1 + 1 from by simp] at this
  exact this
theorem new_set (w : World) (k f n : Int) (s : ByteArray) (cs : Array Value) : (((w.alloc (.cells #[.int .i64 k, .int .i64 f, .int .i64 n, .string s] 25)).alloc (.cells #[.int .i64 0, .int .i64 0, .bool false, .string ⟨#[]⟩, .string ⟨#[]⟩, .int .i64 0, .bool false, .int .i64 0, .bool false, .int .i64 0, .string ⟨#[]⟩, .bool false, .string ⟨#[]⟩, .string ⟨#[]⟩, .int .i64 0, .bool false, .bool false, .string ⟨#[]⟩, .bool false, .string ⟨#[]⟩, .bool false, .int .i64 0, .slice none 0 0, .slice none 0 0] 33)).alloc (.cells #[.int .i64 0, .int .i64 0, .bool false, .string ⟨#[]⟩, .string ⟨#[]⟩, .int .i64 0, .bool false, .int .i64 0, .bool false, .int .i64 0, .string ⟨#[]⟩, .bool false, .string ⟨#[]⟩, .string ⟨#[]⟩, .int .i64 0, .bool false, .bool false, .string ⟨#[]⟩, .bool false, .string ⟨#[]⟩, .bool false, .int .i64 0, .slice none 0 0, .slice none 0 0] 33)).setRow (w.heap.size + 1 + 1) cs = ((w.alloc (.cells #[.int .i64 k, .int .i64 f, .int .i64 n, .string s] 25)).alloc (.cells #[.int .i64 0, .int .i64 0, .bool false, .string ⟨#[]⟩, .string ⟨#[]⟩, .int .i64 0, .bool false, .int .i64 0, .bool false, .int .i64 0, .string ⟨#[]⟩, .bool false, .string ⟨#[]⟩, .string ⟨#[]⟩, .int .i64 0, .bool false, .bool false, .string ⟨#[]⟩, .bool false, .string ⟨#[]⟩, .bool false, .int .i64 0, .slice none 0 0, .slice none 0 0] 33)).alloc (.cells cs 33) := by
  have := World.setRow_alloc_new ((w.alloc (.cells #[.int .i64 k, .int .i64 f, .int .i64 n, .string s] 25)).alloc (.cells #[.int .i64 0, .int .i64 0, .bool false, .string ⟨#[]⟩, .string ⟨#[]⟩, .int .i64 0, .bool false, .int .i64 0, .bool false, .int .i64 0, .string ⟨#[]⟩, .bool false, .string ⟨#[]⟩, .string ⟨#[]⟩, .int .i64 0, .bool false, .bool false, .string ⟨#[]⟩, .bool false, .string ⟨#[]⟩, .bool false, .int .i64 0, .slice none 0 0, .slice none 0 0] 33)) #[.int .i64 0, .int .i64 0, .bool false, .string ⟨#[]⟩, .string ⟨#[]⟩, .int .i64 0, .bool false, .int .i64 0, .bool false, .int .i64 0, .string ⟨#[]⟩, .bool false, .string ⟨#[]⟩, .string ⟨#[]⟩, .int .i64 0, .bool false, .bool false, .string ⟨#[]⟩, .bool false, .string ⟨#[]⟩, .bool false, .int .i64 0, .slice none 0 0, .slice none 0 0] cs 33
  rw [show ((w.alloc (.cells #[.int .i64 k, .int .i64 f, .int .i64 n, .string s] 25)).alloc (.cells #[.int .i64 0, .int .i64 0, .bool false, .string ⟨#[]⟩, .string ⟨#[]⟩, .int .i64 0, .bool false, .int .i64 0, .bool false, .int .i64 0, .string ⟨#[]⟩, .bool false, .string ⟨#[]⟩, .string ⟨#[]⟩, .int .i64 0, .bool false, .bool false, .string ⟨#[]⟩, .bool false, .string ⟨#[]⟩, .bool false, .int .i64 0, .slice none 0 0, .slice none 0 0] 33)).heap.size = w.heap.size + 1 + 1 from by simp] at this
  exact this
theorem lit_size (k : Int) : (Tryd.prog.info? 33).map (·.size) = some (#[.int .i64 k, .int .i64 0, .bool false, .string ⟨#[]⟩, .string ⟨#[]⟩, .int .i64 0, .bool false, .int .i64 0, .bool false, .int .i64 0, .string ⟨#[]⟩, .bool false, .string ⟨#[]⟩, .string ⟨#[]⟩, .int .i64 0, .bool false, .bool false, .string ⟨#[]⟩, .bool false, .string ⟨#[]⟩, .bool false, .int .i64 0, .slice none 0 0, .slice none 0 0] : Array Value).size := by kernel_rfl
theorem lit_one (k : Int) : (#[.int .i64 k, .int .i64 0, .bool false, .string ⟨#[]⟩, .string ⟨#[]⟩, .int .i64 0, .bool false, .int .i64 0, .bool false, .int .i64 0, .string ⟨#[]⟩, .bool false, .string ⟨#[]⟩, .string ⟨#[]⟩, .int .i64 0, .bool false, .bool false, .string ⟨#[]⟩, .bool false, .string ⟨#[]⟩, .bool false, .int .i64 0, .slice none 0 0, .slice none 0 0] : Array Value).all (·.oneCell') = true := by simp [Value.oneCell']
set_option maxRecDepth 100000 in
set_option maxHeartbeats 4000000 in
theorem told_2 (f n : Int) (s : ByteArray) (w : World) : Calls Tryd.prog 19 #[.agg #[.int .i64 2, .int .i64 f, .int .i64 n, .string s]] w (PkP (pkA 2 (Pub.ackF s).1 (Pub.ackF s).2.1) (Pub.ackF s).2.2 w) := by
  have P0 := Lib.hid (QR.start w 2 f n s)
  have C := Lib.hid (fun W => (Pub.ofacks s W).2)
  generalize Pub.ackF s = R at *
  obtain ⟨X, c, E⟩ := R
  dsimp only
  have A0 := Lib.hid (new_row w 2 f n s)
  have A1 := Lib.hid (new_set w 2 f n s)
  go_enter Tryd.func19, Tryd.ntmps19
  go_wp2_with (refine wpList_store_row rfl 33 (.tmp 4) (.tmp 28) rfl (w.heap.size + 1 + 1) #[.int .i64 2, .int .i64 0, .bool false, .string ⟨#[]⟩, .string ⟨#[]⟩, .int .i64 0, .bool false, .int .i64 0, .bool false, .int .i64 0, .string ⟨#[]⟩, .bool false, .string ⟨#[]⟩, .string ⟨#[]⟩, .int .i64 0, .bool false, .bool false, .string ⟨#[]⟩, .bool false, .string ⟨#[]⟩, .bool false, .int .i64 0, .slice none 0 0, .slice none 0 0] rfl rfl 33 #[.int .i64 0, .int .i64 0, .bool false, .string ⟨#[]⟩, .string ⟨#[]⟩, .int .i64 0, .bool false, .int .i64 0, .bool false, .int .i64 0, .string ⟨#[]⟩, .bool false, .string ⟨#[]⟩, .string ⟨#[]⟩, .int .i64 0, .bool false, .bool false, .string ⟨#[]⟩, .bool false, .string ⟨#[]⟩, .bool false, .int .i64 0, .slice none 0 0, .slice none 0 0] ?_ (lit_size _) rfl (lit_one _) ?_; exact A0.out; rw [A1.out])
  refine (C.out _).mono ?_
  rintro e w2 ⟨rfl, b⟩
  have p := P0.out.ext b
  clear A0 A1
  have P1 : QR w 2 f n s (Pk.v (pkA 2 X c) noS noS) _ := (p.set 20 (.bool X)).set 21 (.int .i64 c)
  have P := Lib.hid P1
  have U := Lib.hid (P1.put (Pk.v (pkA 2 X c) noS noS))
  have d0 := p.p.cell 20
  have d1 := p.p.cell 21
  have fz := fun i => p.p.fz i
  clear p b P0 C P1
  go_wp2_with (first
    | (refine wpList_load_row rfl 33 (.tmp 4) rfl (w.heap.size + 1 + 1) rfl 33 (Pk.v (pkA 2 X c) noS noS) (0, 0) _ ?_ Tryd.underlying33 rfl (pk_size _ _ _) ?_; exact P.out.p)
    | (refine wpList_store_row rfl 33 (.tmp 2) (.tmp 136) rfl (w.heap.size + 1) (Pk.v (pkA 2 X c) noS noS) rfl rfl 33 (Z 0) ?_ (pk_size _ _ _) rfl (pk_one _ _ _ rfl rfl) ?_; exact P.out.r))
  exact told_end (P := (pkA 2 X c)) (m := E) U.out rfl rfl (no_fis _ _) (no_ints _ _)
set_option maxRecDepth 100000 in
set_option maxHeartbeats 4000000 in
theorem told_1 (f n : Int) (s : ByteArray) (w : World) (hs : s.size ≤ 140737488351232) : Calls Tryd.prog 19 #[.agg #[.int .i64 1, .int .i64 f, .int .i64 n, .string s]] w (PkP (pkC 1 (Con.docV (txtL s)).1) (Con.docV (txtL s)).2 w) := by
  have P0 := Lib.hid (QR.start w 1 f n s)
  have C := Lib.hid (fun W => Con.rof_any s W hs)
  generalize Con.docV (txtL s) = R at *
  obtain ⟨X, E⟩ := R
  dsimp only
  have A0 := Lib.hid (new_row w 1 f n s)
  have A1 := Lib.hid (new_set w 1 f n s)
  go_enter Tryd.func19, Tryd.ntmps19
  go_wp2_with (refine wpList_store_row rfl 33 (.tmp 4) (.tmp 28) rfl (w.heap.size + 1 + 1) #[.int .i64 1, .int .i64 0, .bool false, .string ⟨#[]⟩, .string ⟨#[]⟩, .int .i64 0, .bool false, .int .i64 0, .bool false, .int .i64 0, .string ⟨#[]⟩, .bool false, .string ⟨#[]⟩, .string ⟨#[]⟩, .int .i64 0, .bool false, .bool false, .string ⟨#[]⟩, .bool false, .string ⟨#[]⟩, .bool false, .int .i64 0, .slice none 0 0, .slice none 0 0] rfl rfl 33 #[.int .i64 0, .int .i64 0, .bool false, .string ⟨#[]⟩, .string ⟨#[]⟩, .int .i64 0, .bool false, .int .i64 0, .bool false, .int .i64 0, .string ⟨#[]⟩, .bool false, .string ⟨#[]⟩, .string ⟨#[]⟩, .int .i64 0, .bool false, .bool false, .string ⟨#[]⟩, .bool false, .string ⟨#[]⟩, .bool false, .int .i64 0, .slice none 0 0, .slice none 0 0] ?_ (lit_size _) rfl (lit_one _) ?_; exact A0.out; rw [A1.out])
  refine (C.out _).mono ?_
  rintro e w2 ⟨rfl, b⟩
  have p := (P0.out.ext b).alloc (.cells X.v 29)
  clear A0 A1
  have A2 := Lib.hid (heap_alloc_new w2 (.cells #[.int .i64 0, .bool false, .int .i64 0, .string ⟨#[]⟩, .bool false, .string ⟨#[]⟩, .string ⟨#[]⟩, .int .i64 0, .bool false, .bool false, .string ⟨#[]⟩, .bool false, .string ⟨#[]⟩] 29))
  have A3 := Lib.hid (World.setRow_alloc_new w2 #[.int .i64 0, .bool false, .int .i64 0, .string ⟨#[]⟩, .bool false, .string ⟨#[]⟩, .string ⟨#[]⟩, .int .i64 0, .bool false, .bool false, .string ⟨#[]⟩, .bool false, .string ⟨#[]⟩] X.v 29)
  have A4 := Lib.hid (heap_alloc_new w2 (.cells X.v 29))
  have TH := Lib.hid (blk_there p.p 7 13 (by decide))
  have P1 := p.sets 7 X.v.toList
  rw [z_sets 1 X] at P1
  have P := Lib.hid P1
  have U := Lib.hid (P1.put (Pk.v (pkC 1 X) noS noS))
  clear p b P0 C P1
  go_wp2_with (first
    | (refine wpList_store_row rfl 29 (.tmp 6) (.tmp 41) rfl w2.heap.size X.v rfl rfl 29 #[.int .i64 0, .bool false, .int .i64 0, .string ⟨#[]⟩, .bool false, .string ⟨#[]⟩, .string ⟨#[]⟩, .int .i64 0, .bool false, .bool false, .string ⟨#[]⟩, .bool false, .string ⟨#[]⟩] ?_ (size29 X) rfl (one29 X) ?_; exact A2.out; rw [A3.out])
    | (refine wpList_load_row rfl 29 (.tmp 6) rfl w2.heap.size rfl 29 X.v (0, 0) _ ?_ Tryd.underlying29 rfl (size29 X) ?_; exact A4.out)
    | (refine wpList_store_mid rfl 29 (.tmp 44) (.tmp 43) rfl (w.heap.size + 1 + 1) 7 X.v rfl rfl TH.out (size29 X) (one29 X) ?_; generalize ((w2.alloc (.cells X.v 29)).setCells (w.heap.size + 1 + 1) 7 X.v.toList) = W4 at *)
    | (refine wpList_load_row rfl 33 (.tmp 4) rfl (w.heap.size + 1 + 1) rfl 33 (Pk.v (pkC 1 X) noS noS) (0, 0) _ ?_ Tryd.underlying33 rfl (pk_size _ _ _) ?_; exact P.out.p)
    | (refine wpList_store_row rfl 33 (.tmp 2) (.tmp 136) rfl (w.heap.size + 1) (Pk.v (pkC 1 X) noS noS) rfl rfl 33 (Z 0) ?_ (pk_size _ _ _) rfl (pk_one _ _ _ rfl rfl) ?_; exact P.out.r))
  exact told_end (P := (pkC 1 X)) (m := E) U.out rfl rfl (no_fis _ _) (no_ints _ _)
set_option maxRecDepth 100000 in
set_option maxHeartbeats 4000000 in
theorem told_3 (f n : Int) (s : ByteArray) (w : World) (d : Bool) (Q : Int) (R : Bool) (t x : ByteArray) (q i E : Int)
    (hT : ∀ W, Calls Tryd.prog 39 #[.int .i64 f] W fun e W' => e = .returned (.tuple #[.bool d, .int .i64 Q, .bool R]) ∧ W = W')
    (hC : ∀ W, Calls Tryd.prog 40 #[.string s, .int .i64 Q] W (Pub.OfPost (.agg #[.string t, .string x, .int .i64 q, .bool false]) i E W)) : Calls Tryd.prog 19 #[.agg #[.int .i64 3, .int .i64 f, .int .i64 n, .string s]] w (PkP (pkM 3 i d t x q R) E w) := by
  have P0 := Lib.hid (QR.start w 3 f n s)
  have C := Lib.hid hC
  replace hT := Lib.hid hT
  clear hC
  have A0 := Lib.hid (new_row w 3 f n s)
  have A1 := Lib.hid (new_set w 3 f n s)
  go_enter Tryd.func19, Tryd.ntmps19
  go_wp2_with (refine wpList_store_row rfl 33 (.tmp 4) (.tmp 28) rfl (w.heap.size + 1 + 1) #[.int .i64 3, .int .i64 0, .bool false, .string ⟨#[]⟩, .string ⟨#[]⟩, .int .i64 0, .bool false, .int .i64 0, .bool false, .int .i64 0, .string ⟨#[]⟩, .bool false, .string ⟨#[]⟩, .string ⟨#[]⟩, .int .i64 0, .bool false, .bool false, .string ⟨#[]⟩, .bool false, .string ⟨#[]⟩, .bool false, .int .i64 0, .slice none 0 0, .slice none 0 0] rfl rfl 33 #[.int .i64 0, .int .i64 0, .bool false, .string ⟨#[]⟩, .string ⟨#[]⟩, .int .i64 0, .bool false, .int .i64 0, .bool false, .int .i64 0, .string ⟨#[]⟩, .bool false, .string ⟨#[]⟩, .string ⟨#[]⟩, .int .i64 0, .bool false, .bool false, .string ⟨#[]⟩, .bool false, .string ⟨#[]⟩, .bool false, .int .i64 0, .slice none 0 0, .slice none 0 0] ?_ (lit_size _) rfl (lit_one _) ?_; exact A0.out; rw [A1.out])
  clear A0 A1
  refine (hT.out _).mono ?_
  rintro e w1 ⟨rfl, rfl⟩
  go_wp2_with fail
  refine (C.out _).mono ?_
  rintro e w2 ⟨rfl, b⟩
  have p := (P0.out.ext b).alloc (.cells #[.string t, .string x, .int .i64 q, .bool false] 27)
  have TH := Lib.hid (blk_there p.p 3 4 (by decide))
  have p3 := p.sets 3 [.string t, .string x, .int .i64 q, .bool false]
  have P1 : QR w _ f n s (Pk.v (pkM 3 i d t x q R) noS noS) _ := ((p3.set 1 (.int .i64 i)).set 6 (.bool R)).set 2 (.bool d)
  have P := Lib.hid P1
  have U := Lib.hid (P1.put (Pk.v (pkM 3 i d t x q R) noS noS))
  have d1 : (((w2.alloc (.cells #[.string t, .string x, .int .i64 q, .bool false] 27)).setCells (w.heap.size + 1 + 1) 3 [.string t, .string x, .int .i64 q, .bool false])).cell? ⟨w.heap.size + 1 + 1, 1, none⟩ = some (.int .i64 0) := p3.p.cell 1
  have d2 : (((w2.alloc (.cells #[.string t, .string x, .int .i64 q, .bool false] 27)).setCells (w.heap.size + 1 + 1) 3 [.string t, .string x, .int .i64 q, .bool false])).cell? ⟨w.heap.size + 1 + 1, 2, none⟩ = some (.bool false) := p3.p.cell 2
  have d6 : (((w2.alloc (.cells #[.string t, .string x, .int .i64 q, .bool false] 27)).setCells (w.heap.size + 1 + 1) 3 [.string t, .string x, .int .i64 q, .bool false])).cell? ⟨w.heap.size + 1 + 1, 6, none⟩ = some (.bool false) := p3.p.cell 6
  have fz := fun i => p3.p.fz i
  clear p b P0 C P1 p3 hT
  go_wp2_with (first
    | (refine wpList_store_mid rfl 27 (.tmp 79) (.tmp 78) rfl (w.heap.size + 1 + 1) 3 #[.string t, .string x, .int .i64 q, .bool false] rfl rfl TH.out size27 (one27 _ _ _ _) ?_; change wpList _ _ _ _ _ ((w2.alloc (.cells #[.string t, .string x, .int .i64 q, .bool false] 27)).setCells (w.heap.size + 1 + 1) 3 [.string t, .string x, .int .i64 q, .bool false]); generalize ((w2.alloc (.cells #[.string t, .string x, .int .i64 q, .bool false] 27)).setCells (w.heap.size + 1 + 1) 3 [.string t, .string x, .int .i64 q, .bool false]) = W4 at *)
    | (refine wpList_load_row rfl 33 (.tmp 4) rfl (w.heap.size + 1 + 1) rfl 33 (Pk.v (pkM 3 i d t x q R) noS noS) (0, 0) _ ?_ Tryd.underlying33 rfl (pk_size _ _ _) ?_; exact P.out.p)
    | (refine wpList_store_row rfl 33 (.tmp 2) (.tmp 136) rfl (w.heap.size + 1) (Pk.v (pkM 3 i d t x q R) noS noS) rfl rfl 33 (Z 0) ?_ (pk_size _ _ _) rfl (pk_one _ _ _ rfl rfl) ?_; exact P.out.r))
  exact told_end (P := (pkM 3 i d t x q R)) (m := E) U.out rfl rfl (no_fis _ _) (no_ints _ _)
set_option maxRecDepth 100000 in
set_option maxHeartbeats 4000000 in
theorem told_4 (f n : Int) (s : ByteArray) (w : World) (hs : s.size ≤ 140737488351232) : Calls Tryd.prog 19 #[.agg #[.int .i64 4, .int .i64 f, .int .i64 n, .string s]] w (PkP (pkI 4 (Pub.ofF s).1) (Pub.ofF s).2 w) := by
  have P0 := Lib.hid (QR.start w 4 f n s)
  have C := Lib.hid (fun W => Pub.rofid_any s W (by omega))
  generalize Pub.ofF s = R at *
  obtain ⟨i, E⟩ := R
  dsimp only
  have A0 := Lib.hid (new_row w 4 f n s)
  have A1 := Lib.hid (new_set w 4 f n s)
  go_enter Tryd.func19, Tryd.ntmps19
  go_wp2_with (refine wpList_store_row rfl 33 (.tmp 4) (.tmp 28) rfl (w.heap.size + 1 + 1) #[.int .i64 4, .int .i64 0, .bool false, .string ⟨#[]⟩, .string ⟨#[]⟩, .int .i64 0, .bool false, .int .i64 0, .bool false, .int .i64 0, .string ⟨#[]⟩, .bool false, .string ⟨#[]⟩, .string ⟨#[]⟩, .int .i64 0, .bool false, .bool false, .string ⟨#[]⟩, .bool false, .string ⟨#[]⟩, .bool false, .int .i64 0, .slice none 0 0, .slice none 0 0] rfl rfl 33 #[.int .i64 0, .int .i64 0, .bool false, .string ⟨#[]⟩, .string ⟨#[]⟩, .int .i64 0, .bool false, .int .i64 0, .bool false, .int .i64 0, .string ⟨#[]⟩, .bool false, .string ⟨#[]⟩, .string ⟨#[]⟩, .int .i64 0, .bool false, .bool false, .string ⟨#[]⟩, .bool false, .string ⟨#[]⟩, .bool false, .int .i64 0, .slice none 0 0, .slice none 0 0] ?_ (lit_size _) rfl (lit_one _) ?_; exact A0.out; rw [A1.out])
  refine (C.out _).mono ?_
  rintro e w2 ⟨rfl, b⟩
  have p := P0.out.ext b
  clear A0 A1
  have P1 : QR w _ f n s (Pk.v (pkI 4 i) noS noS) _ := p.set 1 (.int .i64 i)
  have P := Lib.hid P1
  have U := Lib.hid (P1.put (Pk.v (pkI 4 i) noS noS))
  have d1 : w2.cell? ⟨w.heap.size + 1 + 1, 1, none⟩ = some (.int .i64 0) := p.p.cell 1
  have fz := fun i => p.p.fz i
  clear p b P0 C P1
  go_wp2_with (first
    | (refine wpList_load_row rfl 33 (.tmp 4) rfl (w.heap.size + 1 + 1) rfl 33 (Pk.v (pkI 4 i) noS noS) (0, 0) _ ?_ Tryd.underlying33 rfl (pk_size _ _ _) ?_; exact P.out.p)
    | (refine wpList_store_row rfl 33 (.tmp 2) (.tmp 136) rfl (w.heap.size + 1) (Pk.v (pkI 4 i) noS noS) rfl rfl 33 (Z 0) ?_ (pk_size _ _ _) rfl (pk_one _ _ _ rfl rfl) ?_; exact P.out.r))
  exact told_end (P := (pkI 4 i)) (m := E) U.out rfl rfl (no_fis _ _) (no_ints _ _)
set_option maxRecDepth 100000 in
set_option maxHeartbeats 4000000 in
theorem told_5 (f n : Int) (s : ByteArray) (w : World) (hs : s.size ≤ 140737488351232) : Calls Tryd.prog 19 #[.agg #[.int .i64 5, .int .i64 f, .int .i64 n, .string s]] w (PkP (pkI 5 (Pub.ofF s).1) (Pub.ofF s).2 w) := by
  have P0 := Lib.hid (QR.start w 5 f n s)
  have C := Lib.hid (fun W => Pub.rofid_any s W (by omega))
  generalize Pub.ofF s = R at *
  obtain ⟨i, E⟩ := R
  dsimp only
  have A0 := Lib.hid (new_row w 5 f n s)
  have A1 := Lib.hid (new_set w 5 f n s)
  go_enter Tryd.func19, Tryd.ntmps19
  go_wp2_with (refine wpList_store_row rfl 33 (.tmp 4) (.tmp 28) rfl (w.heap.size + 1 + 1) #[.int .i64 5, .int .i64 0, .bool false, .string ⟨#[]⟩, .string ⟨#[]⟩, .int .i64 0, .bool false, .int .i64 0, .bool false, .int .i64 0, .string ⟨#[]⟩, .bool false, .string ⟨#[]⟩, .string ⟨#[]⟩, .int .i64 0, .bool false, .bool false, .string ⟨#[]⟩, .bool false, .string ⟨#[]⟩, .bool false, .int .i64 0, .slice none 0 0, .slice none 0 0] rfl rfl 33 #[.int .i64 0, .int .i64 0, .bool false, .string ⟨#[]⟩, .string ⟨#[]⟩, .int .i64 0, .bool false, .int .i64 0, .bool false, .int .i64 0, .string ⟨#[]⟩, .bool false, .string ⟨#[]⟩, .string ⟨#[]⟩, .int .i64 0, .bool false, .bool false, .string ⟨#[]⟩, .bool false, .string ⟨#[]⟩, .bool false, .int .i64 0, .slice none 0 0, .slice none 0 0] ?_ (lit_size _) rfl (lit_one _) ?_; exact A0.out; rw [A1.out])
  refine (C.out _).mono ?_
  rintro e w2 ⟨rfl, b⟩
  have p := P0.out.ext b
  clear A0 A1
  have P1 : QR w _ f n s (Pk.v (pkI 5 i) noS noS) _ := p.set 1 (.int .i64 i)
  have P := Lib.hid P1
  have U := Lib.hid (P1.put (Pk.v (pkI 5 i) noS noS))
  have d1 : w2.cell? ⟨w.heap.size + 1 + 1, 1, none⟩ = some (.int .i64 0) := p.p.cell 1
  have fz := fun i => p.p.fz i
  clear p b P0 C P1
  go_wp2_with (first
    | (refine wpList_load_row rfl 33 (.tmp 4) rfl (w.heap.size + 1 + 1) rfl 33 (Pk.v (pkI 5 i) noS noS) (0, 0) _ ?_ Tryd.underlying33 rfl (pk_size _ _ _) ?_; exact P.out.p)
    | (refine wpList_store_row rfl 33 (.tmp 2) (.tmp 136) rfl (w.heap.size + 1) (Pk.v (pkI 5 i) noS noS) rfl rfl 33 (Z 0) ?_ (pk_size _ _ _) rfl (pk_one _ _ _ rfl rfl) ?_; exact P.out.r))
  exact told_end (P := (pkI 5 i)) (m := E) U.out rfl rfl (no_fis _ _) (no_ints _ _)
set_option maxRecDepth 100000 in
set_option maxHeartbeats 4000000 in
theorem told_6 (f n : Int) (s : ByteArray) (w : World) (hs : s.size ≤ 140737488351232) : Calls Tryd.prog 19 #[.agg #[.int .i64 6, .int .i64 f, .int .i64 n, .string s]] w (PkP (pkI 6 (Pub.ofF s).1) (Pub.ofF s).2 w) := by
  have P0 := Lib.hid (QR.start w 6 f n s)
  have C := Lib.hid (fun W => Pub.rofid_any s W (by omega))
  generalize Pub.ofF s = R at *
  obtain ⟨i, E⟩ := R
  dsimp only
  have A0 := Lib.hid (new_row w 6 f n s)
  have A1 := Lib.hid (new_set w 6 f n s)
  go_enter Tryd.func19, Tryd.ntmps19
  go_wp2_with (refine wpList_store_row rfl 33 (.tmp 4) (.tmp 28) rfl (w.heap.size + 1 + 1) #[.int .i64 6, .int .i64 0, .bool false, .string ⟨#[]⟩, .string ⟨#[]⟩, .int .i64 0, .bool false, .int .i64 0, .bool false, .int .i64 0, .string ⟨#[]⟩, .bool false, .string ⟨#[]⟩, .string ⟨#[]⟩, .int .i64 0, .bool false, .bool false, .string ⟨#[]⟩, .bool false, .string ⟨#[]⟩, .bool false, .int .i64 0, .slice none 0 0, .slice none 0 0] rfl rfl 33 #[.int .i64 0, .int .i64 0, .bool false, .string ⟨#[]⟩, .string ⟨#[]⟩, .int .i64 0, .bool false, .int .i64 0, .bool false, .int .i64 0, .string ⟨#[]⟩, .bool false, .string ⟨#[]⟩, .string ⟨#[]⟩, .int .i64 0, .bool false, .bool false, .string ⟨#[]⟩, .bool false, .string ⟨#[]⟩, .bool false, .int .i64 0, .slice none 0 0, .slice none 0 0] ?_ (lit_size _) rfl (lit_one _) ?_; exact A0.out; rw [A1.out])
  refine (C.out _).mono ?_
  rintro e w2 ⟨rfl, b⟩
  have p := P0.out.ext b
  clear A0 A1
  have P1 : QR w _ f n s (Pk.v (pkI 6 i) noS noS) _ := p.set 1 (.int .i64 i)
  have P := Lib.hid P1
  have U := Lib.hid (P1.put (Pk.v (pkI 6 i) noS noS))
  have d1 : w2.cell? ⟨w.heap.size + 1 + 1, 1, none⟩ = some (.int .i64 0) := p.p.cell 1
  have fz := fun i => p.p.fz i
  clear p b P0 C P1
  go_wp2_with (first
    | (refine wpList_load_row rfl 33 (.tmp 4) rfl (w.heap.size + 1 + 1) rfl 33 (Pk.v (pkI 6 i) noS noS) (0, 0) _ ?_ Tryd.underlying33 rfl (pk_size _ _ _) ?_; exact P.out.p)
    | (refine wpList_store_row rfl 33 (.tmp 2) (.tmp 136) rfl (w.heap.size + 1) (Pk.v (pkI 6 i) noS noS) rfl rfl 33 (Z 0) ?_ (pk_size _ _ _) rfl (pk_one _ _ _ rfl rfl) ?_; exact P.out.r))
  exact told_end (P := (pkI 6 i)) (m := E) U.out rfl rfl (no_fis _ _) (no_ints _ _)
set_option maxRecDepth 100000 in
set_option maxHeartbeats 4000000 in
theorem told_7 (f n : Int) (s : ByteArray) (w : World) (hs : s.size ≤ 140737488351232) : Calls Tryd.prog 19 #[.agg #[.int .i64 7, .int .i64 f, .int .i64 n, .string s]] w (PkP (pkI 7 (Pub.ofF s).1) (Pub.ofF s).2 w) := by
  have P0 := Lib.hid (QR.start w 7 f n s)
  have C := Lib.hid (fun W => Pub.rofid_any s W (by omega))
  generalize Pub.ofF s = R at *
  obtain ⟨i, E⟩ := R
  dsimp only
  have A0 := Lib.hid (new_row w 7 f n s)
  have A1 := Lib.hid (new_set w 7 f n s)
  go_enter Tryd.func19, Tryd.ntmps19
  go_wp2_with (refine wpList_store_row rfl 33 (.tmp 4) (.tmp 28) rfl (w.heap.size + 1 + 1) #[.int .i64 7, .int .i64 0, .bool false, .string ⟨#[]⟩, .string ⟨#[]⟩, .int .i64 0, .bool false, .int .i64 0, .bool false, .int .i64 0, .string ⟨#[]⟩, .bool false, .string ⟨#[]⟩, .string ⟨#[]⟩, .int .i64 0, .bool false, .bool false, .string ⟨#[]⟩, .bool false, .string ⟨#[]⟩, .bool false, .int .i64 0, .slice none 0 0, .slice none 0 0] rfl rfl 33 #[.int .i64 0, .int .i64 0, .bool false, .string ⟨#[]⟩, .string ⟨#[]⟩, .int .i64 0, .bool false, .int .i64 0, .bool false, .int .i64 0, .string ⟨#[]⟩, .bool false, .string ⟨#[]⟩, .string ⟨#[]⟩, .int .i64 0, .bool false, .bool false, .string ⟨#[]⟩, .bool false, .string ⟨#[]⟩, .bool false, .int .i64 0, .slice none 0 0, .slice none 0 0] ?_ (lit_size _) rfl (lit_one _) ?_; exact A0.out; rw [A1.out])
  refine (C.out _).mono ?_
  rintro e w2 ⟨rfl, b⟩
  have p := P0.out.ext b
  clear A0 A1
  have P1 : QR w _ f n s (Pk.v (pkI 7 i) noS noS) _ := p.set 1 (.int .i64 i)
  have P := Lib.hid P1
  have U := Lib.hid (P1.put (Pk.v (pkI 7 i) noS noS))
  have d1 : w2.cell? ⟨w.heap.size + 1 + 1, 1, none⟩ = some (.int .i64 0) := p.p.cell 1
  have fz := fun i => p.p.fz i
  clear p b P0 C P1
  go_wp2_with (first
    | (refine wpList_load_row rfl 33 (.tmp 4) rfl (w.heap.size + 1 + 1) rfl 33 (Pk.v (pkI 7 i) noS noS) (0, 0) _ ?_ Tryd.underlying33 rfl (pk_size _ _ _) ?_; exact P.out.p)
    | (refine wpList_store_row rfl 33 (.tmp 2) (.tmp 136) rfl (w.heap.size + 1) (Pk.v (pkI 7 i) noS noS) rfl rfl 33 (Z 0) ?_ (pk_size _ _ _) rfl (pk_one _ _ _ rfl rfl) ?_; exact P.out.r))
  exact told_end (P := (pkI 7 i)) (m := E) U.out rfl rfl (no_fis _ _) (no_ints _ _)
set_option maxRecDepth 100000 in
set_option maxHeartbeats 4000000 in
theorem told_11 (f n : Int) (s : ByteArray) (w : World) (hs : s.size ≤ 140737488351232) : Calls Tryd.prog 19 #[.agg #[.int .i64 11, .int .i64 f, .int .i64 n, .string s]] w (PkP (pkI 11 (Pub.ofF s).1) (Pub.ofF s).2 w) := by
  have P0 := Lib.hid (QR.start w 11 f n s)
  have C := Lib.hid (fun W => Pub.rofid_any s W (by omega))
  generalize Pub.ofF s = R at *
  obtain ⟨i, E⟩ := R
  dsimp only
  have A0 := Lib.hid (new_row w 11 f n s)
  have A1 := Lib.hid (new_set w 11 f n s)
  go_enter Tryd.func19, Tryd.ntmps19
  go_wp2_with (refine wpList_store_row rfl 33 (.tmp 4) (.tmp 28) rfl (w.heap.size + 1 + 1) #[.int .i64 11, .int .i64 0, .bool false, .string ⟨#[]⟩, .string ⟨#[]⟩, .int .i64 0, .bool false, .int .i64 0, .bool false, .int .i64 0, .string ⟨#[]⟩, .bool false, .string ⟨#[]⟩, .string ⟨#[]⟩, .int .i64 0, .bool false, .bool false, .string ⟨#[]⟩, .bool false, .string ⟨#[]⟩, .bool false, .int .i64 0, .slice none 0 0, .slice none 0 0] rfl rfl 33 #[.int .i64 0, .int .i64 0, .bool false, .string ⟨#[]⟩, .string ⟨#[]⟩, .int .i64 0, .bool false, .int .i64 0, .bool false, .int .i64 0, .string ⟨#[]⟩, .bool false, .string ⟨#[]⟩, .string ⟨#[]⟩, .int .i64 0, .bool false, .bool false, .string ⟨#[]⟩, .bool false, .string ⟨#[]⟩, .bool false, .int .i64 0, .slice none 0 0, .slice none 0 0] ?_ (lit_size _) rfl (lit_one _) ?_; exact A0.out; rw [A1.out])
  refine (C.out _).mono ?_
  rintro e w2 ⟨rfl, b⟩
  have p := P0.out.ext b
  clear A0 A1
  have P1 : QR w _ f n s (Pk.v (pkI 11 i) noS noS) _ := p.set 1 (.int .i64 i)
  have P := Lib.hid P1
  have U := Lib.hid (P1.put (Pk.v (pkI 11 i) noS noS))
  have d1 : w2.cell? ⟨w.heap.size + 1 + 1, 1, none⟩ = some (.int .i64 0) := p.p.cell 1
  have fz := fun i => p.p.fz i
  clear p b P0 C P1
  go_wp2_with (first
    | (refine wpList_load_row rfl 33 (.tmp 4) rfl (w.heap.size + 1 + 1) rfl 33 (Pk.v (pkI 11 i) noS noS) (0, 0) _ ?_ Tryd.underlying33 rfl (pk_size _ _ _) ?_; exact P.out.p)
    | (refine wpList_store_row rfl 33 (.tmp 2) (.tmp 136) rfl (w.heap.size + 1) (Pk.v (pkI 11 i) noS noS) rfl rfl 33 (Z 0) ?_ (pk_size _ _ _) rfl (pk_one _ _ _ rfl rfl) ?_; exact P.out.r))
  exact told_end (P := (pkI 11 i)) (m := E) U.out rfl rfl (no_fis _ _) (no_ints _ _)
set_option maxRecDepth 100000 in
set_option maxHeartbeats 4000000 in
theorem told_8 (f n : Int) (s : ByteArray) (w : World) (hs : s.size ≤ 140737488351232) : Calls Tryd.prog 19 #[.agg #[.int .i64 8, .int .i64 f, .int .i64 n, .string s]] w (PkP (pkF 8 (ofV (txtL s) false).1 (ofV (txtL s) false).2.1) (ofV (txtL s) false).2.2 w) := by
  have P0 := Lib.hid (QR.start w 8 f n s)
  have C := Lib.hid (fun W => of13_any s false W hs)
  generalize ofV (txtL s) false = R at *
  obtain ⟨i, l, E⟩ := R
  dsimp only
  have A0 := Lib.hid (new_row w 8 f n s)
  have A1 := Lib.hid (new_set w 8 f n s)
  go_enter Tryd.func19, Tryd.ntmps19
  go_wp2_with (refine wpList_store_row rfl 33 (.tmp 4) (.tmp 28) rfl (w.heap.size + 1 + 1) #[.int .i64 8, .int .i64 0, .bool false, .string ⟨#[]⟩, .string ⟨#[]⟩, .int .i64 0, .bool false, .int .i64 0, .bool false, .int .i64 0, .string ⟨#[]⟩, .bool false, .string ⟨#[]⟩, .string ⟨#[]⟩, .int .i64 0, .bool false, .bool false, .string ⟨#[]⟩, .bool false, .string ⟨#[]⟩, .bool false, .int .i64 0, .slice none 0 0, .slice none 0 0] rfl rfl 33 #[.int .i64 0, .int .i64 0, .bool false, .string ⟨#[]⟩, .string ⟨#[]⟩, .int .i64 0, .bool false, .int .i64 0, .bool false, .int .i64 0, .string ⟨#[]⟩, .bool false, .string ⟨#[]⟩, .string ⟨#[]⟩, .int .i64 0, .bool false, .bool false, .string ⟨#[]⟩, .bool false, .string ⟨#[]⟩, .bool false, .int .i64 0, .slice none 0 0, .slice none 0 0] ?_ (lit_size _) rfl (lit_one _) ?_; exact A0.out; rw [A1.out])
  refine (C.out _).mono ?_
  rintro e w2 ⟨v, rfl, ⟨hv, hf⟩, b⟩
  have p := P0.out.ext b
  clear A0 A1
  have P1 : QR w _ f n s (Pk.v (pkF 8 i l) v noS) _ := (p.set 1 (.int .i64 i)).set 22 v
  have P := Lib.hid P1
  have U := Lib.hid (P1.put (Pk.v (pkF 8 i l) v noS))
  have d1 : w2.cell? ⟨w.heap.size + 1 + 1, 1, none⟩ = some (.int .i64 0) := p.p.cell 1
  have d2 : w2.cell? ⟨w.heap.size + 1 + 1, 22, none⟩ = some (.slice none 0 0) := p.p.cell 22
  have fz := fun i => p.p.fz i
  have F1 := (((But.refl (w.heap.size + 1 + 1) w2).set 1 (.int .i64 i)).set 22 v).fis hv hf (by simp)
  have FF := Lib.hid (⟨(but_setRow (But.refl (w.heap.size + 1) _) (Pk.v (pkF 8 i l) v noS)).fis F1 hf (by simp), Fresh.le hf (by simp; omega)⟩ : FisAt _ _ _ ∧ Fresh w.heap.size v)
  have V1 := Lib.hid (fis_one hv)
  obtain ⟨va, vc, rfl, -, -⟩ := hv
  clear p b P0 C P1 hf F1
  go_wp2_with (first
    | (refine wpList_load_row rfl 33 (.tmp 4) rfl (w.heap.size + 1 + 1) rfl 33 (Pk.v (pkF 8 i l) (.slice va l.length vc) noS) (0, 0) _ ?_ Tryd.underlying33 rfl (pk_size _ _ _) ?_; exact P.out.p)
    | (refine wpList_store_row rfl 33 (.tmp 2) (.tmp 136) rfl (w.heap.size + 1) (Pk.v (pkF 8 i l) (.slice va l.length vc) noS) rfl rfl 33 (Z 0) ?_ (pk_size _ _ _) rfl (pk_one _ _ _ V1.out rfl) ?_; exact P.out.r))
  exact told_end (P := (pkF 8 i l)) (m := E) U.out rfl rfl FF.out (no_ints _ _)
set_option maxRecDepth 100000 in
set_option maxHeartbeats 4000000 in
theorem told_10 (f n : Int) (s : ByteArray) (w : World) (hs : s.size ≤ 140737488351232) : Calls Tryd.prog 19 #[.agg #[.int .i64 10, .int .i64 f, .int .i64 n, .string s]] w (PkP (pkF 10 (ofV (txtL s) true).1 (ofV (txtL s) true).2.1) (ofV (txtL s) true).2.2 w) := by
  have P0 := Lib.hid (QR.start w 10 f n s)
  have C := Lib.hid (fun W => of13_any s true W hs)
  generalize ofV (txtL s) true = R at *
  obtain ⟨i, l, E⟩ := R
  dsimp only
  have A0 := Lib.hid (new_row w 10 f n s)
  have A1 := Lib.hid (new_set w 10 f n s)
  go_enter Tryd.func19, Tryd.ntmps19
  go_wp2_with (refine wpList_store_row rfl 33 (.tmp 4) (.tmp 28) rfl (w.heap.size + 1 + 1) #[.int .i64 10, .int .i64 0, .bool false, .string ⟨#[]⟩, .string ⟨#[]⟩, .int .i64 0, .bool false, .int .i64 0, .bool false, .int .i64 0, .string ⟨#[]⟩, .bool false, .string ⟨#[]⟩, .string ⟨#[]⟩, .int .i64 0, .bool false, .bool false, .string ⟨#[]⟩, .bool false, .string ⟨#[]⟩, .bool false, .int .i64 0, .slice none 0 0, .slice none 0 0] rfl rfl 33 #[.int .i64 0, .int .i64 0, .bool false, .string ⟨#[]⟩, .string ⟨#[]⟩, .int .i64 0, .bool false, .int .i64 0, .bool false, .int .i64 0, .string ⟨#[]⟩, .bool false, .string ⟨#[]⟩, .string ⟨#[]⟩, .int .i64 0, .bool false, .bool false, .string ⟨#[]⟩, .bool false, .string ⟨#[]⟩, .bool false, .int .i64 0, .slice none 0 0, .slice none 0 0] ?_ (lit_size _) rfl (lit_one _) ?_; exact A0.out; rw [A1.out])
  refine (C.out _).mono ?_
  rintro e w2 ⟨v, rfl, ⟨hv, hf⟩, b⟩
  have p := P0.out.ext b
  clear A0 A1
  have P1 : QR w _ f n s (Pk.v (pkF 10 i l) v noS) _ := (p.set 1 (.int .i64 i)).set 22 v
  have P := Lib.hid P1
  have U := Lib.hid (P1.put (Pk.v (pkF 10 i l) v noS))
  have d1 : w2.cell? ⟨w.heap.size + 1 + 1, 1, none⟩ = some (.int .i64 0) := p.p.cell 1
  have d2 : w2.cell? ⟨w.heap.size + 1 + 1, 22, none⟩ = some (.slice none 0 0) := p.p.cell 22
  have fz := fun i => p.p.fz i
  have F1 := (((But.refl (w.heap.size + 1 + 1) w2).set 1 (.int .i64 i)).set 22 v).fis hv hf (by simp)
  have FF := Lib.hid (⟨(but_setRow (But.refl (w.heap.size + 1) _) (Pk.v (pkF 10 i l) v noS)).fis F1 hf (by simp), Fresh.le hf (by simp; omega)⟩ : FisAt _ _ _ ∧ Fresh w.heap.size v)
  have V1 := Lib.hid (fis_one hv)
  obtain ⟨va, vc, rfl, -, -⟩ := hv
  clear p b P0 C P1 hf F1
  go_wp2_with (first
    | (refine wpList_load_row rfl 33 (.tmp 4) rfl (w.heap.size + 1 + 1) rfl 33 (Pk.v (pkF 10 i l) (.slice va l.length vc) noS) (0, 0) _ ?_ Tryd.underlying33 rfl (pk_size _ _ _) ?_; exact P.out.p)
    | (refine wpList_store_row rfl 33 (.tmp 2) (.tmp 136) rfl (w.heap.size + 1) (Pk.v (pkF 10 i l) (.slice va l.length vc) noS) rfl rfl 33 (Z 0) ?_ (pk_size _ _ _) rfl (pk_one _ _ _ V1.out rfl) ?_; exact P.out.r))
  exact told_end (P := (pkF 10 i l)) (m := E) U.out rfl rfl FF.out (no_ints _ _)
set_option maxRecDepth 100000 in
set_option maxHeartbeats 4000000 in
theorem told_9 (f n : Int) (s : ByteArray) (w : World) (hs : s.size ≤ 140737488351232) : Calls Tryd.prog 19 #[.agg #[.int .i64 9, .int .i64 f, .int .i64 n, .string s]] w (PkP (pkS 9 (ofAckV (txtL s)).1 (ofAckV (txtL s)).2.1) (ofAckV (txtL s)).2.2 w) := by
  have P0 := Lib.hid (QR.start w 9 f n s)
  have C := Lib.hid (fun W => ofack18_any s W hs)
  generalize ofAckV (txtL s) = R at *
  obtain ⟨i, l, E⟩ := R
  dsimp only
  have A0 := Lib.hid (new_row w 9 f n s)
  have A1 := Lib.hid (new_set w 9 f n s)
  go_enter Tryd.func19, Tryd.ntmps19
  go_wp2_with (refine wpList_store_row rfl 33 (.tmp 4) (.tmp 28) rfl (w.heap.size + 1 + 1) #[.int .i64 9, .int .i64 0, .bool false, .string ⟨#[]⟩, .string ⟨#[]⟩, .int .i64 0, .bool false, .int .i64 0, .bool false, .int .i64 0, .string ⟨#[]⟩, .bool false, .string ⟨#[]⟩, .string ⟨#[]⟩, .int .i64 0, .bool false, .bool false, .string ⟨#[]⟩, .bool false, .string ⟨#[]⟩, .bool false, .int .i64 0, .slice none 0 0, .slice none 0 0] rfl rfl 33 #[.int .i64 0, .int .i64 0, .bool false, .string ⟨#[]⟩, .string ⟨#[]⟩, .int .i64 0, .bool false, .int .i64 0, .bool false, .int .i64 0, .string ⟨#[]⟩, .bool false, .string ⟨#[]⟩, .string ⟨#[]⟩, .int .i64 0, .bool false, .bool false, .string ⟨#[]⟩, .bool false, .string ⟨#[]⟩, .bool false, .int .i64 0, .slice none 0 0, .slice none 0 0] ?_ (lit_size _) rfl (lit_one _) ?_; exact A0.out; rw [A1.out])
  refine (C.out _).mono ?_
  rintro e w2 ⟨v, rfl, ⟨hv, hf⟩, b⟩
  have p := P0.out.ext b
  clear A0 A1
  have P1 : QR w _ f n s (Pk.v (pkS 9 i l) noS v) _ := (p.set 1 (.int .i64 i)).set 23 v
  have P := Lib.hid P1
  have U := Lib.hid (P1.put (Pk.v (pkS 9 i l) noS v))
  have d1 : w2.cell? ⟨w.heap.size + 1 + 1, 1, none⟩ = some (.int .i64 0) := p.p.cell 1
  have d2 : w2.cell? ⟨w.heap.size + 1 + 1, 23, none⟩ = some (.slice none 0 0) := p.p.cell 23
  have fz := fun i => p.p.fz i
  have F1 := (((But.refl (w.heap.size + 1 + 1) w2).set 1 (.int .i64 i)).set 23 v).ints hv hf (by simp)
  have FF := Lib.hid (⟨(but_setRow (But.refl (w.heap.size + 1) _) (Pk.v (pkS 9 i l) noS v)).ints F1 hf (by simp), Fresh.le hf (by simp; omega)⟩ : IntsAt _ _ _ ∧ Fresh w.heap.size v)
  have V1 := Lib.hid (ints_one hv)
  obtain ⟨va, vc, rfl, -, -⟩ := hv
  clear p b P0 C P1 hf F1
  go_wp2_with (first
    | (refine wpList_load_row rfl 33 (.tmp 4) rfl (w.heap.size + 1 + 1) rfl 33 (Pk.v (pkS 9 i l) noS (.slice va l.length vc)) (0, 0) _ ?_ Tryd.underlying33 rfl (pk_size _ _ _) ?_; exact P.out.p)
    | (refine wpList_store_row rfl 33 (.tmp 2) (.tmp 136) rfl (w.heap.size + 1) (Pk.v (pkS 9 i l) noS (.slice va l.length vc)) rfl rfl 33 (Z 0) ?_ (pk_size _ _ _) rfl (pk_one _ _ _ rfl V1.out) ?_; exact P.out.r))
  exact told_end (P := (pkS 9 i l)) (m := E) U.out rfl rfl (no_fis _ _) FF.out
set_option maxRecDepth 100000 in
set_option maxHeartbeats 4000000 in
theorem told_12z (f n : Int) (w : World) : Calls Tryd.prog 19 #[.agg #[.int .i64 12, .int .i64 f, .int .i64 n, .string ⟨#[]⟩]] w (PkP (pk0 12) 0 w) := by
  have P0 : QR w 12 f n ⟨#[]⟩ #[.int .i64 12, .int .i64 0, .bool false, .string ⟨#[]⟩, .string ⟨#[]⟩, .int .i64 0, .bool false, .int .i64 0, .bool false, .int .i64 0, .string ⟨#[]⟩, .bool false, .string ⟨#[]⟩, .string ⟨#[]⟩, .int .i64 0, .bool false, .bool false, .string ⟨#[]⟩, .bool false, .string ⟨#[]⟩, .bool false, .int .i64 0, .slice none 0 0, .slice none 0 0] (((w.alloc (.cells #[.int .i64 12, .int .i64 f, .int .i64 n, .string ⟨#[]⟩] 25)).alloc (.cells #[.int .i64 0, .int .i64 0, .bool false, .string ⟨#[]⟩, .string ⟨#[]⟩, .int .i64 0, .bool false, .int .i64 0, .bool false, .int .i64 0, .string ⟨#[]⟩, .bool false, .string ⟨#[]⟩, .string ⟨#[]⟩, .int .i64 0, .bool false, .bool false, .string ⟨#[]⟩, .bool false, .string ⟨#[]⟩, .bool false, .int .i64 0, .slice none 0 0, .slice none 0 0] 33)).alloc (.cells #[.int .i64 12, .int .i64 0, .bool false, .string ⟨#[]⟩, .string ⟨#[]⟩, .int .i64 0, .bool false, .int .i64 0, .bool false, .int .i64 0, .string ⟨#[]⟩, .bool false, .string ⟨#[]⟩, .string ⟨#[]⟩, .int .i64 0, .bool false, .bool false, .string ⟨#[]⟩, .bool false, .string ⟨#[]⟩, .bool false, .int .i64 0, .slice none 0 0, .slice none 0 0] 33)) := QR.start w 12 f n ⟨#[]⟩
  have P := Lib.hid P0
  have U := Lib.hid (P0.put #[.int .i64 12, .int .i64 0, .bool false, .string ⟨#[]⟩, .string ⟨#[]⟩, .int .i64 0, .bool false, .int .i64 0, .bool false, .int .i64 0, .string ⟨#[]⟩, .bool false, .string ⟨#[]⟩, .string ⟨#[]⟩, .int .i64 0, .bool false, .bool false, .string ⟨#[]⟩, .bool false, .string ⟨#[]⟩, .bool false, .int .i64 0, .slice none 0 0, .slice none 0 0])
  clear P0
  have A0 := Lib.hid (new_row w 12 f n ⟨#[]⟩)
  have A1 := Lib.hid (new_set w 12 f n ⟨#[]⟩)
  go_enter Tryd.func19, Tryd.ntmps19
  go_wp2_with (first
    | (refine wpList_store_row rfl 33 (.tmp 4) (.tmp 28) rfl (w.heap.size + 1 + 1) #[.int .i64 12, .int .i64 0, .bool false, .string ⟨#[]⟩, .string ⟨#[]⟩, .int .i64 0, .bool false, .int .i64 0, .bool false, .int .i64 0, .string ⟨#[]⟩, .bool false, .string ⟨#[]⟩, .string ⟨#[]⟩, .int .i64 0, .bool false, .bool false, .string ⟨#[]⟩, .bool false, .string ⟨#[]⟩, .bool false, .int .i64 0, .slice none 0 0, .slice none 0 0] rfl rfl 33 #[.int .i64 0, .int .i64 0, .bool false, .string ⟨#[]⟩, .string ⟨#[]⟩, .int .i64 0, .bool false, .int .i64 0, .bool false, .int .i64 0, .string ⟨#[]⟩, .bool false, .string ⟨#[]⟩, .string ⟨#[]⟩, .int .i64 0, .bool false, .bool false, .string ⟨#[]⟩, .bool false, .string ⟨#[]⟩, .bool false, .int .i64 0, .slice none 0 0, .slice none 0 0] ?_ (lit_size _) rfl (lit_one _) ?_; exact A0.out; rw [A1.out])
    | (refine wpList_load_row rfl 33 (.tmp 4) rfl (w.heap.size + 1 + 1) rfl 33 #[.int .i64 12, .int .i64 0, .bool false, .string ⟨#[]⟩, .string ⟨#[]⟩, .int .i64 0, .bool false, .int .i64 0, .bool false, .int .i64 0, .string ⟨#[]⟩, .bool false, .string ⟨#[]⟩, .string ⟨#[]⟩, .int .i64 0, .bool false, .bool false, .string ⟨#[]⟩, .bool false, .string ⟨#[]⟩, .bool false, .int .i64 0, .slice none 0 0, .slice none 0 0] (0, 0) _ ?_ Tryd.underlying33 rfl (lit_size _) ?_; exact P.out.p)
    | (refine wpList_store_row rfl 33 (.tmp 2) (.tmp 136) rfl (w.heap.size + 1) #[.int .i64 12, .int .i64 0, .bool false, .string ⟨#[]⟩, .string ⟨#[]⟩, .int .i64 0, .bool false, .int .i64 0, .bool false, .int .i64 0, .string ⟨#[]⟩, .bool false, .string ⟨#[]⟩, .string ⟨#[]⟩, .int .i64 0, .bool false, .bool false, .string ⟨#[]⟩, .bool false, .string ⟨#[]⟩, .bool false, .int .i64 0, .slice none 0 0, .slice none 0 0] rfl rfl 33 #[.int .i64 0, .int .i64 0, .bool false, .string ⟨#[]⟩, .string ⟨#[]⟩, .int .i64 0, .bool false, .int .i64 0, .bool false, .int .i64 0, .string ⟨#[]⟩, .bool false, .string ⟨#[]⟩, .string ⟨#[]⟩, .int .i64 0, .bool false, .bool false, .string ⟨#[]⟩, .bool false, .string ⟨#[]⟩, .bool false, .int .i64 0, .slice none 0 0, .slice none 0 0] ?_ (lit_size _) rfl (lit_one _) ?_; exact P.out.r))
  exact told_end (P := pk0 12) (fs := noS) (cs := noS) (m := 0) U.out rfl rfl (no_fis _ _) (no_ints _ _)
set_option maxRecDepth 100000 in
set_option maxHeartbeats 4000000 in
theorem told_12n (f n : Int) (s : ByteArray) (hz : s ≠ ⟨#[]⟩) (w : World) : Calls Tryd.prog 19 #[.agg #[.int .i64 12, .int .i64 f, .int .i64 n, .string s]] w (PkP (pk0 12) 4 w) := by
  have P0 : QR w 12 f n s #[.int .i64 12, .int .i64 0, .bool false, .string ⟨#[]⟩, .string ⟨#[]⟩, .int .i64 0, .bool false, .int .i64 0, .bool false, .int .i64 0, .string ⟨#[]⟩, .bool false, .string ⟨#[]⟩, .string ⟨#[]⟩, .int .i64 0, .bool false, .bool false, .string ⟨#[]⟩, .bool false, .string ⟨#[]⟩, .bool false, .int .i64 0, .slice none 0 0, .slice none 0 0] (((w.alloc (.cells #[.int .i64 12, .int .i64 f, .int .i64 n, .string s] 25)).alloc (.cells #[.int .i64 0, .int .i64 0, .bool false, .string ⟨#[]⟩, .string ⟨#[]⟩, .int .i64 0, .bool false, .int .i64 0, .bool false, .int .i64 0, .string ⟨#[]⟩, .bool false, .string ⟨#[]⟩, .string ⟨#[]⟩, .int .i64 0, .bool false, .bool false, .string ⟨#[]⟩, .bool false, .string ⟨#[]⟩, .bool false, .int .i64 0, .slice none 0 0, .slice none 0 0] 33)).alloc (.cells #[.int .i64 12, .int .i64 0, .bool false, .string ⟨#[]⟩, .string ⟨#[]⟩, .int .i64 0, .bool false, .int .i64 0, .bool false, .int .i64 0, .string ⟨#[]⟩, .bool false, .string ⟨#[]⟩, .string ⟨#[]⟩, .int .i64 0, .bool false, .bool false, .string ⟨#[]⟩, .bool false, .string ⟨#[]⟩, .bool false, .int .i64 0, .slice none 0 0, .slice none 0 0] 33)) := QR.start w 12 f n s
  have P := Lib.hid P0
  have U := Lib.hid (P0.put #[.int .i64 12, .int .i64 0, .bool false, .string ⟨#[]⟩, .string ⟨#[]⟩, .int .i64 0, .bool false, .int .i64 0, .bool false, .int .i64 0, .string ⟨#[]⟩, .bool false, .string ⟨#[]⟩, .string ⟨#[]⟩, .int .i64 0, .bool false, .bool false, .string ⟨#[]⟩, .bool false, .string ⟨#[]⟩, .bool false, .int .i64 0, .slice none 0 0, .slice none 0 0])
  clear P0
  have hz' : (!s.toList.isEmpty) = true := not_empty hz
  replace hz := Lib.hid hz
  have A0 := Lib.hid (new_row w 12 f n s)
  have A1 := Lib.hid (new_set w 12 f n s)
  go_enter Tryd.func19, Tryd.ntmps19
  go_wp2_with (first
    | (refine wpList_store_row rfl 33 (.tmp 4) (.tmp 28) rfl (w.heap.size + 1 + 1) #[.int .i64 12, .int .i64 0, .bool false, .string ⟨#[]⟩, .string ⟨#[]⟩, .int .i64 0, .bool false, .int .i64 0, .bool false, .int .i64 0, .string ⟨#[]⟩, .bool false, .string ⟨#[]⟩, .string ⟨#[]⟩, .int .i64 0, .bool false, .bool false, .string ⟨#[]⟩, .bool false, .string ⟨#[]⟩, .bool false, .int .i64 0, .slice none 0 0, .slice none 0 0] rfl rfl 33 #[.int .i64 0, .int .i64 0, .bool false, .string ⟨#[]⟩, .string ⟨#[]⟩, .int .i64 0, .bool false, .int .i64 0, .bool false, .int .i64 0, .string ⟨#[]⟩, .bool false, .string ⟨#[]⟩, .string ⟨#[]⟩, .int .i64 0, .bool false, .bool false, .string ⟨#[]⟩, .bool false, .string ⟨#[]⟩, .bool false, .int .i64 0, .slice none 0 0, .slice none 0 0] ?_ (lit_size _) rfl (lit_one _) ?_; exact A0.out; rw [A1.out])
    | (refine wpList_load_row rfl 33 (.tmp 4) rfl (w.heap.size + 1 + 1) rfl 33 #[.int .i64 12, .int .i64 0, .bool false, .string ⟨#[]⟩, .string ⟨#[]⟩, .int .i64 0, .bool false, .int .i64 0, .bool false, .int .i64 0, .string ⟨#[]⟩, .bool false, .string ⟨#[]⟩, .string ⟨#[]⟩, .int .i64 0, .bool false, .bool false, .string ⟨#[]⟩, .bool false, .string ⟨#[]⟩, .bool false, .int .i64 0, .slice none 0 0, .slice none 0 0] (0, 0) _ ?_ Tryd.underlying33 rfl (lit_size _) ?_; exact P.out.p)
    | (refine wpList_store_row rfl 33 (.tmp 2) (.tmp 136) rfl (w.heap.size + 1) #[.int .i64 12, .int .i64 0, .bool false, .string ⟨#[]⟩, .string ⟨#[]⟩, .int .i64 0, .bool false, .int .i64 0, .bool false, .int .i64 0, .string ⟨#[]⟩, .bool false, .string ⟨#[]⟩, .string ⟨#[]⟩, .int .i64 0, .bool false, .bool false, .string ⟨#[]⟩, .bool false, .string ⟨#[]⟩, .bool false, .int .i64 0, .slice none 0 0, .slice none 0 0] rfl rfl 33 #[.int .i64 0, .int .i64 0, .bool false, .string ⟨#[]⟩, .string ⟨#[]⟩, .int .i64 0, .bool false, .int .i64 0, .bool false, .int .i64 0, .string ⟨#[]⟩, .bool false, .string ⟨#[]⟩, .string ⟨#[]⟩, .int .i64 0, .bool false, .bool false, .string ⟨#[]⟩, .bool false, .string ⟨#[]⟩, .bool false, .int .i64 0, .slice none 0 0, .slice none 0 0] ?_ (lit_size _) rfl (lit_one _) ?_; exact P.out.r))
  exact told_end (P := pk0 12) (fs := noS) (cs := noS) (m := 4) U.out rfl rfl (no_fis _ _) (no_ints _ _)
set_option maxRecDepth 100000 in
set_option maxHeartbeats 4000000 in
theorem told_13z (f n : Int) (w : World) : Calls Tryd.prog 19 #[.agg #[.int .i64 13, .int .i64 f, .int .i64 n, .string ⟨#[]⟩]] w (PkP (pk0 13) 0 w) := by
  have P0 : QR w 13 f n ⟨#[]⟩ #[.int .i64 13, .int .i64 0, .bool false, .string ⟨#[]⟩, .string ⟨#[]⟩, .int .i64 0, .bool false, .int .i64 0, .bool false, .int .i64 0, .string ⟨#[]⟩, .bool false, .string ⟨#[]⟩, .string ⟨#[]⟩, .int .i64 0, .bool false, .bool false, .string ⟨#[]⟩, .bool false, .string ⟨#[]⟩, .bool false, .int .i64 0, .slice none 0 0, .slice none 0 0] (((w.alloc (.cells #[.int .i64 13, .int .i64 f, .int .i64 n, .string ⟨#[]⟩] 25)).alloc (.cells #[.int .i64 0, .int .i64 0, .bool false, .string ⟨#[]⟩, .string ⟨#[]⟩, .int .i64 0, .bool false, .int .i64 0, .bool false, .int .i64 0, .string ⟨#[]⟩, .bool false, .string ⟨#[]⟩, .string ⟨#[]⟩, .int .i64 0, .bool false, .bool false, .string ⟨#[]⟩, .bool false, .string ⟨#[]⟩, .bool false, .int .i64 0, .slice none 0 0, .slice none 0 0] 33)).alloc (.cells #[.int .i64 13, .int .i64 0, .bool false, .string ⟨#[]⟩, .string ⟨#[]⟩, .int .i64 0, .bool false, .int .i64 0, .bool false, .int .i64 0, .string ⟨#[]⟩, .bool false, .string ⟨#[]⟩, .string ⟨#[]⟩, .int .i64 0, .bool false, .bool false, .string ⟨#[]⟩, .bool false, .string ⟨#[]⟩, .bool false, .int .i64 0, .slice none 0 0, .slice none 0 0] 33)) := QR.start w 13 f n ⟨#[]⟩
  have P := Lib.hid P0
  have U := Lib.hid (P0.put #[.int .i64 13, .int .i64 0, .bool false, .string ⟨#[]⟩, .string ⟨#[]⟩, .int .i64 0, .bool false, .int .i64 0, .bool false, .int .i64 0, .string ⟨#[]⟩, .bool false, .string ⟨#[]⟩, .string ⟨#[]⟩, .int .i64 0, .bool false, .bool false, .string ⟨#[]⟩, .bool false, .string ⟨#[]⟩, .bool false, .int .i64 0, .slice none 0 0, .slice none 0 0])
  clear P0
  have A0 := Lib.hid (new_row w 13 f n ⟨#[]⟩)
  have A1 := Lib.hid (new_set w 13 f n ⟨#[]⟩)
  go_enter Tryd.func19, Tryd.ntmps19
  go_wp2_with (first
    | (refine wpList_store_row rfl 33 (.tmp 4) (.tmp 28) rfl (w.heap.size + 1 + 1) #[.int .i64 13, .int .i64 0, .bool false, .string ⟨#[]⟩, .string ⟨#[]⟩, .int .i64 0, .bool false, .int .i64 0, .bool false, .int .i64 0, .string ⟨#[]⟩, .bool false, .string ⟨#[]⟩, .string ⟨#[]⟩, .int .i64 0, .bool false, .bool false, .string ⟨#[]⟩, .bool false, .string ⟨#[]⟩, .bool false, .int .i64 0, .slice none 0 0, .slice none 0 0] rfl rfl 33 #[.int .i64 0, .int .i64 0, .bool false, .string ⟨#[]⟩, .string ⟨#[]⟩, .int .i64 0, .bool false, .int .i64 0, .bool false, .int .i64 0, .string ⟨#[]⟩, .bool false, .string ⟨#[]⟩, .string ⟨#[]⟩, .int .i64 0, .bool false, .bool false, .string ⟨#[]⟩, .bool false, .string ⟨#[]⟩, .bool false, .int .i64 0, .slice none 0 0, .slice none 0 0] ?_ (lit_size _) rfl (lit_one _) ?_; exact A0.out; rw [A1.out])
    | (refine wpList_load_row rfl 33 (.tmp 4) rfl (w.heap.size + 1 + 1) rfl 33 #[.int .i64 13, .int .i64 0, .bool false, .string ⟨#[]⟩, .string ⟨#[]⟩, .int .i64 0, .bool false, .int .i64 0, .bool false, .int .i64 0, .string ⟨#[]⟩, .bool false, .string ⟨#[]⟩, .string ⟨#[]⟩, .int .i64 0, .bool false, .bool false, .string ⟨#[]⟩, .bool false, .string ⟨#[]⟩, .bool false, .int .i64 0, .slice none 0 0, .slice none 0 0] (0, 0) _ ?_ Tryd.underlying33 rfl (lit_size _) ?_; exact P.out.p)
    | (refine wpList_store_row rfl 33 (.tmp 2) (.tmp 136) rfl (w.heap.size + 1) #[.int .i64 13, .int .i64 0, .bool false, .string ⟨#[]⟩, .string ⟨#[]⟩, .int .i64 0, .bool false, .int .i64 0, .bool false, .int .i64 0, .string ⟨#[]⟩, .bool false, .string ⟨#[]⟩, .string ⟨#[]⟩, .int .i64 0, .bool false, .bool false, .string ⟨#[]⟩, .bool false, .string ⟨#[]⟩, .bool false, .int .i64 0, .slice none 0 0, .slice none 0 0] rfl rfl 33 #[.int .i64 0, .int .i64 0, .bool false, .string ⟨#[]⟩, .string ⟨#[]⟩, .int .i64 0, .bool false, .int .i64 0, .bool false, .int .i64 0, .string ⟨#[]⟩, .bool false, .string ⟨#[]⟩, .string ⟨#[]⟩, .int .i64 0, .bool false, .bool false, .string ⟨#[]⟩, .bool false, .string ⟨#[]⟩, .bool false, .int .i64 0, .slice none 0 0, .slice none 0 0] ?_ (lit_size _) rfl (lit_one _) ?_; exact P.out.r))
  exact told_end (P := pk0 13) (fs := noS) (cs := noS) (m := 0) U.out rfl rfl (no_fis _ _) (no_ints _ _)
set_option maxRecDepth 100000 in
set_option maxHeartbeats 4000000 in
theorem told_13n (f n : Int) (s : ByteArray) (hz : s ≠ ⟨#[]⟩) (w : World) : Calls Tryd.prog 19 #[.agg #[.int .i64 13, .int .i64 f, .int .i64 n, .string s]] w (PkP (pk0 13) 4 w) := by
  have P0 : QR w 13 f n s #[.int .i64 13, .int .i64 0, .bool false, .string ⟨#[]⟩, .string ⟨#[]⟩, .int .i64 0, .bool false, .int .i64 0, .bool false, .int .i64 0, .string ⟨#[]⟩, .bool false, .string ⟨#[]⟩, .string ⟨#[]⟩, .int .i64 0, .bool false, .bool false, .string ⟨#[]⟩, .bool false, .string ⟨#[]⟩, .bool false, .int .i64 0, .slice none 0 0, .slice none 0 0] (((w.alloc (.cells #[.int .i64 13, .int .i64 f, .int .i64 n, .string s] 25)).alloc (.cells #[.int .i64 0, .int .i64 0, .bool false, .string ⟨#[]⟩, .string ⟨#[]⟩, .int .i64 0, .bool false, .int .i64 0, .bool false, .int .i64 0, .string ⟨#[]⟩, .bool false, .string ⟨#[]⟩, .string ⟨#[]⟩, .int .i64 0, .bool false, .bool false, .string ⟨#[]⟩, .bool false, .string ⟨#[]⟩, .bool false, .int .i64 0, .slice none 0 0, .slice none 0 0] 33)).alloc (.cells #[.int .i64 13, .int .i64 0, .bool false, .string ⟨#[]⟩, .string ⟨#[]⟩, .int .i64 0, .bool false, .int .i64 0, .bool false, .int .i64 0, .string ⟨#[]⟩, .bool false, .string ⟨#[]⟩, .string ⟨#[]⟩, .int .i64 0, .bool false, .bool false, .string ⟨#[]⟩, .bool false, .string ⟨#[]⟩, .bool false, .int .i64 0, .slice none 0 0, .slice none 0 0] 33)) := QR.start w 13 f n s
  have P := Lib.hid P0
  have U := Lib.hid (P0.put #[.int .i64 13, .int .i64 0, .bool false, .string ⟨#[]⟩, .string ⟨#[]⟩, .int .i64 0, .bool false, .int .i64 0, .bool false, .int .i64 0, .string ⟨#[]⟩, .bool false, .string ⟨#[]⟩, .string ⟨#[]⟩, .int .i64 0, .bool false, .bool false, .string ⟨#[]⟩, .bool false, .string ⟨#[]⟩, .bool false, .int .i64 0, .slice none 0 0, .slice none 0 0])
  clear P0
  have hz' : (!s.toList.isEmpty) = true := not_empty hz
  replace hz := Lib.hid hz
  have A0 := Lib.hid (new_row w 13 f n s)
  have A1 := Lib.hid (new_set w 13 f n s)
  go_enter Tryd.func19, Tryd.ntmps19
  go_wp2_with (first
    | (refine wpList_store_row rfl 33 (.tmp 4) (.tmp 28) rfl (w.heap.size + 1 + 1) #[.int .i64 13, .int .i64 0, .bool false, .string ⟨#[]⟩, .string ⟨#[]⟩, .int .i64 0, .bool false, .int .i64 0, .bool false, .int .i64 0, .string ⟨#[]⟩, .bool false, .string ⟨#[]⟩, .string ⟨#[]⟩, .int .i64 0, .bool false, .bool false, .string ⟨#[]⟩, .bool false, .string ⟨#[]⟩, .bool false, .int .i64 0, .slice none 0 0, .slice none 0 0] rfl rfl 33 #[.int .i64 0, .int .i64 0, .bool false, .string ⟨#[]⟩, .string ⟨#[]⟩, .int .i64 0, .bool false, .int .i64 0, .bool false, .int .i64 0, .string ⟨#[]⟩, .bool false, .string ⟨#[]⟩, .string ⟨#[]⟩, .int .i64 0, .bool false, .bool false, .string ⟨#[]⟩, .bool false, .string ⟨#[]⟩, .bool false, .int .i64 0, .slice none 0 0, .slice none 0 0] ?_ (lit_size _) rfl (lit_one _) ?_; exact A0.out; rw [A1.out])
    | (refine wpList_load_row rfl 33 (.tmp 4) rfl (w.heap.size + 1 + 1) rfl 33 #[.int .i64 13, .int .i64 0, .bool false, .string ⟨#[]⟩, .string ⟨#[]⟩, .int .i64 0, .bool false, .int .i64 0, .bool false, .int .i64 0, .string ⟨#[]⟩, .bool false, .string ⟨#[]⟩, .string ⟨#[]⟩, .int .i64 0, .bool false, .bool false, .string ⟨#[]⟩, .bool false, .string ⟨#[]⟩, .bool false, .int .i64 0, .slice none 0 0, .slice none 0 0] (0, 0) _ ?_ Tryd.underlying33 rfl (lit_size _) ?_; exact P.out.p)
    | (refine wpList_store_row rfl 33 (.tmp 2) (.tmp 136) rfl (w.heap.size + 1) #[.int .i64 13, .int .i64 0, .bool false, .string ⟨#[]⟩, .string ⟨#[]⟩, .int .i64 0, .bool false, .int .i64 0, .bool false, .int .i64 0, .string ⟨#[]⟩, .bool false, .string ⟨#[]⟩, .string ⟨#[]⟩, .int .i64 0, .bool false, .bool false, .string ⟨#[]⟩, .bool false, .string ⟨#[]⟩, .bool false, .int .i64 0, .slice none 0 0, .slice none 0 0] rfl rfl 33 #[.int .i64 0, .int .i64 0, .bool false, .string ⟨#[]⟩, .string ⟨#[]⟩, .int .i64 0, .bool false, .int .i64 0, .bool false, .int .i64 0, .string ⟨#[]⟩, .bool false, .string ⟨#[]⟩, .string ⟨#[]⟩, .int .i64 0, .bool false, .bool false, .string ⟨#[]⟩, .bool false, .string ⟨#[]⟩, .bool false, .int .i64 0, .slice none 0 0, .slice none 0 0] ?_ (lit_size _) rfl (lit_one _) ?_; exact P.out.r))
  exact told_end (P := pk0 13) (fs := noS) (cs := noS) (m := 4) U.out rfl rfl (no_fis _ _) (no_ints _ _)
set_option maxRecDepth 100000 in
set_option maxHeartbeats 4000000 in
theorem told_14z (f n : Int) (w : World) : Calls Tryd.prog 19 #[.agg #[.int .i64 14, .int .i64 f, .int .i64 n, .string ⟨#[]⟩]] w (PkP (pk0 14) 0 w) := by
  have P0 : QR w 14 f n ⟨#[]⟩ #[.int .i64 14, .int .i64 0, .bool false, .string ⟨#[]⟩, .string ⟨#[]⟩, .int .i64 0, .bool false, .int .i64 0, .bool false, .int .i64 0, .string ⟨#[]⟩, .bool false, .string ⟨#[]⟩, .string ⟨#[]⟩, .int .i64 0, .bool false, .bool false, .string ⟨#[]⟩, .bool false, .string ⟨#[]⟩, .bool false, .int .i64 0, .slice none 0 0, .slice none 0 0] (((w.alloc (.cells #[.int .i64 14, .int .i64 f, .int .i64 n, .string ⟨#[]⟩] 25)).alloc (.cells #[.int .i64 0, .int .i64 0, .bool false, .string ⟨#[]⟩, .string ⟨#[]⟩, .int .i64 0, .bool false, .int .i64 0, .bool false, .int .i64 0, .string ⟨#[]⟩, .bool false, .string ⟨#[]⟩, .string ⟨#[]⟩, .int .i64 0, .bool false, .bool false, .string ⟨#[]⟩, .bool false, .string ⟨#[]⟩, .bool false, .int .i64 0, .slice none 0 0, .slice none 0 0] 33)).alloc (.cells #[.int .i64 14, .int .i64 0, .bool false, .string ⟨#[]⟩, .string ⟨#[]⟩, .int .i64 0, .bool false, .int .i64 0, .bool false, .int .i64 0, .string ⟨#[]⟩, .bool false, .string ⟨#[]⟩, .string ⟨#[]⟩, .int .i64 0, .bool false, .bool false, .string ⟨#[]⟩, .bool false, .string ⟨#[]⟩, .bool false, .int .i64 0, .slice none 0 0, .slice none 0 0] 33)) := QR.start w 14 f n ⟨#[]⟩
  have P := Lib.hid P0
  have U := Lib.hid (P0.put #[.int .i64 14, .int .i64 0, .bool false, .string ⟨#[]⟩, .string ⟨#[]⟩, .int .i64 0, .bool false, .int .i64 0, .bool false, .int .i64 0, .string ⟨#[]⟩, .bool false, .string ⟨#[]⟩, .string ⟨#[]⟩, .int .i64 0, .bool false, .bool false, .string ⟨#[]⟩, .bool false, .string ⟨#[]⟩, .bool false, .int .i64 0, .slice none 0 0, .slice none 0 0])
  clear P0
  have A0 := Lib.hid (new_row w 14 f n ⟨#[]⟩)
  have A1 := Lib.hid (new_set w 14 f n ⟨#[]⟩)
  go_enter Tryd.func19, Tryd.ntmps19
  go_wp2_with (first
    | (refine wpList_store_row rfl 33 (.tmp 4) (.tmp 28) rfl (w.heap.size + 1 + 1) #[.int .i64 14, .int .i64 0, .bool false, .string ⟨#[]⟩, .string ⟨#[]⟩, .int .i64 0, .bool false, .int .i64 0, .bool false, .int .i64 0, .string ⟨#[]⟩, .bool false, .string ⟨#[]⟩, .string ⟨#[]⟩, .int .i64 0, .bool false, .bool false, .string ⟨#[]⟩, .bool false, .string ⟨#[]⟩, .bool false, .int .i64 0, .slice none 0 0, .slice none 0 0] rfl rfl 33 #[.int .i64 0, .int .i64 0, .bool false, .string ⟨#[]⟩, .string ⟨#[]⟩, .int .i64 0, .bool false, .int .i64 0, .bool false, .int .i64 0, .string ⟨#[]⟩, .bool false, .string ⟨#[]⟩, .string ⟨#[]⟩, .int .i64 0, .bool false, .bool false, .string ⟨#[]⟩, .bool false, .string ⟨#[]⟩, .bool false, .int .i64 0, .slice none 0 0, .slice none 0 0] ?_ (lit_size _) rfl (lit_one _) ?_; exact A0.out; rw [A1.out])
    | (refine wpList_load_row rfl 33 (.tmp 4) rfl (w.heap.size + 1 + 1) rfl 33 #[.int .i64 14, .int .i64 0, .bool false, .string ⟨#[]⟩, .string ⟨#[]⟩, .int .i64 0, .bool false, .int .i64 0, .bool false, .int .i64 0, .string ⟨#[]⟩, .bool false, .string ⟨#[]⟩, .string ⟨#[]⟩, .int .i64 0, .bool false, .bool false, .string ⟨#[]⟩, .bool false, .string ⟨#[]⟩, .bool false, .int .i64 0, .slice none 0 0, .slice none 0 0] (0, 0) _ ?_ Tryd.underlying33 rfl (lit_size _) ?_; exact P.out.p)
    | (refine wpList_store_row rfl 33 (.tmp 2) (.tmp 136) rfl (w.heap.size + 1) #[.int .i64 14, .int .i64 0, .bool false, .string ⟨#[]⟩, .string ⟨#[]⟩, .int .i64 0, .bool false, .int .i64 0, .bool false, .int .i64 0, .string ⟨#[]⟩, .bool false, .string ⟨#[]⟩, .string ⟨#[]⟩, .int .i64 0, .bool false, .bool false, .string ⟨#[]⟩, .bool false, .string ⟨#[]⟩, .bool false, .int .i64 0, .slice none 0 0, .slice none 0 0] rfl rfl 33 #[.int .i64 0, .int .i64 0, .bool false, .string ⟨#[]⟩, .string ⟨#[]⟩, .int .i64 0, .bool false, .int .i64 0, .bool false, .int .i64 0, .string ⟨#[]⟩, .bool false, .string ⟨#[]⟩, .string ⟨#[]⟩, .int .i64 0, .bool false, .bool false, .string ⟨#[]⟩, .bool false, .string ⟨#[]⟩, .bool false, .int .i64 0, .slice none 0 0, .slice none 0 0] ?_ (lit_size _) rfl (lit_one _) ?_; exact P.out.r))
  exact told_end (P := pk0 14) (fs := noS) (cs := noS) (m := 0) U.out rfl rfl (no_fis _ _) (no_ints _ _)
set_option maxRecDepth 100000 in
set_option maxHeartbeats 4000000 in
theorem told_14n (f n : Int) (s : ByteArray) (hz : s ≠ ⟨#[]⟩) (w : World) : Calls Tryd.prog 19 #[.agg #[.int .i64 14, .int .i64 f, .int .i64 n, .string s]] w (PkP (pk0 14) 4 w) := by
  have P0 : QR w 14 f n s #[.int .i64 14, .int .i64 0, .bool false, .string ⟨#[]⟩, .string ⟨#[]⟩, .int .i64 0, .bool false, .int .i64 0, .bool false, .int .i64 0, .string ⟨#[]⟩, .bool false, .string ⟨#[]⟩, .string ⟨#[]⟩, .int .i64 0, .bool false, .bool false, .string ⟨#[]⟩, .bool false, .string ⟨#[]⟩, .bool false, .int .i64 0, .slice none 0 0, .slice none 0 0] (((w.alloc (.cells #[.int .i64 14, .int .i64 f, .int .i64 n, .string s] 25)).alloc (.cells #[.int .i64 0, .int .i64 0, .bool false, .string ⟨#[]⟩, .string ⟨#[]⟩, .int .i64 0, .bool false, .int .i64 0, .bool false, .int .i64 0, .string ⟨#[]⟩, .bool false, .string ⟨#[]⟩, .string ⟨#[]⟩, .int .i64 0, .bool false, .bool false, .string ⟨#[]⟩, .bool false, .string ⟨#[]⟩, .bool false, .int .i64 0, .slice none 0 0, .slice none 0 0] 33)).alloc (.cells #[.int .i64 14, .int .i64 0, .bool false, .string ⟨#[]⟩, .string ⟨#[]⟩, .int .i64 0, .bool false, .int .i64 0, .bool false, .int .i64 0, .string ⟨#[]⟩, .bool false, .string ⟨#[]⟩, .string ⟨#[]⟩, .int .i64 0, .bool false, .bool false, .string ⟨#[]⟩, .bool false, .string ⟨#[]⟩, .bool false, .int .i64 0, .slice none 0 0, .slice none 0 0] 33)) := QR.start w 14 f n s
  have P := Lib.hid P0
  have U := Lib.hid (P0.put #[.int .i64 14, .int .i64 0, .bool false, .string ⟨#[]⟩, .string ⟨#[]⟩, .int .i64 0, .bool false, .int .i64 0, .bool false, .int .i64 0, .string ⟨#[]⟩, .bool false, .string ⟨#[]⟩, .string ⟨#[]⟩, .int .i64 0, .bool false, .bool false, .string ⟨#[]⟩, .bool false, .string ⟨#[]⟩, .bool false, .int .i64 0, .slice none 0 0, .slice none 0 0])
  clear P0
  have hz' : (!s.toList.isEmpty) = true := not_empty hz
  replace hz := Lib.hid hz
  have A0 := Lib.hid (new_row w 14 f n s)
  have A1 := Lib.hid (new_set w 14 f n s)
  go_enter Tryd.func19, Tryd.ntmps19
  go_wp2_with (first
    | (refine wpList_store_row rfl 33 (.tmp 4) (.tmp 28) rfl (w.heap.size + 1 + 1) #[.int .i64 14, .int .i64 0, .bool false, .string ⟨#[]⟩, .string ⟨#[]⟩, .int .i64 0, .bool false, .int .i64 0, .bool false, .int .i64 0, .string ⟨#[]⟩, .bool false, .string ⟨#[]⟩, .string ⟨#[]⟩, .int .i64 0, .bool false, .bool false, .string ⟨#[]⟩, .bool false, .string ⟨#[]⟩, .bool false, .int .i64 0, .slice none 0 0, .slice none 0 0] rfl rfl 33 #[.int .i64 0, .int .i64 0, .bool false, .string ⟨#[]⟩, .string ⟨#[]⟩, .int .i64 0, .bool false, .int .i64 0, .bool false, .int .i64 0, .string ⟨#[]⟩, .bool false, .string ⟨#[]⟩, .string ⟨#[]⟩, .int .i64 0, .bool false, .bool false, .string ⟨#[]⟩, .bool false, .string ⟨#[]⟩, .bool false, .int .i64 0, .slice none 0 0, .slice none 0 0] ?_ (lit_size _) rfl (lit_one _) ?_; exact A0.out; rw [A1.out])
    | (refine wpList_load_row rfl 33 (.tmp 4) rfl (w.heap.size + 1 + 1) rfl 33 #[.int .i64 14, .int .i64 0, .bool false, .string ⟨#[]⟩, .string ⟨#[]⟩, .int .i64 0, .bool false, .int .i64 0, .bool false, .int .i64 0, .string ⟨#[]⟩, .bool false, .string ⟨#[]⟩, .string ⟨#[]⟩, .int .i64 0, .bool false, .bool false, .string ⟨#[]⟩, .bool false, .string ⟨#[]⟩, .bool false, .int .i64 0, .slice none 0 0, .slice none 0 0] (0, 0) _ ?_ Tryd.underlying33 rfl (lit_size _) ?_; exact P.out.p)
    | (refine wpList_store_row rfl 33 (.tmp 2) (.tmp 136) rfl (w.heap.size + 1) #[.int .i64 14, .int .i64 0, .bool false, .string ⟨#[]⟩, .string ⟨#[]⟩, .int .i64 0, .bool false, .int .i64 0, .bool false, .int .i64 0, .string ⟨#[]⟩, .bool false, .string ⟨#[]⟩, .string ⟨#[]⟩, .int .i64 0, .bool false, .bool false, .string ⟨#[]⟩, .bool false, .string ⟨#[]⟩, .bool false, .int .i64 0, .slice none 0 0, .slice none 0 0] rfl rfl 33 #[.int .i64 0, .int .i64 0, .bool false, .string ⟨#[]⟩, .string ⟨#[]⟩, .int .i64 0, .bool false, .int .i64 0, .bool false, .int .i64 0, .string ⟨#[]⟩, .bool false, .string ⟨#[]⟩, .string ⟨#[]⟩, .int .i64 0, .bool false, .bool false, .string ⟨#[]⟩, .bool false, .string ⟨#[]⟩, .bool false, .int .i64 0, .slice none 0 0, .slice none 0 0] ?_ (lit_size _) rfl (lit_one _) ?_; exact P.out.r))
  exact told_end (P := pk0 14) (fs := noS) (cs := noS) (m := 4) U.out rfl rfl (no_fis _ _) (no_ints _ _)
end Go.Proofs.YtmpklaokgogigaaDoor.Pac
