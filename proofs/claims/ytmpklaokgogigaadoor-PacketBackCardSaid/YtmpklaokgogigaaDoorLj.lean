/-
  LAYER 16: Clean, the program's: the other kinds.
-/
import Derived.Test.YtmpklaokgogigaaDoorLi
import Derived.Test.YtmpklaokgogigaaDoorLk
import Derived.Maps.AppendAt
import Derived.Lib.SliceRun
import Derived.StillTailTactics
namespace Go.Proofs.YtmpklaokgogigaaDoor.Pac
set_option linter.unusedVariables false
set_option linter.unusedSimpArgs false
open Go.Proofs.YtmpklaokgogigaaDoor
open Go.RowKit
theorem QC.grown {w W W' : World} {xs cs : Array Value} {v : Value} {n : Nat} {ys : List Value} (h : QC w xs cs W) (ho : W.ownsRow (w.heap.size + 1 + 1 + 1) 56 2 v n ys) (hB : w.heap.size + 1 + 1 + 1 ≤ W.heap.size) (hg : W.grownBy W' v.ownBlock) : QC w xs cs W' :=
  ⟨h.x.grown hg (own_ne ho (by omega)), h.r.grown hg (own_ne ho (by omega)), h.p.grown hg (own_ne ho (by omega)), h.bw.trans (((Below.refl _ W).grown hg hB (fun k hk => (ho.lt k hk).1)).mono (by omega))⟩
theorem QC.alloc {w W : World} {xs cs : Array Value} (h : QC w xs cs W) (o : Obj) : QC w xs cs (W.alloc o) := h.ext (ext_alloc W o)
theorem own_far_set {W : World} {B g i n : Nat} {v u : Value} {ys : List Value} (h : W.ownsRow B 56 2 v n ys) (hg : g < B) : (W.setCell ⟨g, i, none⟩ u).ownsRow B 56 2 v n ys := by
  refine ⟨h.1, h.2.imp id ?_⟩
  rintro ⟨b, cap, cur, hv, hb, hcur, rest⟩
  exact ⟨b, cap, cur, hv, hb, (heap_setCell_other W ⟨g, i, none⟩ b u (by simp; omega)).trans hcur, rest⟩
/-- A wish's text alone. -/
def stp0 (f : Fi) : Fi := ⟨f.t, 0⟩
set_option maxRecDepth 100000 in
set_option maxHeartbeats 4000000 in
theorem clean_2 (P : Pk) (f1 c1 : Value) (w : World) (hk : P.kind = 2) : Calls Tryd.prog 14 #[.agg (P.v f1 c1)] w (ClP (pkA 2 P.pres P.code) w) := by
  obtain ⟨kind, id, dup, t, x, q, r, ⟨x0, x1, x2, x3, x4, x5, x6, x7, x8, x9, x10, x11, x12⟩, pres, code, fl, cl⟩ := P
  simp only at hk
  subst hk
  have A0 := Lib.hid (cnew_row w (.cells #[.int .i64 2, .int .i64 id, .bool dup, .string t, .string x, .int .i64 q, .bool r, .int .i64 x0, .bool x1, .int .i64 x2, .string x3, .bool x4, .string x5, .string x6, .int .i64 x7, .bool x8, .bool x9, .string x10, .bool x11, .string x12, .bool pres, .int .i64 code, f1, c1] 33))
  have A1 := Lib.hid (cnew_set w (.cells #[.int .i64 2, .int .i64 id, .bool dup, .string t, .string x, .int .i64 q, .bool r, .int .i64 x0, .bool x1, .int .i64 x2, .string x3, .bool x4, .string x5, .string x6, .int .i64 x7, .bool x8, .bool x9, .string x10, .bool x11, .string x12, .bool pres, .int .i64 code, f1, c1] 33))
  have P0 : Hid (QC w #[.int .i64 2, .int .i64 id, .bool dup, .string t, .string x, .int .i64 q, .bool r, .int .i64 x0, .bool x1, .int .i64 x2, .string x3, .bool x4, .string x5, .string x6, .int .i64 x7, .bool x8, .bool x9, .string x10, .bool x11, .string x12, .bool pres, .int .i64 code, f1, c1] #[.int .i64 2, .int .i64 0, .bool false, .string ⟨#[]⟩, .string ⟨#[]⟩, .int .i64 0, .bool false, .int .i64 0, .bool false, .int .i64 0, .string ⟨#[]⟩, .bool false, .string ⟨#[]⟩, .string ⟨#[]⟩, .int .i64 0, .bool false, .bool false, .string ⟨#[]⟩, .bool false, .string ⟨#[]⟩, .bool false, .int .i64 0, .slice none 0 0, .slice none 0 0] (((w.alloc (.cells #[.int .i64 2, .int .i64 id, .bool dup, .string t, .string x, .int .i64 q, .bool r, .int .i64 x0, .bool x1, .int .i64 x2, .string x3, .bool x4, .string x5, .string x6, .int .i64 x7, .bool x8, .bool x9, .string x10, .bool x11, .string x12, .bool pres, .int .i64 code, f1, c1] 33)).alloc (.cells #[.int .i64 0, .int .i64 0, .bool false, .string ⟨#[]⟩, .string ⟨#[]⟩, .int .i64 0, .bool false, .int .i64 0, .bool false, .int .i64 0, .string ⟨#[]⟩, .bool false, .string ⟨#[]⟩, .string ⟨#[]⟩, .int .i64 0, .bool false, .bool false, .string ⟨#[]⟩, .bool false, .string ⟨#[]⟩, .bool false, .int .i64 0, .slice none 0 0, .slice none 0 0] 33)).alloc (.cells #[.int .i64 2, .int .i64 0, .bool false, .string ⟨#[]⟩, .string ⟨#[]⟩, .int .i64 0, .bool false, .int .i64 0, .bool false, .int .i64 0, .string ⟨#[]⟩, .bool false, .string ⟨#[]⟩, .string ⟨#[]⟩, .int .i64 0, .bool false, .bool false, .string ⟨#[]⟩, .bool false, .string ⟨#[]⟩, .bool false, .int .i64 0, .slice none 0 0, .slice none 0 0] 33))) := Lib.hid (QC.start w #[.int .i64 2, .int .i64 id, .bool dup, .string t, .string x, .int .i64 q, .bool r, .int .i64 x0, .bool x1, .int .i64 x2, .string x3, .bool x4, .string x5, .string x6, .int .i64 x7, .bool x8, .bool x9, .string x10, .bool x11, .string x12, .bool pres, .int .i64 code, f1, c1] 2)
  rw [show Pk.v ⟨2, id, dup, t, x, q, r, ⟨x0, x1, x2, x3, x4, x5, x6, x7, x8, x9, x10, x11, x12⟩, pres, code, fl, cl⟩ f1 c1 = #[.int .i64 2, .int .i64 id, .bool dup, .string t, .string x, .int .i64 q, .bool r, .int .i64 x0, .bool x1, .int .i64 x2, .string x3, .bool x4, .string x5, .string x6, .int .i64 x7, .bool x8, .bool x9, .string x10, .bool x11, .string x12, .bool pres, .int .i64 code, f1, c1] from rfl]
  go_enter Tryd.func14, Tryd.ntmps14
  go_wp2_with (refine wpList_store_row rfl 33 (.tmp 3) (.tmp 8) rfl (w.heap.size + 1 + 1) #[.int .i64 2, .int .i64 0, .bool false, .string ⟨#[]⟩, .string ⟨#[]⟩, .int .i64 0, .bool false, .int .i64 0, .bool false, .int .i64 0, .string ⟨#[]⟩, .bool false, .string ⟨#[]⟩, .string ⟨#[]⟩, .int .i64 0, .bool false, .bool false, .string ⟨#[]⟩, .bool false, .string ⟨#[]⟩, .bool false, .int .i64 0, .slice none 0 0, .slice none 0 0] rfl rfl 33 #[.int .i64 0, .int .i64 0, .bool false, .string ⟨#[]⟩, .string ⟨#[]⟩, .int .i64 0, .bool false, .int .i64 0, .bool false, .int .i64 0, .string ⟨#[]⟩, .bool false, .string ⟨#[]⟩, .string ⟨#[]⟩, .int .i64 0, .bool false, .bool false, .string ⟨#[]⟩, .bool false, .string ⟨#[]⟩, .bool false, .int .i64 0, .slice none 0 0, .slice none 0 0] ?_ (lit_size _) rfl (lit_one _) ?_; exact A0.out; rw [A1.out]; clear A0 A1; generalize ((w.alloc (.cells #[.int .i64 2, .int .i64 id, .bool dup, .string t, .string x, .int .i64 q, .bool r, .int .i64 x0, .bool x1, .int .i64 x2, .string x3, .bool x4, .string x5, .string x6, .int .i64 x7, .bool x8, .bool x9, .string x10, .bool x11, .string x12, .bool pres, .int .i64 code, f1, c1] 33)).alloc (.cells #[.int .i64 0, .int .i64 0, .bool false, .string ⟨#[]⟩, .string ⟨#[]⟩, .int .i64 0, .bool false, .int .i64 0, .bool false, .int .i64 0, .string ⟨#[]⟩, .bool false, .string ⟨#[]⟩, .string ⟨#[]⟩, .int .i64 0, .bool false, .bool false, .string ⟨#[]⟩, .bool false, .string ⟨#[]⟩, .bool false, .int .i64 0, .slice none 0 0, .slice none 0 0] 33)).alloc (.cells #[.int .i64 2, .int .i64 0, .bool false, .string ⟨#[]⟩, .string ⟨#[]⟩, .int .i64 0, .bool false, .int .i64 0, .bool false, .int .i64 0, .string ⟨#[]⟩, .bool false, .string ⟨#[]⟩, .string ⟨#[]⟩, .int .i64 0, .bool false, .bool false, .string ⟨#[]⟩, .bool false, .string ⟨#[]⟩, .bool false, .int .i64 0, .slice none 0 0, .slice none 0 0] 33) = W0 at *; have X0 : W0.cell? ⟨w.heap.size, 0, none⟩ = some (.int .i64 2) := (P0.out.x.cell 0).trans rfl; have X20 : W0.cell? ⟨w.heap.size, 20, none⟩ = some (.bool pres) := (P0.out.x.cell 20).trans rfl; have X21 : W0.cell? ⟨w.heap.size, 21, none⟩ = some (.int .i64 code) := (P0.out.x.cell 21).trans rfl; have D20 : W0.cell? ⟨w.heap.size + 1 + 1, 20, none⟩ = some (.bool false) := (P0.out.p.cell 20).trans rfl; have D21 : W0.cell? ⟨w.heap.size + 1 + 1, 21, none⟩ = some (.int .i64 0) := (P0.out.p.cell 21).trans rfl; have fz := fun i => P0.out.p.fz i)
  have P1 : QC w _ (Pk.v (pkA 2 pres code) noS noS) _ := ((P0.out.set 20 (.bool pres)).set 21 (.int .i64 code)).ext (ext_drew _)
  have P := Lib.hid P1
  have U := Lib.hid (P1.put (Pk.v (pkA 2 pres code) noS noS))
  clear P1 P0
  go_region
  clear X0 X20 X21 D20 D21 fz
  go_wp2_with (first
    | (refine wpList_load_row rfl 33 (.tmp 3) rfl (w.heap.size + 1 + 1) rfl 33 (Pk.v (pkA 2 pres code) noS noS) (0, 0) _ ?_ Tryd.underlying33 rfl (pk_size (pkA 2 pres code) noS noS) ?_; exact P.out.p)
    | (refine wpList_store_row rfl 33 (.tmp 2) (.tmp 87) rfl (w.heap.size + 1) (Pk.v (pkA 2 pres code) noS noS) rfl rfl 33 (Z 0) ?_ (pk_size (pkA 2 pres code) noS noS) rfl (pk_one (pkA 2 pres code) noS noS rfl rfl) ?_; exact P.out.r)
    )
  exact clean_end (P := pkA 2 pres code) (fs := noS) (cs := noS) U.out rfl (no_fis _ _) (no_ints _ _)
set_option maxRecDepth 100000 in
set_option maxHeartbeats 4000000 in
theorem clean_1 (P : Pk) (f1 c1 : Value) (w : World) (hk : P.kind = 1) : Calls Tryd.prog 14 #[.agg (P.v f1 c1)] w (ClP (pkC 1 P.c) w) := by
  obtain ⟨kind, id, dup, t, x, q, r, ⟨x0, x1, x2, x3, x4, x5, x6, x7, x8, x9, x10, x11, x12⟩, pres, code, fl, cl⟩ := P
  simp only at hk
  subst hk
  have A0 := Lib.hid (cnew_row w (.cells #[.int .i64 1, .int .i64 id, .bool dup, .string t, .string x, .int .i64 q, .bool r, .int .i64 x0, .bool x1, .int .i64 x2, .string x3, .bool x4, .string x5, .string x6, .int .i64 x7, .bool x8, .bool x9, .string x10, .bool x11, .string x12, .bool pres, .int .i64 code, f1, c1] 33))
  have A1 := Lib.hid (cnew_set w (.cells #[.int .i64 1, .int .i64 id, .bool dup, .string t, .string x, .int .i64 q, .bool r, .int .i64 x0, .bool x1, .int .i64 x2, .string x3, .bool x4, .string x5, .string x6, .int .i64 x7, .bool x8, .bool x9, .string x10, .bool x11, .string x12, .bool pres, .int .i64 code, f1, c1] 33))
  have P0 : Hid (QC w #[.int .i64 1, .int .i64 id, .bool dup, .string t, .string x, .int .i64 q, .bool r, .int .i64 x0, .bool x1, .int .i64 x2, .string x3, .bool x4, .string x5, .string x6, .int .i64 x7, .bool x8, .bool x9, .string x10, .bool x11, .string x12, .bool pres, .int .i64 code, f1, c1] #[.int .i64 1, .int .i64 0, .bool false, .string ⟨#[]⟩, .string ⟨#[]⟩, .int .i64 0, .bool false, .int .i64 0, .bool false, .int .i64 0, .string ⟨#[]⟩, .bool false, .string ⟨#[]⟩, .string ⟨#[]⟩, .int .i64 0, .bool false, .bool false, .string ⟨#[]⟩, .bool false, .string ⟨#[]⟩, .bool false, .int .i64 0, .slice none 0 0, .slice none 0 0] (((w.alloc (.cells #[.int .i64 1, .int .i64 id, .bool dup, .string t, .string x, .int .i64 q, .bool r, .int .i64 x0, .bool x1, .int .i64 x2, .string x3, .bool x4, .string x5, .string x6, .int .i64 x7, .bool x8, .bool x9, .string x10, .bool x11, .string x12, .bool pres, .int .i64 code, f1, c1] 33)).alloc (.cells #[.int .i64 0, .int .i64 0, .bool false, .string ⟨#[]⟩, .string ⟨#[]⟩, .int .i64 0, .bool false, .int .i64 0, .bool false, .int .i64 0, .string ⟨#[]⟩, .bool false, .string ⟨#[]⟩, .string ⟨#[]⟩, .int .i64 0, .bool false, .bool false, .string ⟨#[]⟩, .bool false, .string ⟨#[]⟩, .bool false, .int .i64 0, .slice none 0 0, .slice none 0 0] 33)).alloc (.cells #[.int .i64 1, .int .i64 0, .bool false, .string ⟨#[]⟩, .string ⟨#[]⟩, .int .i64 0, .bool false, .int .i64 0, .bool false, .int .i64 0, .string ⟨#[]⟩, .bool false, .string ⟨#[]⟩, .string ⟨#[]⟩, .int .i64 0, .bool false, .bool false, .string ⟨#[]⟩, .bool false, .string ⟨#[]⟩, .bool false, .int .i64 0, .slice none 0 0, .slice none 0 0] 33))) := Lib.hid (QC.start w #[.int .i64 1, .int .i64 id, .bool dup, .string t, .string x, .int .i64 q, .bool r, .int .i64 x0, .bool x1, .int .i64 x2, .string x3, .bool x4, .string x5, .string x6, .int .i64 x7, .bool x8, .bool x9, .string x10, .bool x11, .string x12, .bool pres, .int .i64 code, f1, c1] 1)
  rw [show Pk.v ⟨1, id, dup, t, x, q, r, ⟨x0, x1, x2, x3, x4, x5, x6, x7, x8, x9, x10, x11, x12⟩, pres, code, fl, cl⟩ f1 c1 = #[.int .i64 1, .int .i64 id, .bool dup, .string t, .string x, .int .i64 q, .bool r, .int .i64 x0, .bool x1, .int .i64 x2, .string x3, .bool x4, .string x5, .string x6, .int .i64 x7, .bool x8, .bool x9, .string x10, .bool x11, .string x12, .bool pres, .int .i64 code, f1, c1] from rfl]
  go_enter Tryd.func14, Tryd.ntmps14
  go_wp2_with (first
    | (refine wpList_store_row rfl 33 (.tmp 3) (.tmp 8) rfl (w.heap.size + 1 + 1) #[.int .i64 1, .int .i64 0, .bool false, .string ⟨#[]⟩, .string ⟨#[]⟩, .int .i64 0, .bool false, .int .i64 0, .bool false, .int .i64 0, .string ⟨#[]⟩, .bool false, .string ⟨#[]⟩, .string ⟨#[]⟩, .int .i64 0, .bool false, .bool false, .string ⟨#[]⟩, .bool false, .string ⟨#[]⟩, .bool false, .int .i64 0, .slice none 0 0, .slice none 0 0] rfl rfl 33 #[.int .i64 0, .int .i64 0, .bool false, .string ⟨#[]⟩, .string ⟨#[]⟩, .int .i64 0, .bool false, .int .i64 0, .bool false, .int .i64 0, .string ⟨#[]⟩, .bool false, .string ⟨#[]⟩, .string ⟨#[]⟩, .int .i64 0, .bool false, .bool false, .string ⟨#[]⟩, .bool false, .string ⟨#[]⟩, .bool false, .int .i64 0, .slice none 0 0, .slice none 0 0] ?_ (lit_size _) rfl (lit_one _) ?_; exact A0.out; rw [A1.out]; clear A0 A1; generalize ((w.alloc (.cells #[.int .i64 1, .int .i64 id, .bool dup, .string t, .string x, .int .i64 q, .bool r, .int .i64 x0, .bool x1, .int .i64 x2, .string x3, .bool x4, .string x5, .string x6, .int .i64 x7, .bool x8, .bool x9, .string x10, .bool x11, .string x12, .bool pres, .int .i64 code, f1, c1] 33)).alloc (.cells #[.int .i64 0, .int .i64 0, .bool false, .string ⟨#[]⟩, .string ⟨#[]⟩, .int .i64 0, .bool false, .int .i64 0, .bool false, .int .i64 0, .string ⟨#[]⟩, .bool false, .string ⟨#[]⟩, .string ⟨#[]⟩, .int .i64 0, .bool false, .bool false, .string ⟨#[]⟩, .bool false, .string ⟨#[]⟩, .bool false, .int .i64 0, .slice none 0 0, .slice none 0 0] 33)).alloc (.cells #[.int .i64 1, .int .i64 0, .bool false, .string ⟨#[]⟩, .string ⟨#[]⟩, .int .i64 0, .bool false, .int .i64 0, .bool false, .int .i64 0, .string ⟨#[]⟩, .bool false, .string ⟨#[]⟩, .string ⟨#[]⟩, .int .i64 0, .bool false, .bool false, .string ⟨#[]⟩, .bool false, .string ⟨#[]⟩, .bool false, .int .i64 0, .slice none 0 0, .slice none 0 0] 33) = W0 at *; have X0 : W0.cell? ⟨w.heap.size, 0, none⟩ = some (.int .i64 1) := (P0.out.x.cell 0).trans rfl; have fz := fun i => P0.out.p.fz i; have P1 := P0.out.sets 7 (⟨x0, x1, x2, x3, x4, x5, x6, x7, x8, x9, x10, x11, x12⟩ : Con.Con).v.toList; rw [show setsA #[.int .i64 1, .int .i64 0, .bool false, .string ⟨#[]⟩, .string ⟨#[]⟩, .int .i64 0, .bool false, .int .i64 0, .bool false, .int .i64 0, .string ⟨#[]⟩, .bool false, .string ⟨#[]⟩, .string ⟨#[]⟩, .int .i64 0, .bool false, .bool false, .string ⟨#[]⟩, .bool false, .string ⟨#[]⟩, .bool false, .int .i64 0, .slice none 0 0, .slice none 0 0] 7 (⟨x0, x1, x2, x3, x4, x5, x6, x7, x8, x9, x10, x11, x12⟩ : Con.Con).v.toList = Pk.v (pkC 1 (⟨x0, x1, x2, x3, x4, x5, x6, x7, x8, x9, x10, x11, x12⟩ : Con.Con)) noS noS from z_sets 1 _] at P1; have P := Lib.hid P1; have U := Lib.hid (P1.put (Pk.v (pkC 1 (⟨x0, x1, x2, x3, x4, x5, x6, x7, x8, x9, x10, x11, x12⟩ : Con.Con)) noS noS)); have TH := Lib.hid (blk_there P0.out.p 7 13 (by decide)); have RX : Hid (W0.rangeAt w.heap.size 7 (⟨x0, x1, x2, x3, x4, x5, x6, x7, x8, x9, x10, x11, x12⟩ : Con.Con).v.toList) := Lib.hid (World.rangeAt_of_block P0.out.x 7 13); clear P1)
    | (refine wpList_load_mid rfl 29 (.tmp 13) rfl w.heap.size 7 rfl (⟨x0, x1, x2, x3, x4, x5, x6, x7, x8, x9, x10, x11, x12⟩ : Con.Con).v.toList _ RX.out Tryd.underlying29 rfl (size29 _) ?_)
    | (refine wpList_store_mid rfl 29 (.tmp 15) (.tmp 14) rfl (w.heap.size + 1 + 1) 7 (⟨x0, x1, x2, x3, x4, x5, x6, x7, x8, x9, x10, x11, x12⟩ : Con.Con).v rfl rfl TH.out (size29 _) (one29 _) ?_; generalize (W0.setCells (w.heap.size + 1 + 1) 7 (⟨x0, x1, x2, x3, x4, x5, x6, x7, x8, x9, x10, x11, x12⟩ : Con.Con).v.toList) = W4 at *)
    | (refine wpList_load_row rfl 33 (.tmp 3) rfl (w.heap.size + 1 + 1) rfl 33 (Pk.v (pkC 1 (⟨x0, x1, x2, x3, x4, x5, x6, x7, x8, x9, x10, x11, x12⟩ : Con.Con)) noS noS) (0, 0) _ ?_ Tryd.underlying33 rfl (pk_size (pkC 1 (⟨x0, x1, x2, x3, x4, x5, x6, x7, x8, x9, x10, x11, x12⟩ : Con.Con)) noS noS) ?_; exact P.out.p)
    | (refine wpList_store_row rfl 33 (.tmp 2) (.tmp 87) rfl (w.heap.size + 1) (Pk.v (pkC 1 (⟨x0, x1, x2, x3, x4, x5, x6, x7, x8, x9, x10, x11, x12⟩ : Con.Con)) noS noS) rfl rfl 33 (Z 0) ?_ (pk_size (pkC 1 (⟨x0, x1, x2, x3, x4, x5, x6, x7, x8, x9, x10, x11, x12⟩ : Con.Con)) noS noS) rfl (pk_one (pkC 1 (⟨x0, x1, x2, x3, x4, x5, x6, x7, x8, x9, x10, x11, x12⟩ : Con.Con)) noS noS rfl rfl) ?_; exact P.out.r)
    )
  exact clean_end (P := pkC 1 (⟨x0, x1, x2, x3, x4, x5, x6, x7, x8, x9, x10, x11, x12⟩ : Con.Con)) (fs := noS) (cs := noS) U.out rfl (no_fis _ _) (no_ints _ _)
set_option maxRecDepth 100000 in
set_option maxHeartbeats 4000000 in
theorem clean_3 (P : Pk) (f1 c1 : Value) (w : World) (hk : P.kind = 3) : Calls Tryd.prog 14 #[.agg (P.v f1 c1)] w (ClP (pkM 3 (if 0 < P.q then P.id else 0) P.dup P.t P.x P.q P.r) w) := by
  obtain ⟨kind, id, dup, t, x, q, r, ⟨x0, x1, x2, x3, x4, x5, x6, x7, x8, x9, x10, x11, x12⟩, pres, code, fl, cl⟩ := P
  simp only at hk
  subst hk
  have A0 := Lib.hid (cnew_row w (.cells #[.int .i64 3, .int .i64 id, .bool dup, .string t, .string x, .int .i64 q, .bool r, .int .i64 x0, .bool x1, .int .i64 x2, .string x3, .bool x4, .string x5, .string x6, .int .i64 x7, .bool x8, .bool x9, .string x10, .bool x11, .string x12, .bool pres, .int .i64 code, f1, c1] 33))
  have A1 := Lib.hid (cnew_set w (.cells #[.int .i64 3, .int .i64 id, .bool dup, .string t, .string x, .int .i64 q, .bool r, .int .i64 x0, .bool x1, .int .i64 x2, .string x3, .bool x4, .string x5, .string x6, .int .i64 x7, .bool x8, .bool x9, .string x10, .bool x11, .string x12, .bool pres, .int .i64 code, f1, c1] 33))
  have P0 : Hid (QC w #[.int .i64 3, .int .i64 id, .bool dup, .string t, .string x, .int .i64 q, .bool r, .int .i64 x0, .bool x1, .int .i64 x2, .string x3, .bool x4, .string x5, .string x6, .int .i64 x7, .bool x8, .bool x9, .string x10, .bool x11, .string x12, .bool pres, .int .i64 code, f1, c1] #[.int .i64 3, .int .i64 0, .bool false, .string ⟨#[]⟩, .string ⟨#[]⟩, .int .i64 0, .bool false, .int .i64 0, .bool false, .int .i64 0, .string ⟨#[]⟩, .bool false, .string ⟨#[]⟩, .string ⟨#[]⟩, .int .i64 0, .bool false, .bool false, .string ⟨#[]⟩, .bool false, .string ⟨#[]⟩, .bool false, .int .i64 0, .slice none 0 0, .slice none 0 0] (((w.alloc (.cells #[.int .i64 3, .int .i64 id, .bool dup, .string t, .string x, .int .i64 q, .bool r, .int .i64 x0, .bool x1, .int .i64 x2, .string x3, .bool x4, .string x5, .string x6, .int .i64 x7, .bool x8, .bool x9, .string x10, .bool x11, .string x12, .bool pres, .int .i64 code, f1, c1] 33)).alloc (.cells #[.int .i64 0, .int .i64 0, .bool false, .string ⟨#[]⟩, .string ⟨#[]⟩, .int .i64 0, .bool false, .int .i64 0, .bool false, .int .i64 0, .string ⟨#[]⟩, .bool false, .string ⟨#[]⟩, .string ⟨#[]⟩, .int .i64 0, .bool false, .bool false, .string ⟨#[]⟩, .bool false, .string ⟨#[]⟩, .bool false, .int .i64 0, .slice none 0 0, .slice none 0 0] 33)).alloc (.cells #[.int .i64 3, .int .i64 0, .bool false, .string ⟨#[]⟩, .string ⟨#[]⟩, .int .i64 0, .bool false, .int .i64 0, .bool false, .int .i64 0, .string ⟨#[]⟩, .bool false, .string ⟨#[]⟩, .string ⟨#[]⟩, .int .i64 0, .bool false, .bool false, .string ⟨#[]⟩, .bool false, .string ⟨#[]⟩, .bool false, .int .i64 0, .slice none 0 0, .slice none 0 0] 33))) := Lib.hid (QC.start w #[.int .i64 3, .int .i64 id, .bool dup, .string t, .string x, .int .i64 q, .bool r, .int .i64 x0, .bool x1, .int .i64 x2, .string x3, .bool x4, .string x5, .string x6, .int .i64 x7, .bool x8, .bool x9, .string x10, .bool x11, .string x12, .bool pres, .int .i64 code, f1, c1] 3)
  rw [show Pk.v ⟨3, id, dup, t, x, q, r, ⟨x0, x1, x2, x3, x4, x5, x6, x7, x8, x9, x10, x11, x12⟩, pres, code, fl, cl⟩ f1 c1 = #[.int .i64 3, .int .i64 id, .bool dup, .string t, .string x, .int .i64 q, .bool r, .int .i64 x0, .bool x1, .int .i64 x2, .string x3, .bool x4, .string x5, .string x6, .int .i64 x7, .bool x8, .bool x9, .string x10, .bool x11, .string x12, .bool pres, .int .i64 code, f1, c1] from rfl]
  by_cases hq : 0 < q
  · rw [if_pos hq]
    have hq' : decide (0 < q) = true := by simpa using hq
    replace hq := Lib.hid hq
    go_enter Tryd.func14, Tryd.ntmps14
    go_wp2_with (refine wpList_store_row rfl 33 (.tmp 3) (.tmp 8) rfl (w.heap.size + 1 + 1) #[.int .i64 3, .int .i64 0, .bool false, .string ⟨#[]⟩, .string ⟨#[]⟩, .int .i64 0, .bool false, .int .i64 0, .bool false, .int .i64 0, .string ⟨#[]⟩, .bool false, .string ⟨#[]⟩, .string ⟨#[]⟩, .int .i64 0, .bool false, .bool false, .string ⟨#[]⟩, .bool false, .string ⟨#[]⟩, .bool false, .int .i64 0, .slice none 0 0, .slice none 0 0] rfl rfl 33 #[.int .i64 0, .int .i64 0, .bool false, .string ⟨#[]⟩, .string ⟨#[]⟩, .int .i64 0, .bool false, .int .i64 0, .bool false, .int .i64 0, .string ⟨#[]⟩, .bool false, .string ⟨#[]⟩, .string ⟨#[]⟩, .int .i64 0, .bool false, .bool false, .string ⟨#[]⟩, .bool false, .string ⟨#[]⟩, .bool false, .int .i64 0, .slice none 0 0, .slice none 0 0] ?_ (lit_size _) rfl (lit_one _) ?_; exact A0.out; rw [A1.out]; clear A0 A1; generalize ((w.alloc (.cells #[.int .i64 3, .int .i64 id, .bool dup, .string t, .string x, .int .i64 q, .bool r, .int .i64 x0, .bool x1, .int .i64 x2, .string x3, .bool x4, .string x5, .string x6, .int .i64 x7, .bool x8, .bool x9, .string x10, .bool x11, .string x12, .bool pres, .int .i64 code, f1, c1] 33)).alloc (.cells #[.int .i64 0, .int .i64 0, .bool false, .string ⟨#[]⟩, .string ⟨#[]⟩, .int .i64 0, .bool false, .int .i64 0, .bool false, .int .i64 0, .string ⟨#[]⟩, .bool false, .string ⟨#[]⟩, .string ⟨#[]⟩, .int .i64 0, .bool false, .bool false, .string ⟨#[]⟩, .bool false, .string ⟨#[]⟩, .bool false, .int .i64 0, .slice none 0 0, .slice none 0 0] 33)).alloc (.cells #[.int .i64 3, .int .i64 0, .bool false, .string ⟨#[]⟩, .string ⟨#[]⟩, .int .i64 0, .bool false, .int .i64 0, .bool false, .int .i64 0, .string ⟨#[]⟩, .bool false, .string ⟨#[]⟩, .string ⟨#[]⟩, .int .i64 0, .bool false, .bool false, .string ⟨#[]⟩, .bool false, .string ⟨#[]⟩, .bool false, .int .i64 0, .slice none 0 0, .slice none 0 0] 33) = W0 at *; have X0 : W0.cell? ⟨w.heap.size, 0, none⟩ = some (.int .i64 3) := (P0.out.x.cell 0).trans rfl; have X1 : W0.cell? ⟨w.heap.size, 1, none⟩ = some (.int .i64 id) := (P0.out.x.cell 1).trans rfl; have X2 : W0.cell? ⟨w.heap.size, 2, none⟩ = some (.bool dup) := (P0.out.x.cell 2).trans rfl; have X3 : W0.cell? ⟨w.heap.size, 3, none⟩ = some (.string t) := (P0.out.x.cell 3).trans rfl; have X4 : W0.cell? ⟨w.heap.size, 4, none⟩ = some (.string x) := (P0.out.x.cell 4).trans rfl; have X5 : W0.cell? ⟨w.heap.size, 5, none⟩ = some (.int .i64 q) := (P0.out.x.cell 5).trans rfl; have X6 : W0.cell? ⟨w.heap.size, 6, none⟩ = some (.bool r) := (P0.out.x.cell 6).trans rfl; have D1 : W0.cell? ⟨w.heap.size + 1 + 1, 1, none⟩ = some (.int .i64 0) := (P0.out.p.cell 1).trans rfl; have D2 : W0.cell? ⟨w.heap.size + 1 + 1, 2, none⟩ = some (.bool false) := (P0.out.p.cell 2).trans rfl; have D3 : W0.cell? ⟨w.heap.size + 1 + 1, 3, none⟩ = some (.string ⟨#[]⟩) := (P0.out.p.cell 3).trans rfl; have D4 : W0.cell? ⟨w.heap.size + 1 + 1, 4, none⟩ = some (.string ⟨#[]⟩) := (P0.out.p.cell 4).trans rfl; have D5 : W0.cell? ⟨w.heap.size + 1 + 1, 5, none⟩ = some (.int .i64 0) := (P0.out.p.cell 5).trans rfl; have D6 : W0.cell? ⟨w.heap.size + 1 + 1, 6, none⟩ = some (.bool false) := (P0.out.p.cell 6).trans rfl; have fz := fun i => P0.out.p.fz i)
    have P1 : QC w _ (Pk.v (pkM 3 0 dup t x q r) noS noS) _ := (((((P0.out.set 3 (.string t)).set 4 (.string x)).set 5 (.int .i64 q)).set 6 (.bool r)).set 2 (.bool dup)).ext (ext_drew _)
    go_region
    clear X0 X1 X2 X3 X4 X5 X6 D1 D2 D3 D4 D5 D6 fz
    generalize (((((W0.setCell ⟨w.heap.size + 1 + 1, 3, none⟩ (.string t)).setCell ⟨w.heap.size + 1 + 1, 4, none⟩ (.string x)).setCell ⟨w.heap.size + 1 + 1, 5, none⟩ (.int .i64 q)).setCell ⟨w.heap.size + 1 + 1, 6, none⟩ (.bool r)).setCell ⟨w.heap.size + 1 + 1, 2, none⟩ (.bool dup)).drew = W1 at *
    have X1 : W1.cell? ⟨w.heap.size, 1, none⟩ = some (.int .i64 id) := (P1.x.cell 1).trans rfl
    have X5 : W1.cell? ⟨w.heap.size, 5, none⟩ = some (.int .i64 q) := (P1.x.cell 5).trans rfl
    have D1 : W1.cell? ⟨w.heap.size + 1 + 1, 1, none⟩ = some (.int .i64 0) := (P1.p.cell 1).trans rfl
    have fz := fun i => P1.p.fz i
    have P2 : QC w _ (Pk.v (pkM 3 id dup t x q r) noS noS) _ := P1.set 1 (.int .i64 id)
    have P := Lib.hid P2
    have U := Lib.hid (P2.put (Pk.v (pkM 3 id dup t x q r) noS noS))
    clear P1 P2 P0
    go_wp2_with (first
    | (refine wpList_load_row rfl 33 (.tmp 3) rfl (w.heap.size + 1 + 1) rfl 33 (Pk.v (pkM 3 id dup t x q r) noS noS) (0, 0) _ ?_ Tryd.underlying33 rfl (pk_size (pkM 3 id dup t x q r) noS noS) ?_; exact P.out.p)
    | (refine wpList_store_row rfl 33 (.tmp 2) (.tmp 87) rfl (w.heap.size + 1) (Pk.v (pkM 3 id dup t x q r) noS noS) rfl rfl 33 (Z 0) ?_ (pk_size (pkM 3 id dup t x q r) noS noS) rfl (pk_one (pkM 3 id dup t x q r) noS noS rfl rfl) ?_; exact P.out.r)
      )
    exact clean_end (P := pkM 3 id dup t x q r) (fs := noS) (cs := noS) U.out rfl (no_fis _ _) (no_ints _ _)
  · rw [if_neg hq]
    have hq' : decide (0 < q) = false := by simpa using hq
    replace hq := Lib.hid hq
    go_enter Tryd.func14, Tryd.ntmps14
    go_wp2_with (refine wpList_store_row rfl 33 (.tmp 3) (.tmp 8) rfl (w.heap.size + 1 + 1) #[.int .i64 3, .int .i64 0, .bool false, .string ⟨#[]⟩, .string ⟨#[]⟩, .int .i64 0, .bool false, .int .i64 0, .bool false, .int .i64 0, .string ⟨#[]⟩, .bool false, .string ⟨#[]⟩, .string ⟨#[]⟩, .int .i64 0, .bool false, .bool false, .string ⟨#[]⟩, .bool false, .string ⟨#[]⟩, .bool false, .int .i64 0, .slice none 0 0, .slice none 0 0] rfl rfl 33 #[.int .i64 0, .int .i64 0, .bool false, .string ⟨#[]⟩, .string ⟨#[]⟩, .int .i64 0, .bool false, .int .i64 0, .bool false, .int .i64 0, .string ⟨#[]⟩, .bool false, .string ⟨#[]⟩, .string ⟨#[]⟩, .int .i64 0, .bool false, .bool false, .string ⟨#[]⟩, .bool false, .string ⟨#[]⟩, .bool false, .int .i64 0, .slice none 0 0, .slice none 0 0] ?_ (lit_size _) rfl (lit_one _) ?_; exact A0.out; rw [A1.out]; clear A0 A1; generalize ((w.alloc (.cells #[.int .i64 3, .int .i64 id, .bool dup, .string t, .string x, .int .i64 q, .bool r, .int .i64 x0, .bool x1, .int .i64 x2, .string x3, .bool x4, .string x5, .string x6, .int .i64 x7, .bool x8, .bool x9, .string x10, .bool x11, .string x12, .bool pres, .int .i64 code, f1, c1] 33)).alloc (.cells #[.int .i64 0, .int .i64 0, .bool false, .string ⟨#[]⟩, .string ⟨#[]⟩, .int .i64 0, .bool false, .int .i64 0, .bool false, .int .i64 0, .string ⟨#[]⟩, .bool false, .string ⟨#[]⟩, .string ⟨#[]⟩, .int .i64 0, .bool false, .bool false, .string ⟨#[]⟩, .bool false, .string ⟨#[]⟩, .bool false, .int .i64 0, .slice none 0 0, .slice none 0 0] 33)).alloc (.cells #[.int .i64 3, .int .i64 0, .bool false, .string ⟨#[]⟩, .string ⟨#[]⟩, .int .i64 0, .bool false, .int .i64 0, .bool false, .int .i64 0, .string ⟨#[]⟩, .bool false, .string ⟨#[]⟩, .string ⟨#[]⟩, .int .i64 0, .bool false, .bool false, .string ⟨#[]⟩, .bool false, .string ⟨#[]⟩, .bool false, .int .i64 0, .slice none 0 0, .slice none 0 0] 33) = W0 at *; have X0 : W0.cell? ⟨w.heap.size, 0, none⟩ = some (.int .i64 3) := (P0.out.x.cell 0).trans rfl; have X1 : W0.cell? ⟨w.heap.size, 1, none⟩ = some (.int .i64 id) := (P0.out.x.cell 1).trans rfl; have X2 : W0.cell? ⟨w.heap.size, 2, none⟩ = some (.bool dup) := (P0.out.x.cell 2).trans rfl; have X3 : W0.cell? ⟨w.heap.size, 3, none⟩ = some (.string t) := (P0.out.x.cell 3).trans rfl; have X4 : W0.cell? ⟨w.heap.size, 4, none⟩ = some (.string x) := (P0.out.x.cell 4).trans rfl; have X5 : W0.cell? ⟨w.heap.size, 5, none⟩ = some (.int .i64 q) := (P0.out.x.cell 5).trans rfl; have X6 : W0.cell? ⟨w.heap.size, 6, none⟩ = some (.bool r) := (P0.out.x.cell 6).trans rfl; have D1 : W0.cell? ⟨w.heap.size + 1 + 1, 1, none⟩ = some (.int .i64 0) := (P0.out.p.cell 1).trans rfl; have D2 : W0.cell? ⟨w.heap.size + 1 + 1, 2, none⟩ = some (.bool false) := (P0.out.p.cell 2).trans rfl; have D3 : W0.cell? ⟨w.heap.size + 1 + 1, 3, none⟩ = some (.string ⟨#[]⟩) := (P0.out.p.cell 3).trans rfl; have D4 : W0.cell? ⟨w.heap.size + 1 + 1, 4, none⟩ = some (.string ⟨#[]⟩) := (P0.out.p.cell 4).trans rfl; have D5 : W0.cell? ⟨w.heap.size + 1 + 1, 5, none⟩ = some (.int .i64 0) := (P0.out.p.cell 5).trans rfl; have D6 : W0.cell? ⟨w.heap.size + 1 + 1, 6, none⟩ = some (.bool false) := (P0.out.p.cell 6).trans rfl; have fz := fun i => P0.out.p.fz i)
    have P1 : QC w _ (Pk.v (pkM 3 0 dup t x q r) noS noS) _ := (((((P0.out.set 3 (.string t)).set 4 (.string x)).set 5 (.int .i64 q)).set 6 (.bool r)).set 2 (.bool dup)).ext (ext_drew _)
    go_region
    clear X0 X1 X2 X3 X4 X5 X6 D1 D2 D3 D4 D5 D6 fz
    generalize (((((W0.setCell ⟨w.heap.size + 1 + 1, 3, none⟩ (.string t)).setCell ⟨w.heap.size + 1 + 1, 4, none⟩ (.string x)).setCell ⟨w.heap.size + 1 + 1, 5, none⟩ (.int .i64 q)).setCell ⟨w.heap.size + 1 + 1, 6, none⟩ (.bool r)).setCell ⟨w.heap.size + 1 + 1, 2, none⟩ (.bool dup)).drew = W1 at *
    have X1 : W1.cell? ⟨w.heap.size, 1, none⟩ = some (.int .i64 id) := (P1.x.cell 1).trans rfl
    have X5 : W1.cell? ⟨w.heap.size, 5, none⟩ = some (.int .i64 q) := (P1.x.cell 5).trans rfl
    have D1 : W1.cell? ⟨w.heap.size + 1 + 1, 1, none⟩ = some (.int .i64 0) := (P1.p.cell 1).trans rfl
    have fz := fun i => P1.p.fz i
    have P2 : QC w _ (Pk.v (pkM 3 0 dup t x q r) noS noS) _ := P1
    have P := Lib.hid P2
    have U := Lib.hid (P2.put (Pk.v (pkM 3 0 dup t x q r) noS noS))
    clear P1 P2 P0
    go_wp2_with (first
    | (refine wpList_load_row rfl 33 (.tmp 3) rfl (w.heap.size + 1 + 1) rfl 33 (Pk.v (pkM 3 0 dup t x q r) noS noS) (0, 0) _ ?_ Tryd.underlying33 rfl (pk_size (pkM 3 0 dup t x q r) noS noS) ?_; exact P.out.p)
    | (refine wpList_store_row rfl 33 (.tmp 2) (.tmp 87) rfl (w.heap.size + 1) (Pk.v (pkM 3 0 dup t x q r) noS noS) rfl rfl 33 (Z 0) ?_ (pk_size (pkM 3 0 dup t x q r) noS noS) rfl (pk_one (pkM 3 0 dup t x q r) noS noS rfl rfl) ?_; exact P.out.r)
      )
    exact clean_end (P := pkM 3 0 dup t x q r) (fs := noS) (cs := noS) U.out rfl (no_fis _ _) (no_ints _ _)
set_option maxRecDepth 100000 in
set_option maxHeartbeats 4000000 in
theorem clean_8 (P : Pk) (f1 c1 : Value) (w : World) (hk : P.kind = 8) (hv0 : FisAt w f1 P.fl) (hb0 : P.fl.length * 24 ≤ 140737488355328) : Calls Tryd.prog 14 #[.agg (P.v f1 c1)] w (ClP (pkF 8 P.id P.fl) w) := by
  obtain ⟨kind, id, dup, t, x, q, r, ⟨x0, x1, x2, x3, x4, x5, x6, x7, x8, x9, x10, x11, x12⟩, pres, code, fl, cl⟩ := P
  simp only at hk
  subst hk
  have A0 := Lib.hid (cnew_row w (.cells #[.int .i64 8, .int .i64 id, .bool dup, .string t, .string x, .int .i64 q, .bool r, .int .i64 x0, .bool x1, .int .i64 x2, .string x3, .bool x4, .string x5, .string x6, .int .i64 x7, .bool x8, .bool x9, .string x10, .bool x11, .string x12, .bool pres, .int .i64 code, f1, c1] 33))
  have A1 := Lib.hid (cnew_set w (.cells #[.int .i64 8, .int .i64 id, .bool dup, .string t, .string x, .int .i64 q, .bool r, .int .i64 x0, .bool x1, .int .i64 x2, .string x3, .bool x4, .string x5, .string x6, .int .i64 x7, .bool x8, .bool x9, .string x10, .bool x11, .string x12, .bool pres, .int .i64 code, f1, c1] 33))
  have P0 : Hid (QC w #[.int .i64 8, .int .i64 id, .bool dup, .string t, .string x, .int .i64 q, .bool r, .int .i64 x0, .bool x1, .int .i64 x2, .string x3, .bool x4, .string x5, .string x6, .int .i64 x7, .bool x8, .bool x9, .string x10, .bool x11, .string x12, .bool pres, .int .i64 code, f1, c1] #[.int .i64 8, .int .i64 0, .bool false, .string ⟨#[]⟩, .string ⟨#[]⟩, .int .i64 0, .bool false, .int .i64 0, .bool false, .int .i64 0, .string ⟨#[]⟩, .bool false, .string ⟨#[]⟩, .string ⟨#[]⟩, .int .i64 0, .bool false, .bool false, .string ⟨#[]⟩, .bool false, .string ⟨#[]⟩, .bool false, .int .i64 0, .slice none 0 0, .slice none 0 0] (((w.alloc (.cells #[.int .i64 8, .int .i64 id, .bool dup, .string t, .string x, .int .i64 q, .bool r, .int .i64 x0, .bool x1, .int .i64 x2, .string x3, .bool x4, .string x5, .string x6, .int .i64 x7, .bool x8, .bool x9, .string x10, .bool x11, .string x12, .bool pres, .int .i64 code, f1, c1] 33)).alloc (.cells #[.int .i64 0, .int .i64 0, .bool false, .string ⟨#[]⟩, .string ⟨#[]⟩, .int .i64 0, .bool false, .int .i64 0, .bool false, .int .i64 0, .string ⟨#[]⟩, .bool false, .string ⟨#[]⟩, .string ⟨#[]⟩, .int .i64 0, .bool false, .bool false, .string ⟨#[]⟩, .bool false, .string ⟨#[]⟩, .bool false, .int .i64 0, .slice none 0 0, .slice none 0 0] 33)).alloc (.cells #[.int .i64 8, .int .i64 0, .bool false, .string ⟨#[]⟩, .string ⟨#[]⟩, .int .i64 0, .bool false, .int .i64 0, .bool false, .int .i64 0, .string ⟨#[]⟩, .bool false, .string ⟨#[]⟩, .string ⟨#[]⟩, .int .i64 0, .bool false, .bool false, .string ⟨#[]⟩, .bool false, .string ⟨#[]⟩, .bool false, .int .i64 0, .slice none 0 0, .slice none 0 0] 33))) := Lib.hid (QC.start w #[.int .i64 8, .int .i64 id, .bool dup, .string t, .string x, .int .i64 q, .bool r, .int .i64 x0, .bool x1, .int .i64 x2, .string x3, .bool x4, .string x5, .string x6, .int .i64 x7, .bool x8, .bool x9, .string x10, .bool x11, .string x12, .bool pres, .int .i64 code, f1, c1] 8)
  rw [show Pk.v ⟨8, id, dup, t, x, q, r, ⟨x0, x1, x2, x3, x4, x5, x6, x7, x8, x9, x10, x11, x12⟩, pres, code, fl, cl⟩ f1 c1 = #[.int .i64 8, .int .i64 id, .bool dup, .string t, .string x, .int .i64 q, .bool r, .int .i64 x0, .bool x1, .int .i64 x2, .string x3, .bool x4, .string x5, .string x6, .int .i64 x7, .bool x8, .bool x9, .string x10, .bool x11, .string x12, .bool pres, .int .i64 code, f1, c1] from rfl]
  go_enter Tryd.func14, Tryd.ntmps14
  go_wp2_with (refine wpList_store_row rfl 33 (.tmp 3) (.tmp 8) rfl (w.heap.size + 1 + 1) #[.int .i64 8, .int .i64 0, .bool false, .string ⟨#[]⟩, .string ⟨#[]⟩, .int .i64 0, .bool false, .int .i64 0, .bool false, .int .i64 0, .string ⟨#[]⟩, .bool false, .string ⟨#[]⟩, .string ⟨#[]⟩, .int .i64 0, .bool false, .bool false, .string ⟨#[]⟩, .bool false, .string ⟨#[]⟩, .bool false, .int .i64 0, .slice none 0 0, .slice none 0 0] rfl rfl 33 #[.int .i64 0, .int .i64 0, .bool false, .string ⟨#[]⟩, .string ⟨#[]⟩, .int .i64 0, .bool false, .int .i64 0, .bool false, .int .i64 0, .string ⟨#[]⟩, .bool false, .string ⟨#[]⟩, .string ⟨#[]⟩, .int .i64 0, .bool false, .bool false, .string ⟨#[]⟩, .bool false, .string ⟨#[]⟩, .bool false, .int .i64 0, .slice none 0 0, .slice none 0 0] ?_ (lit_size _) rfl (lit_one _) ?_; exact A0.out; rw [A1.out]; clear A0 A1; generalize ((w.alloc (.cells #[.int .i64 8, .int .i64 id, .bool dup, .string t, .string x, .int .i64 q, .bool r, .int .i64 x0, .bool x1, .int .i64 x2, .string x3, .bool x4, .string x5, .string x6, .int .i64 x7, .bool x8, .bool x9, .string x10, .bool x11, .string x12, .bool pres, .int .i64 code, f1, c1] 33)).alloc (.cells #[.int .i64 0, .int .i64 0, .bool false, .string ⟨#[]⟩, .string ⟨#[]⟩, .int .i64 0, .bool false, .int .i64 0, .bool false, .int .i64 0, .string ⟨#[]⟩, .bool false, .string ⟨#[]⟩, .string ⟨#[]⟩, .int .i64 0, .bool false, .bool false, .string ⟨#[]⟩, .bool false, .string ⟨#[]⟩, .bool false, .int .i64 0, .slice none 0 0, .slice none 0 0] 33)).alloc (.cells #[.int .i64 8, .int .i64 0, .bool false, .string ⟨#[]⟩, .string ⟨#[]⟩, .int .i64 0, .bool false, .int .i64 0, .bool false, .int .i64 0, .string ⟨#[]⟩, .bool false, .string ⟨#[]⟩, .string ⟨#[]⟩, .int .i64 0, .bool false, .bool false, .string ⟨#[]⟩, .bool false, .string ⟨#[]⟩, .bool false, .int .i64 0, .slice none 0 0, .slice none 0 0] 33) = W0 at *; have X0 : W0.cell? ⟨w.heap.size, 0, none⟩ = some (.int .i64 8) := (P0.out.x.cell 0).trans rfl; have X1 : W0.cell? ⟨w.heap.size, 1, none⟩ = some (.int .i64 id) := (P0.out.x.cell 1).trans rfl; have X22 : W0.cell? ⟨w.heap.size, 22, none⟩ = some (f1) := (P0.out.x.cell 22).trans rfl; have D1 : W0.cell? ⟨w.heap.size + 1 + 1, 1, none⟩ = some (.int .i64 0) := (P0.out.p.cell 1).trans rfl; have D22 : W0.cell? ⟨w.heap.size + 1 + 1, 22, none⟩ = some (.slice none 0 0) := (P0.out.p.cell 22).trans rfl; have fz := fun i => P0.out.p.fz i)
  have CL := Lib.hid (clone_f f1 fl W0.drew (hv0.keep (P0.out.bw.trans ((ext_drew W0).mono P0.out.bw.size)) (Nat.le_refl _)) hb0)
  have P5 := Lib.hid (P0.out.ext (ext_drew W0))
  have z5 := Lib.hid P0.out.p.lt
  clear P0 hv0 hb0
  refine wp_region_held_drew (S := fun W => W.cell? ⟨w.heap.size, 1, none⟩ = some (.int .i64 id) ∧ W.cell? ⟨w.heap.size, 22, none⟩ = some f1) (by kernel_rfl) ⟨(P5.out.x.cell 1).trans rfl, (P5.out.x.cell 22).trans rfl⟩ (fun hHeld => ?_)
  refine wpAnyH_take (i := 0) (oi := _) (v := ?zv0) rfl (by kernel_rfl) (by kernel_rfl) (by kernel_rfl) (fun _ _ _ h => h) (Or.inl ⟨by rfl, ?zy0⟩) (by assumption) ?zr0
  case zy0 => (intro w hSw; have c1' := hSw.1; have c2' := hSw.2; go_simp <;> with_reducible rfl)
  try simp only [Act.put, List.setIfInBounds_toArray, List.set_cons_zero, List.set_cons_succ]
  refine wpAnyH_take (i := 1) (oi := _) (v := ?zv1) rfl (by kernel_rfl) (by kernel_rfl) (by kernel_rfl) (fun _ _ _ h => h) (Or.inl ⟨by rfl, ?zy1⟩) (by assumption) ?zr1
  case zy1 => (intro w hSw; have c1' := hSw.1; have c2' := hSw.2; go_simp <;> with_reducible rfl)
  try simp only [Act.put, List.setIfInBounds_toArray, List.set_cons_zero, List.set_cons_succ]
  refine wpAnyH_take (i := 2) (oi := _) (v := ?zv2) rfl (by kernel_rfl) (by kernel_rfl) (by kernel_rfl) (fun _ _ _ h => h) (Or.inl ⟨by rfl, ?zy2⟩) (by assumption) ?zr2
  case zy2 => (intro w hSw; have c1' := hSw.1; have c2' := hSw.2; go_simp <;> with_reducible rfl)
  try simp only [Act.put, List.setIfInBounds_toArray, List.set_cons_zero, List.set_cons_succ]
  refine wpAnyH_take (i := 3) (oi := _) (v := ?zv3) rfl (by kernel_rfl) (by kernel_rfl) (by kernel_rfl) (fun _ _ _ h => h) (Or.inl ⟨by rfl, ?zy3⟩) (by assumption) ?zr3
  case zy3 => (intro w hSw; have c1' := hSw.1; have c2' := hSw.2; go_simp <;> with_reducible rfl)
  try simp only [Act.put, List.setIfInBounds_toArray, List.set_cons_zero, List.set_cons_succ]
  refine wpAnyH_take (i := 5) (oi := _) (v := ?zv5) rfl (by kernel_rfl) (by kernel_rfl) (by kernel_rfl) (fun _ _ _ h => h) (Or.inl ⟨by rfl, ?zy5⟩) (by assumption) ?zr5
  case zy5 => (intro w hSw; have c1' := hSw.1; have c2' := hSw.2; go_simp <;> with_reducible rfl)
  try simp only [Act.put, List.setIfInBounds_toArray, List.set_cons_zero, List.set_cons_succ]
  refine wpAnyH_ready (rs := [4]) (by kernel_rfl) (by simp) ?_
  refine AllReadyH.cons (o := _) rfl (fun K hK => ?_) AllReadyH.nil
  go_simp
  refine (CL.out).mono ?_
  rintro e W6 ⟨v, rfl, ⟨hv, hfr⟩, b6⟩
  go_wp2_with fail
  refine hK _ _ ⟨((P5.out.ext b6).x.cell 1).trans rfl, ((P5.out.ext b6).x.cell 22).trans rfl⟩ (fun hHeld2 => ?_)
  clear hK K
  try simp only [Act.put, List.setIfInBounds_toArray, List.set_cons_zero, List.set_cons_succ]
  have P6 := P5.out.ext b6
  clear X0 X1 X22 D1 D22 fz CL
  have D1 : W6.cell? ⟨w.heap.size + 1 + 1, 1, none⟩ = some (.int .i64 0) := (P6.p.cell 1).trans rfl
  have D22 : W6.cell? ⟨w.heap.size + 1 + 1, 22, none⟩ = some (.slice none 0 0) := (P6.p.cell 22).trans rfl
  have fz := fun i => P6.p.fz i
  have P1 : QC w _ (Pk.v (pkF 8 id fl) v noS) _ := (P6.set 1 (.int .i64 id)).set 22 v
  have P := Lib.hid P1
  have U := Lib.hid (P1.put (Pk.v (pkF 8 id fl) v noS))
  have hz : w.heap.size + 1 + 1 < W0.drew.heap.size := z5.out
  have F1 := (((But.refl (w.heap.size + 1 + 1) W6).set 1 (.int .i64 id)).set 22 v).fis hv hfr hz
  have FF := Lib.hid (And.intro ((but_setRow (But.refl (w.heap.size + 1) _) (Pk.v (pkF 8 id fl) v noS)).fis F1 hfr (by omega)) (Fresh.le (B := w.heap.size) hfr (by omega)))
  have V1 := Lib.hid (fis_one hv)
  obtain ⟨va, vc, rfl, -, -⟩ := hv
  clear P1 P5 b6 hfr F1
  have P7 := P6.set 1 (.int .i64 id)
  have D2' : (W6.setCell ⟨w.heap.size + 1 + 1, 1, none⟩ (.int .i64 id)).cell? ⟨w.heap.size + 1 + 1, 22, none⟩ = some (.slice none 0 0) := (P7.p.cell 22).trans rfl
  have fz7 := fun i => P7.p.fz i
  refine wpAnyH_ready (rs := [6]) (by kernel_rfl) (by simp) ?_
  refine AllReadyH.cons (o := _) rfl (fun K hK => ?_) AllReadyH.nil
  go_simp
  refine hK _ _ ⟨(P7.x.cell 1).trans rfl, (P7.x.cell 22).trans rfl⟩ (fun hHeld3 => ?_)
  clear hK K
  try simp only [Act.put, List.setIfInBounds_toArray, List.set_cons_zero, List.set_cons_succ]
  refine wpAnyH_take (i := 7) (oi := _) (v := ?zv7) rfl (by kernel_rfl) (by kernel_rfl) (by kernel_rfl) (fun _ _ _ h => h) (Or.inl ⟨by rfl, ?zy7⟩) (by assumption) ?zr7
  case zy7 => (intro w hSw; have c1' := hSw.1; have c2' := hSw.2; go_simp <;> with_reducible rfl)
  try simp only [Act.put, List.setIfInBounds_toArray, List.set_cons_zero, List.set_cons_succ]
  refine wpAnyH_ready (rs := [8]) (by kernel_rfl) (by simp) ?_
  refine AllReadyH.cons (o := _) rfl (fun K hK => ?_) AllReadyH.nil
  go_simp
  refine hK _ _ ⟨(P.out.x.cell 1).trans rfl, (P.out.x.cell 22).trans rfl⟩ (fun hHeld4 => ?_)
  clear hK K
  try simp only [Act.put, List.setIfInBounds_toArray, List.set_cons_zero, List.set_cons_succ]
  refine wpAnyH_done (by kernel_rfl) ?_ _
  clear hHeld hHeld2 hHeld3 hHeld4 P6 P7 D1 D22 D2' fz fz7
  go_wp2_with (first
    | (refine wpList_load_row rfl 33 (.tmp 3) rfl (w.heap.size + 1 + 1) rfl 33 (Pk.v (pkF 8 id fl) (.slice va fl.length vc) noS) (0, 0) _ ?_ Tryd.underlying33 rfl (pk_size (pkF 8 id fl) (.slice va fl.length vc) noS) ?_; exact P.out.p)
    | (refine wpList_store_row rfl 33 (.tmp 2) (.tmp 87) rfl (w.heap.size + 1) (Pk.v (pkF 8 id fl) (.slice va fl.length vc) noS) rfl rfl 33 (Z 0) ?_ (pk_size (pkF 8 id fl) (.slice va fl.length vc) noS) rfl (pk_one (pkF 8 id fl) (.slice va fl.length vc) noS V1.out rfl) ?_; exact P.out.r)
    )
  exact clean_end (P := pkF 8 id fl) U.out rfl FF.out (no_ints _ _)
set_option maxRecDepth 100000 in
set_option maxHeartbeats 4000000 in
theorem clean_9 (P : Pk) (f1 c1 : Value) (w : World) (hk : P.kind = 9) (hv0 : IntsAt w c1 P.cl) (hb0 : P.cl.length * 8 ≤ 140737488355328) : Calls Tryd.prog 14 #[.agg (P.v f1 c1)] w (ClP (pkS 9 P.id P.cl) w) := by
  obtain ⟨kind, id, dup, t, x, q, r, ⟨x0, x1, x2, x3, x4, x5, x6, x7, x8, x9, x10, x11, x12⟩, pres, code, fl, cl⟩ := P
  simp only at hk
  subst hk
  have A0 := Lib.hid (cnew_row w (.cells #[.int .i64 9, .int .i64 id, .bool dup, .string t, .string x, .int .i64 q, .bool r, .int .i64 x0, .bool x1, .int .i64 x2, .string x3, .bool x4, .string x5, .string x6, .int .i64 x7, .bool x8, .bool x9, .string x10, .bool x11, .string x12, .bool pres, .int .i64 code, f1, c1] 33))
  have A1 := Lib.hid (cnew_set w (.cells #[.int .i64 9, .int .i64 id, .bool dup, .string t, .string x, .int .i64 q, .bool r, .int .i64 x0, .bool x1, .int .i64 x2, .string x3, .bool x4, .string x5, .string x6, .int .i64 x7, .bool x8, .bool x9, .string x10, .bool x11, .string x12, .bool pres, .int .i64 code, f1, c1] 33))
  have P0 : Hid (QC w #[.int .i64 9, .int .i64 id, .bool dup, .string t, .string x, .int .i64 q, .bool r, .int .i64 x0, .bool x1, .int .i64 x2, .string x3, .bool x4, .string x5, .string x6, .int .i64 x7, .bool x8, .bool x9, .string x10, .bool x11, .string x12, .bool pres, .int .i64 code, f1, c1] #[.int .i64 9, .int .i64 0, .bool false, .string ⟨#[]⟩, .string ⟨#[]⟩, .int .i64 0, .bool false, .int .i64 0, .bool false, .int .i64 0, .string ⟨#[]⟩, .bool false, .string ⟨#[]⟩, .string ⟨#[]⟩, .int .i64 0, .bool false, .bool false, .string ⟨#[]⟩, .bool false, .string ⟨#[]⟩, .bool false, .int .i64 0, .slice none 0 0, .slice none 0 0] (((w.alloc (.cells #[.int .i64 9, .int .i64 id, .bool dup, .string t, .string x, .int .i64 q, .bool r, .int .i64 x0, .bool x1, .int .i64 x2, .string x3, .bool x4, .string x5, .string x6, .int .i64 x7, .bool x8, .bool x9, .string x10, .bool x11, .string x12, .bool pres, .int .i64 code, f1, c1] 33)).alloc (.cells #[.int .i64 0, .int .i64 0, .bool false, .string ⟨#[]⟩, .string ⟨#[]⟩, .int .i64 0, .bool false, .int .i64 0, .bool false, .int .i64 0, .string ⟨#[]⟩, .bool false, .string ⟨#[]⟩, .string ⟨#[]⟩, .int .i64 0, .bool false, .bool false, .string ⟨#[]⟩, .bool false, .string ⟨#[]⟩, .bool false, .int .i64 0, .slice none 0 0, .slice none 0 0] 33)).alloc (.cells #[.int .i64 9, .int .i64 0, .bool false, .string ⟨#[]⟩, .string ⟨#[]⟩, .int .i64 0, .bool false, .int .i64 0, .bool false, .int .i64 0, .string ⟨#[]⟩, .bool false, .string ⟨#[]⟩, .string ⟨#[]⟩, .int .i64 0, .bool false, .bool false, .string ⟨#[]⟩, .bool false, .string ⟨#[]⟩, .bool false, .int .i64 0, .slice none 0 0, .slice none 0 0] 33))) := Lib.hid (QC.start w #[.int .i64 9, .int .i64 id, .bool dup, .string t, .string x, .int .i64 q, .bool r, .int .i64 x0, .bool x1, .int .i64 x2, .string x3, .bool x4, .string x5, .string x6, .int .i64 x7, .bool x8, .bool x9, .string x10, .bool x11, .string x12, .bool pres, .int .i64 code, f1, c1] 9)
  rw [show Pk.v ⟨9, id, dup, t, x, q, r, ⟨x0, x1, x2, x3, x4, x5, x6, x7, x8, x9, x10, x11, x12⟩, pres, code, fl, cl⟩ f1 c1 = #[.int .i64 9, .int .i64 id, .bool dup, .string t, .string x, .int .i64 q, .bool r, .int .i64 x0, .bool x1, .int .i64 x2, .string x3, .bool x4, .string x5, .string x6, .int .i64 x7, .bool x8, .bool x9, .string x10, .bool x11, .string x12, .bool pres, .int .i64 code, f1, c1] from rfl]
  go_enter Tryd.func14, Tryd.ntmps14
  go_wp2_with (refine wpList_store_row rfl 33 (.tmp 3) (.tmp 8) rfl (w.heap.size + 1 + 1) #[.int .i64 9, .int .i64 0, .bool false, .string ⟨#[]⟩, .string ⟨#[]⟩, .int .i64 0, .bool false, .int .i64 0, .bool false, .int .i64 0, .string ⟨#[]⟩, .bool false, .string ⟨#[]⟩, .string ⟨#[]⟩, .int .i64 0, .bool false, .bool false, .string ⟨#[]⟩, .bool false, .string ⟨#[]⟩, .bool false, .int .i64 0, .slice none 0 0, .slice none 0 0] rfl rfl 33 #[.int .i64 0, .int .i64 0, .bool false, .string ⟨#[]⟩, .string ⟨#[]⟩, .int .i64 0, .bool false, .int .i64 0, .bool false, .int .i64 0, .string ⟨#[]⟩, .bool false, .string ⟨#[]⟩, .string ⟨#[]⟩, .int .i64 0, .bool false, .bool false, .string ⟨#[]⟩, .bool false, .string ⟨#[]⟩, .bool false, .int .i64 0, .slice none 0 0, .slice none 0 0] ?_ (lit_size _) rfl (lit_one _) ?_; exact A0.out; rw [A1.out]; clear A0 A1; generalize ((w.alloc (.cells #[.int .i64 9, .int .i64 id, .bool dup, .string t, .string x, .int .i64 q, .bool r, .int .i64 x0, .bool x1, .int .i64 x2, .string x3, .bool x4, .string x5, .string x6, .int .i64 x7, .bool x8, .bool x9, .string x10, .bool x11, .string x12, .bool pres, .int .i64 code, f1, c1] 33)).alloc (.cells #[.int .i64 0, .int .i64 0, .bool false, .string ⟨#[]⟩, .string ⟨#[]⟩, .int .i64 0, .bool false, .int .i64 0, .bool false, .int .i64 0, .string ⟨#[]⟩, .bool false, .string ⟨#[]⟩, .string ⟨#[]⟩, .int .i64 0, .bool false, .bool false, .string ⟨#[]⟩, .bool false, .string ⟨#[]⟩, .bool false, .int .i64 0, .slice none 0 0, .slice none 0 0] 33)).alloc (.cells #[.int .i64 9, .int .i64 0, .bool false, .string ⟨#[]⟩, .string ⟨#[]⟩, .int .i64 0, .bool false, .int .i64 0, .bool false, .int .i64 0, .string ⟨#[]⟩, .bool false, .string ⟨#[]⟩, .string ⟨#[]⟩, .int .i64 0, .bool false, .bool false, .string ⟨#[]⟩, .bool false, .string ⟨#[]⟩, .bool false, .int .i64 0, .slice none 0 0, .slice none 0 0] 33) = W0 at *; have X0 : W0.cell? ⟨w.heap.size, 0, none⟩ = some (.int .i64 9) := (P0.out.x.cell 0).trans rfl; have X1 : W0.cell? ⟨w.heap.size, 1, none⟩ = some (.int .i64 id) := (P0.out.x.cell 1).trans rfl; have X23 : W0.cell? ⟨w.heap.size, 23, none⟩ = some (c1) := (P0.out.x.cell 23).trans rfl; have D1 : W0.cell? ⟨w.heap.size + 1 + 1, 1, none⟩ = some (.int .i64 0) := (P0.out.p.cell 1).trans rfl; have D23 : W0.cell? ⟨w.heap.size + 1 + 1, 23, none⟩ = some (.slice none 0 0) := (P0.out.p.cell 23).trans rfl; have fz := fun i => P0.out.p.fz i)
  have CL := Lib.hid (clone_i c1 cl W0.drew (hv0.keep (P0.out.bw.trans ((ext_drew W0).mono P0.out.bw.size)) (Nat.le_refl _)) hb0)
  have P5 := Lib.hid (P0.out.ext (ext_drew W0))
  have z5 := Lib.hid P0.out.p.lt
  clear P0 hv0 hb0
  refine wp_region_held_drew (S := fun W => W.cell? ⟨w.heap.size, 1, none⟩ = some (.int .i64 id) ∧ W.cell? ⟨w.heap.size, 23, none⟩ = some c1) (by kernel_rfl) ⟨(P5.out.x.cell 1).trans rfl, (P5.out.x.cell 23).trans rfl⟩ (fun hHeld => ?_)
  refine wpAnyH_take (i := 0) (oi := _) (v := ?zv0) rfl (by kernel_rfl) (by kernel_rfl) (by kernel_rfl) (fun _ _ _ h => h) (Or.inl ⟨by rfl, ?zy0⟩) (by assumption) ?zr0
  case zy0 => (intro w hSw; have c1' := hSw.1; have c2' := hSw.2; go_simp <;> with_reducible rfl)
  try simp only [Act.put, List.setIfInBounds_toArray, List.set_cons_zero, List.set_cons_succ]
  refine wpAnyH_take (i := 1) (oi := _) (v := ?zv1) rfl (by kernel_rfl) (by kernel_rfl) (by kernel_rfl) (fun _ _ _ h => h) (Or.inl ⟨by rfl, ?zy1⟩) (by assumption) ?zr1
  case zy1 => (intro w hSw; have c1' := hSw.1; have c2' := hSw.2; go_simp <;> with_reducible rfl)
  try simp only [Act.put, List.setIfInBounds_toArray, List.set_cons_zero, List.set_cons_succ]
  refine wpAnyH_take (i := 2) (oi := _) (v := ?zv2) rfl (by kernel_rfl) (by kernel_rfl) (by kernel_rfl) (fun _ _ _ h => h) (Or.inl ⟨by rfl, ?zy2⟩) (by assumption) ?zr2
  case zy2 => (intro w hSw; have c1' := hSw.1; have c2' := hSw.2; go_simp <;> with_reducible rfl)
  try simp only [Act.put, List.setIfInBounds_toArray, List.set_cons_zero, List.set_cons_succ]
  refine wpAnyH_take (i := 3) (oi := _) (v := ?zv3) rfl (by kernel_rfl) (by kernel_rfl) (by kernel_rfl) (fun _ _ _ h => h) (Or.inl ⟨by rfl, ?zy3⟩) (by assumption) ?zr3
  case zy3 => (intro w hSw; have c1' := hSw.1; have c2' := hSw.2; go_simp <;> with_reducible rfl)
  try simp only [Act.put, List.setIfInBounds_toArray, List.set_cons_zero, List.set_cons_succ]
  refine wpAnyH_take (i := 5) (oi := _) (v := ?zv5) rfl (by kernel_rfl) (by kernel_rfl) (by kernel_rfl) (fun _ _ _ h => h) (Or.inl ⟨by rfl, ?zy5⟩) (by assumption) ?zr5
  case zy5 => (intro w hSw; have c1' := hSw.1; have c2' := hSw.2; go_simp <;> with_reducible rfl)
  try simp only [Act.put, List.setIfInBounds_toArray, List.set_cons_zero, List.set_cons_succ]
  refine wpAnyH_ready (rs := [4]) (by kernel_rfl) (by simp) ?_
  refine AllReadyH.cons (o := _) rfl (fun K hK => ?_) AllReadyH.nil
  go_simp
  refine (CL.out).mono ?_
  rintro e W6 ⟨v, rfl, ⟨hv, hfr⟩, b6⟩
  go_wp2_with fail
  refine hK _ _ ⟨((P5.out.ext b6).x.cell 1).trans rfl, ((P5.out.ext b6).x.cell 23).trans rfl⟩ (fun hHeld2 => ?_)
  clear hK K
  try simp only [Act.put, List.setIfInBounds_toArray, List.set_cons_zero, List.set_cons_succ]
  have P6 := P5.out.ext b6
  clear X0 X1 X23 D1 D23 fz CL
  have D1 : W6.cell? ⟨w.heap.size + 1 + 1, 1, none⟩ = some (.int .i64 0) := (P6.p.cell 1).trans rfl
  have D23 : W6.cell? ⟨w.heap.size + 1 + 1, 23, none⟩ = some (.slice none 0 0) := (P6.p.cell 23).trans rfl
  have fz := fun i => P6.p.fz i
  have P1 : QC w _ (Pk.v (pkS 9 id cl) noS v) _ := (P6.set 1 (.int .i64 id)).set 23 v
  have P := Lib.hid P1
  have U := Lib.hid (P1.put (Pk.v (pkS 9 id cl) noS v))
  have hz : w.heap.size + 1 + 1 < W0.drew.heap.size := z5.out
  have F1 := (((But.refl (w.heap.size + 1 + 1) W6).set 1 (.int .i64 id)).set 23 v).ints hv hfr hz
  have FF := Lib.hid (And.intro ((but_setRow (But.refl (w.heap.size + 1) _) (Pk.v (pkS 9 id cl) noS v)).ints F1 hfr (by omega)) (Fresh.le (B := w.heap.size) hfr (by omega)))
  have V1 := Lib.hid (ints_one hv)
  obtain ⟨va, vc, rfl, -, -⟩ := hv
  clear P1 P5 b6 hfr F1
  have P7 := P6.set 1 (.int .i64 id)
  have D2' : (W6.setCell ⟨w.heap.size + 1 + 1, 1, none⟩ (.int .i64 id)).cell? ⟨w.heap.size + 1 + 1, 23, none⟩ = some (.slice none 0 0) := (P7.p.cell 23).trans rfl
  have fz7 := fun i => P7.p.fz i
  refine wpAnyH_ready (rs := [6]) (by kernel_rfl) (by simp) ?_
  refine AllReadyH.cons (o := _) rfl (fun K hK => ?_) AllReadyH.nil
  go_simp
  refine hK _ _ ⟨(P7.x.cell 1).trans rfl, (P7.x.cell 23).trans rfl⟩ (fun hHeld3 => ?_)
  clear hK K
  try simp only [Act.put, List.setIfInBounds_toArray, List.set_cons_zero, List.set_cons_succ]
  refine wpAnyH_take (i := 7) (oi := _) (v := ?zv7) rfl (by kernel_rfl) (by kernel_rfl) (by kernel_rfl) (fun _ _ _ h => h) (Or.inl ⟨by rfl, ?zy7⟩) (by assumption) ?zr7
  case zy7 => (intro w hSw; have c1' := hSw.1; have c2' := hSw.2; go_simp <;> with_reducible rfl)
  try simp only [Act.put, List.setIfInBounds_toArray, List.set_cons_zero, List.set_cons_succ]
  refine wpAnyH_ready (rs := [8]) (by kernel_rfl) (by simp) ?_
  refine AllReadyH.cons (o := _) rfl (fun K hK => ?_) AllReadyH.nil
  go_simp
  refine hK _ _ ⟨(P.out.x.cell 1).trans rfl, (P.out.x.cell 23).trans rfl⟩ (fun hHeld4 => ?_)
  clear hK K
  try simp only [Act.put, List.setIfInBounds_toArray, List.set_cons_zero, List.set_cons_succ]
  refine wpAnyH_done (by kernel_rfl) ?_ _
  clear hHeld hHeld2 hHeld3 hHeld4 P6 P7 D1 D23 D2' fz fz7
  go_wp2_with (first
    | (refine wpList_load_row rfl 33 (.tmp 3) rfl (w.heap.size + 1 + 1) rfl 33 (Pk.v (pkS 9 id cl) noS (.slice va cl.length vc)) (0, 0) _ ?_ Tryd.underlying33 rfl (pk_size (pkS 9 id cl) noS (.slice va cl.length vc)) ?_; exact P.out.p)
    | (refine wpList_store_row rfl 33 (.tmp 2) (.tmp 87) rfl (w.heap.size + 1) (Pk.v (pkS 9 id cl) noS (.slice va cl.length vc)) rfl rfl 33 (Z 0) ?_ (pk_size (pkS 9 id cl) noS (.slice va cl.length vc)) rfl (pk_one (pkS 9 id cl) noS (.slice va cl.length vc) rfl V1.out) ?_; exact P.out.r)
    )
  exact clean_end (P := pkS 9 id cl) U.out rfl (no_fis _ _) FF.out
set_option maxRecDepth 100000 in
set_option maxHeartbeats 4000000 in
theorem clean_5 (P : Pk) (f1 c1 : Value) (w : World) (hk : P.kind = 5) : Calls Tryd.prog 14 #[.agg (P.v f1 c1)] w (ClP (pkI 5 P.id) w) := by
  obtain ⟨kind, id, dup, t, x, q, r, ⟨x0, x1, x2, x3, x4, x5, x6, x7, x8, x9, x10, x11, x12⟩, pres, code, fl, cl⟩ := P
  simp only at hk
  subst hk
  have A0 := Lib.hid (cnew_row w (.cells #[.int .i64 5, .int .i64 id, .bool dup, .string t, .string x, .int .i64 q, .bool r, .int .i64 x0, .bool x1, .int .i64 x2, .string x3, .bool x4, .string x5, .string x6, .int .i64 x7, .bool x8, .bool x9, .string x10, .bool x11, .string x12, .bool pres, .int .i64 code, f1, c1] 33))
  have A1 := Lib.hid (cnew_set w (.cells #[.int .i64 5, .int .i64 id, .bool dup, .string t, .string x, .int .i64 q, .bool r, .int .i64 x0, .bool x1, .int .i64 x2, .string x3, .bool x4, .string x5, .string x6, .int .i64 x7, .bool x8, .bool x9, .string x10, .bool x11, .string x12, .bool pres, .int .i64 code, f1, c1] 33))
  have P := Lib.hid (mid_rows w (.cells #[.int .i64 5, .int .i64 id, .bool dup, .string t, .string x, .int .i64 q, .bool r, .int .i64 x0, .bool x1, .int .i64 x2, .string x3, .bool x4, .string x5, .string x6, .int .i64 x7, .bool x8, .bool x9, .string x10, .bool x11, .string x12, .bool pres, .int .i64 code, f1, c1] 33) #[.int .i64 5, .int .i64 id, .bool false, .string ⟨#[]⟩, .string ⟨#[]⟩, .int .i64 0, .bool false, .int .i64 0, .bool false, .int .i64 0, .string ⟨#[]⟩, .bool false, .string ⟨#[]⟩, .string ⟨#[]⟩, .int .i64 0, .bool false, .bool false, .string ⟨#[]⟩, .bool false, .string ⟨#[]⟩, .bool false, .int .i64 0, .slice none 0 0, .slice none 0 0])
  have A2 := Lib.hid (mid_set w (.cells #[.int .i64 5, .int .i64 id, .bool dup, .string t, .string x, .int .i64 q, .bool r, .int .i64 x0, .bool x1, .int .i64 x2, .string x3, .bool x4, .string x5, .string x6, .int .i64 x7, .bool x8, .bool x9, .string x10, .bool x11, .string x12, .bool pres, .int .i64 code, f1, c1] 33) #[.int .i64 5, .int .i64 id, .bool false, .string ⟨#[]⟩, .string ⟨#[]⟩, .int .i64 0, .bool false, .int .i64 0, .bool false, .int .i64 0, .string ⟨#[]⟩, .bool false, .string ⟨#[]⟩, .string ⟨#[]⟩, .int .i64 0, .bool false, .bool false, .string ⟨#[]⟩, .bool false, .string ⟨#[]⟩, .bool false, .int .i64 0, .slice none 0 0, .slice none 0 0])
  rw [show Pk.v ⟨5, id, dup, t, x, q, r, ⟨x0, x1, x2, x3, x4, x5, x6, x7, x8, x9, x10, x11, x12⟩, pres, code, fl, cl⟩ f1 c1 = #[.int .i64 5, .int .i64 id, .bool dup, .string t, .string x, .int .i64 q, .bool r, .int .i64 x0, .bool x1, .int .i64 x2, .string x3, .bool x4, .string x5, .string x6, .int .i64 x7, .bool x8, .bool x9, .string x10, .bool x11, .string x12, .bool pres, .int .i64 code, f1, c1] from rfl]
  go_enter Tryd.func14, Tryd.ntmps14
  go_wp2_with (first
    | (refine wpList_store_row rfl 33 (.tmp 3) (.tmp 8) rfl (w.heap.size + 1 + 1) #[.int .i64 5, .int .i64 0, .bool false, .string ⟨#[]⟩, .string ⟨#[]⟩, .int .i64 0, .bool false, .int .i64 0, .bool false, .int .i64 0, .string ⟨#[]⟩, .bool false, .string ⟨#[]⟩, .string ⟨#[]⟩, .int .i64 0, .bool false, .bool false, .string ⟨#[]⟩, .bool false, .string ⟨#[]⟩, .bool false, .int .i64 0, .slice none 0 0, .slice none 0 0] rfl rfl 33 #[.int .i64 0, .int .i64 0, .bool false, .string ⟨#[]⟩, .string ⟨#[]⟩, .int .i64 0, .bool false, .int .i64 0, .bool false, .int .i64 0, .string ⟨#[]⟩, .bool false, .string ⟨#[]⟩, .string ⟨#[]⟩, .int .i64 0, .bool false, .bool false, .string ⟨#[]⟩, .bool false, .string ⟨#[]⟩, .bool false, .int .i64 0, .slice none 0 0, .slice none 0 0] ?_ (lit_size _) rfl (lit_one _) ?_; exact A0.out; rw [A1.out])
    | (refine wpList_load_row rfl 33 (.tmp 3) rfl (w.heap.size + 1 + 1) rfl 33 #[.int .i64 5, .int .i64 id, .bool false, .string ⟨#[]⟩, .string ⟨#[]⟩, .int .i64 0, .bool false, .int .i64 0, .bool false, .int .i64 0, .string ⟨#[]⟩, .bool false, .string ⟨#[]⟩, .string ⟨#[]⟩, .int .i64 0, .bool false, .bool false, .string ⟨#[]⟩, .bool false, .string ⟨#[]⟩, .bool false, .int .i64 0, .slice none 0 0, .slice none 0 0] (0, 0) _ ?_ Tryd.underlying33 rfl (pk_size (pkI 5 id) noS noS) ?_; exact P.out.1)
    | (refine wpList_store_row rfl 33 (.tmp 2) (.tmp 87) rfl (w.heap.size + 1) #[.int .i64 5, .int .i64 id, .bool false, .string ⟨#[]⟩, .string ⟨#[]⟩, .int .i64 0, .bool false, .int .i64 0, .bool false, .int .i64 0, .string ⟨#[]⟩, .bool false, .string ⟨#[]⟩, .string ⟨#[]⟩, .int .i64 0, .bool false, .bool false, .string ⟨#[]⟩, .bool false, .string ⟨#[]⟩, .bool false, .int .i64 0, .slice none 0 0, .slice none 0 0] rfl rfl 33 #[.int .i64 0, .int .i64 0, .bool false, .string ⟨#[]⟩, .string ⟨#[]⟩, .int .i64 0, .bool false, .int .i64 0, .bool false, .int .i64 0, .string ⟨#[]⟩, .bool false, .string ⟨#[]⟩, .string ⟨#[]⟩, .int .i64 0, .bool false, .bool false, .string ⟨#[]⟩, .bool false, .string ⟨#[]⟩, .bool false, .int .i64 0, .slice none 0 0, .slice none 0 0] ?_ (pk_size (pkI 5 id) noS noS) rfl (pk_one (pkI 5 id) noS noS rfl rfl) ?_; exact P.out.2; rw [A2.out]))
  exact clean_end (P := pkI 5 id) (fs := noS) (cs := noS) (fin_row w _ _) rfl (no_fis _ _) (no_ints _ _)
set_option maxRecDepth 100000 in
set_option maxHeartbeats 4000000 in
theorem clean_6 (P : Pk) (f1 c1 : Value) (w : World) (hk : P.kind = 6) : Calls Tryd.prog 14 #[.agg (P.v f1 c1)] w (ClP (pkI 6 P.id) w) := by
  obtain ⟨kind, id, dup, t, x, q, r, ⟨x0, x1, x2, x3, x4, x5, x6, x7, x8, x9, x10, x11, x12⟩, pres, code, fl, cl⟩ := P
  simp only at hk
  subst hk
  have A0 := Lib.hid (cnew_row w (.cells #[.int .i64 6, .int .i64 id, .bool dup, .string t, .string x, .int .i64 q, .bool r, .int .i64 x0, .bool x1, .int .i64 x2, .string x3, .bool x4, .string x5, .string x6, .int .i64 x7, .bool x8, .bool x9, .string x10, .bool x11, .string x12, .bool pres, .int .i64 code, f1, c1] 33))
  have A1 := Lib.hid (cnew_set w (.cells #[.int .i64 6, .int .i64 id, .bool dup, .string t, .string x, .int .i64 q, .bool r, .int .i64 x0, .bool x1, .int .i64 x2, .string x3, .bool x4, .string x5, .string x6, .int .i64 x7, .bool x8, .bool x9, .string x10, .bool x11, .string x12, .bool pres, .int .i64 code, f1, c1] 33))
  have P := Lib.hid (mid_rows w (.cells #[.int .i64 6, .int .i64 id, .bool dup, .string t, .string x, .int .i64 q, .bool r, .int .i64 x0, .bool x1, .int .i64 x2, .string x3, .bool x4, .string x5, .string x6, .int .i64 x7, .bool x8, .bool x9, .string x10, .bool x11, .string x12, .bool pres, .int .i64 code, f1, c1] 33) #[.int .i64 6, .int .i64 id, .bool false, .string ⟨#[]⟩, .string ⟨#[]⟩, .int .i64 0, .bool false, .int .i64 0, .bool false, .int .i64 0, .string ⟨#[]⟩, .bool false, .string ⟨#[]⟩, .string ⟨#[]⟩, .int .i64 0, .bool false, .bool false, .string ⟨#[]⟩, .bool false, .string ⟨#[]⟩, .bool false, .int .i64 0, .slice none 0 0, .slice none 0 0])
  have A2 := Lib.hid (mid_set w (.cells #[.int .i64 6, .int .i64 id, .bool dup, .string t, .string x, .int .i64 q, .bool r, .int .i64 x0, .bool x1, .int .i64 x2, .string x3, .bool x4, .string x5, .string x6, .int .i64 x7, .bool x8, .bool x9, .string x10, .bool x11, .string x12, .bool pres, .int .i64 code, f1, c1] 33) #[.int .i64 6, .int .i64 id, .bool false, .string ⟨#[]⟩, .string ⟨#[]⟩, .int .i64 0, .bool false, .int .i64 0, .bool false, .int .i64 0, .string ⟨#[]⟩, .bool false, .string ⟨#[]⟩, .string ⟨#[]⟩, .int .i64 0, .bool false, .bool false, .string ⟨#[]⟩, .bool false, .string ⟨#[]⟩, .bool false, .int .i64 0, .slice none 0 0, .slice none 0 0])
  rw [show Pk.v ⟨6, id, dup, t, x, q, r, ⟨x0, x1, x2, x3, x4, x5, x6, x7, x8, x9, x10, x11, x12⟩, pres, code, fl, cl⟩ f1 c1 = #[.int .i64 6, .int .i64 id, .bool dup, .string t, .string x, .int .i64 q, .bool r, .int .i64 x0, .bool x1, .int .i64 x2, .string x3, .bool x4, .string x5, .string x6, .int .i64 x7, .bool x8, .bool x9, .string x10, .bool x11, .string x12, .bool pres, .int .i64 code, f1, c1] from rfl]
  go_enter Tryd.func14, Tryd.ntmps14
  go_wp2_with (first
    | (refine wpList_store_row rfl 33 (.tmp 3) (.tmp 8) rfl (w.heap.size + 1 + 1) #[.int .i64 6, .int .i64 0, .bool false, .string ⟨#[]⟩, .string ⟨#[]⟩, .int .i64 0, .bool false, .int .i64 0, .bool false, .int .i64 0, .string ⟨#[]⟩, .bool false, .string ⟨#[]⟩, .string ⟨#[]⟩, .int .i64 0, .bool false, .bool false, .string ⟨#[]⟩, .bool false, .string ⟨#[]⟩, .bool false, .int .i64 0, .slice none 0 0, .slice none 0 0] rfl rfl 33 #[.int .i64 0, .int .i64 0, .bool false, .string ⟨#[]⟩, .string ⟨#[]⟩, .int .i64 0, .bool false, .int .i64 0, .bool false, .int .i64 0, .string ⟨#[]⟩, .bool false, .string ⟨#[]⟩, .string ⟨#[]⟩, .int .i64 0, .bool false, .bool false, .string ⟨#[]⟩, .bool false, .string ⟨#[]⟩, .bool false, .int .i64 0, .slice none 0 0, .slice none 0 0] ?_ (lit_size _) rfl (lit_one _) ?_; exact A0.out; rw [A1.out])
    | (refine wpList_load_row rfl 33 (.tmp 3) rfl (w.heap.size + 1 + 1) rfl 33 #[.int .i64 6, .int .i64 id, .bool false, .string ⟨#[]⟩, .string ⟨#[]⟩, .int .i64 0, .bool false, .int .i64 0, .bool false, .int .i64 0, .string ⟨#[]⟩, .bool false, .string ⟨#[]⟩, .string ⟨#[]⟩, .int .i64 0, .bool false, .bool false, .string ⟨#[]⟩, .bool false, .string ⟨#[]⟩, .bool false, .int .i64 0, .slice none 0 0, .slice none 0 0] (0, 0) _ ?_ Tryd.underlying33 rfl (pk_size (pkI 6 id) noS noS) ?_; exact P.out.1)
    | (refine wpList_store_row rfl 33 (.tmp 2) (.tmp 87) rfl (w.heap.size + 1) #[.int .i64 6, .int .i64 id, .bool false, .string ⟨#[]⟩, .string ⟨#[]⟩, .int .i64 0, .bool false, .int .i64 0, .bool false, .int .i64 0, .string ⟨#[]⟩, .bool false, .string ⟨#[]⟩, .string ⟨#[]⟩, .int .i64 0, .bool false, .bool false, .string ⟨#[]⟩, .bool false, .string ⟨#[]⟩, .bool false, .int .i64 0, .slice none 0 0, .slice none 0 0] rfl rfl 33 #[.int .i64 0, .int .i64 0, .bool false, .string ⟨#[]⟩, .string ⟨#[]⟩, .int .i64 0, .bool false, .int .i64 0, .bool false, .int .i64 0, .string ⟨#[]⟩, .bool false, .string ⟨#[]⟩, .string ⟨#[]⟩, .int .i64 0, .bool false, .bool false, .string ⟨#[]⟩, .bool false, .string ⟨#[]⟩, .bool false, .int .i64 0, .slice none 0 0, .slice none 0 0] ?_ (pk_size (pkI 6 id) noS noS) rfl (pk_one (pkI 6 id) noS noS rfl rfl) ?_; exact P.out.2; rw [A2.out]))
  exact clean_end (P := pkI 6 id) (fs := noS) (cs := noS) (fin_row w _ _) rfl (no_fis _ _) (no_ints _ _)
set_option maxRecDepth 100000 in
set_option maxHeartbeats 4000000 in
theorem clean_7 (P : Pk) (f1 c1 : Value) (w : World) (hk : P.kind = 7) : Calls Tryd.prog 14 #[.agg (P.v f1 c1)] w (ClP (pkI 7 P.id) w) := by
  obtain ⟨kind, id, dup, t, x, q, r, ⟨x0, x1, x2, x3, x4, x5, x6, x7, x8, x9, x10, x11, x12⟩, pres, code, fl, cl⟩ := P
  simp only at hk
  subst hk
  have A0 := Lib.hid (cnew_row w (.cells #[.int .i64 7, .int .i64 id, .bool dup, .string t, .string x, .int .i64 q, .bool r, .int .i64 x0, .bool x1, .int .i64 x2, .string x3, .bool x4, .string x5, .string x6, .int .i64 x7, .bool x8, .bool x9, .string x10, .bool x11, .string x12, .bool pres, .int .i64 code, f1, c1] 33))
  have A1 := Lib.hid (cnew_set w (.cells #[.int .i64 7, .int .i64 id, .bool dup, .string t, .string x, .int .i64 q, .bool r, .int .i64 x0, .bool x1, .int .i64 x2, .string x3, .bool x4, .string x5, .string x6, .int .i64 x7, .bool x8, .bool x9, .string x10, .bool x11, .string x12, .bool pres, .int .i64 code, f1, c1] 33))
  have P := Lib.hid (mid_rows w (.cells #[.int .i64 7, .int .i64 id, .bool dup, .string t, .string x, .int .i64 q, .bool r, .int .i64 x0, .bool x1, .int .i64 x2, .string x3, .bool x4, .string x5, .string x6, .int .i64 x7, .bool x8, .bool x9, .string x10, .bool x11, .string x12, .bool pres, .int .i64 code, f1, c1] 33) #[.int .i64 7, .int .i64 id, .bool false, .string ⟨#[]⟩, .string ⟨#[]⟩, .int .i64 0, .bool false, .int .i64 0, .bool false, .int .i64 0, .string ⟨#[]⟩, .bool false, .string ⟨#[]⟩, .string ⟨#[]⟩, .int .i64 0, .bool false, .bool false, .string ⟨#[]⟩, .bool false, .string ⟨#[]⟩, .bool false, .int .i64 0, .slice none 0 0, .slice none 0 0])
  have A2 := Lib.hid (mid_set w (.cells #[.int .i64 7, .int .i64 id, .bool dup, .string t, .string x, .int .i64 q, .bool r, .int .i64 x0, .bool x1, .int .i64 x2, .string x3, .bool x4, .string x5, .string x6, .int .i64 x7, .bool x8, .bool x9, .string x10, .bool x11, .string x12, .bool pres, .int .i64 code, f1, c1] 33) #[.int .i64 7, .int .i64 id, .bool false, .string ⟨#[]⟩, .string ⟨#[]⟩, .int .i64 0, .bool false, .int .i64 0, .bool false, .int .i64 0, .string ⟨#[]⟩, .bool false, .string ⟨#[]⟩, .string ⟨#[]⟩, .int .i64 0, .bool false, .bool false, .string ⟨#[]⟩, .bool false, .string ⟨#[]⟩, .bool false, .int .i64 0, .slice none 0 0, .slice none 0 0])
  rw [show Pk.v ⟨7, id, dup, t, x, q, r, ⟨x0, x1, x2, x3, x4, x5, x6, x7, x8, x9, x10, x11, x12⟩, pres, code, fl, cl⟩ f1 c1 = #[.int .i64 7, .int .i64 id, .bool dup, .string t, .string x, .int .i64 q, .bool r, .int .i64 x0, .bool x1, .int .i64 x2, .string x3, .bool x4, .string x5, .string x6, .int .i64 x7, .bool x8, .bool x9, .string x10, .bool x11, .string x12, .bool pres, .int .i64 code, f1, c1] from rfl]
  go_enter Tryd.func14, Tryd.ntmps14
  go_wp2_with (first
    | (refine wpList_store_row rfl 33 (.tmp 3) (.tmp 8) rfl (w.heap.size + 1 + 1) #[.int .i64 7, .int .i64 0, .bool false, .string ⟨#[]⟩, .string ⟨#[]⟩, .int .i64 0, .bool false, .int .i64 0, .bool false, .int .i64 0, .string ⟨#[]⟩, .bool false, .string ⟨#[]⟩, .string ⟨#[]⟩, .int .i64 0, .bool false, .bool false, .string ⟨#[]⟩, .bool false, .string ⟨#[]⟩, .bool false, .int .i64 0, .slice none 0 0, .slice none 0 0] rfl rfl 33 #[.int .i64 0, .int .i64 0, .bool false, .string ⟨#[]⟩, .string ⟨#[]⟩, .int .i64 0, .bool false, .int .i64 0, .bool false, .int .i64 0, .string ⟨#[]⟩, .bool false, .string ⟨#[]⟩, .string ⟨#[]⟩, .int .i64 0, .bool false, .bool false, .string ⟨#[]⟩, .bool false, .string ⟨#[]⟩, .bool false, .int .i64 0, .slice none 0 0, .slice none 0 0] ?_ (lit_size _) rfl (lit_one _) ?_; exact A0.out; rw [A1.out])
    | (refine wpList_load_row rfl 33 (.tmp 3) rfl (w.heap.size + 1 + 1) rfl 33 #[.int .i64 7, .int .i64 id, .bool false, .string ⟨#[]⟩, .string ⟨#[]⟩, .int .i64 0, .bool false, .int .i64 0, .bool false, .int .i64 0, .string ⟨#[]⟩, .bool false, .string ⟨#[]⟩, .string ⟨#[]⟩, .int .i64 0, .bool false, .bool false, .string ⟨#[]⟩, .bool false, .string ⟨#[]⟩, .bool false, .int .i64 0, .slice none 0 0, .slice none 0 0] (0, 0) _ ?_ Tryd.underlying33 rfl (pk_size (pkI 7 id) noS noS) ?_; exact P.out.1)
    | (refine wpList_store_row rfl 33 (.tmp 2) (.tmp 87) rfl (w.heap.size + 1) #[.int .i64 7, .int .i64 id, .bool false, .string ⟨#[]⟩, .string ⟨#[]⟩, .int .i64 0, .bool false, .int .i64 0, .bool false, .int .i64 0, .string ⟨#[]⟩, .bool false, .string ⟨#[]⟩, .string ⟨#[]⟩, .int .i64 0, .bool false, .bool false, .string ⟨#[]⟩, .bool false, .string ⟨#[]⟩, .bool false, .int .i64 0, .slice none 0 0, .slice none 0 0] rfl rfl 33 #[.int .i64 0, .int .i64 0, .bool false, .string ⟨#[]⟩, .string ⟨#[]⟩, .int .i64 0, .bool false, .int .i64 0, .bool false, .int .i64 0, .string ⟨#[]⟩, .bool false, .string ⟨#[]⟩, .string ⟨#[]⟩, .int .i64 0, .bool false, .bool false, .string ⟨#[]⟩, .bool false, .string ⟨#[]⟩, .bool false, .int .i64 0, .slice none 0 0, .slice none 0 0] ?_ (pk_size (pkI 7 id) noS noS) rfl (pk_one (pkI 7 id) noS noS rfl rfl) ?_; exact P.out.2; rw [A2.out]))
  exact clean_end (P := pkI 7 id) (fs := noS) (cs := noS) (fin_row w _ _) rfl (no_fis _ _) (no_ints _ _)
set_option maxRecDepth 100000 in
set_option maxHeartbeats 4000000 in
theorem clean_11 (P : Pk) (f1 c1 : Value) (w : World) (hk : P.kind = 11) : Calls Tryd.prog 14 #[.agg (P.v f1 c1)] w (ClP (pkI 11 P.id) w) := by
  obtain ⟨kind, id, dup, t, x, q, r, ⟨x0, x1, x2, x3, x4, x5, x6, x7, x8, x9, x10, x11, x12⟩, pres, code, fl, cl⟩ := P
  simp only at hk
  subst hk
  have A0 := Lib.hid (cnew_row w (.cells #[.int .i64 11, .int .i64 id, .bool dup, .string t, .string x, .int .i64 q, .bool r, .int .i64 x0, .bool x1, .int .i64 x2, .string x3, .bool x4, .string x5, .string x6, .int .i64 x7, .bool x8, .bool x9, .string x10, .bool x11, .string x12, .bool pres, .int .i64 code, f1, c1] 33))
  have A1 := Lib.hid (cnew_set w (.cells #[.int .i64 11, .int .i64 id, .bool dup, .string t, .string x, .int .i64 q, .bool r, .int .i64 x0, .bool x1, .int .i64 x2, .string x3, .bool x4, .string x5, .string x6, .int .i64 x7, .bool x8, .bool x9, .string x10, .bool x11, .string x12, .bool pres, .int .i64 code, f1, c1] 33))
  have P := Lib.hid (mid_rows w (.cells #[.int .i64 11, .int .i64 id, .bool dup, .string t, .string x, .int .i64 q, .bool r, .int .i64 x0, .bool x1, .int .i64 x2, .string x3, .bool x4, .string x5, .string x6, .int .i64 x7, .bool x8, .bool x9, .string x10, .bool x11, .string x12, .bool pres, .int .i64 code, f1, c1] 33) #[.int .i64 11, .int .i64 id, .bool false, .string ⟨#[]⟩, .string ⟨#[]⟩, .int .i64 0, .bool false, .int .i64 0, .bool false, .int .i64 0, .string ⟨#[]⟩, .bool false, .string ⟨#[]⟩, .string ⟨#[]⟩, .int .i64 0, .bool false, .bool false, .string ⟨#[]⟩, .bool false, .string ⟨#[]⟩, .bool false, .int .i64 0, .slice none 0 0, .slice none 0 0])
  have A2 := Lib.hid (mid_set w (.cells #[.int .i64 11, .int .i64 id, .bool dup, .string t, .string x, .int .i64 q, .bool r, .int .i64 x0, .bool x1, .int .i64 x2, .string x3, .bool x4, .string x5, .string x6, .int .i64 x7, .bool x8, .bool x9, .string x10, .bool x11, .string x12, .bool pres, .int .i64 code, f1, c1] 33) #[.int .i64 11, .int .i64 id, .bool false, .string ⟨#[]⟩, .string ⟨#[]⟩, .int .i64 0, .bool false, .int .i64 0, .bool false, .int .i64 0, .string ⟨#[]⟩, .bool false, .string ⟨#[]⟩, .string ⟨#[]⟩, .int .i64 0, .bool false, .bool false, .string ⟨#[]⟩, .bool false, .string ⟨#[]⟩, .bool false, .int .i64 0, .slice none 0 0, .slice none 0 0])
  rw [show Pk.v ⟨11, id, dup, t, x, q, r, ⟨x0, x1, x2, x3, x4, x5, x6, x7, x8, x9, x10, x11, x12⟩, pres, code, fl, cl⟩ f1 c1 = #[.int .i64 11, .int .i64 id, .bool dup, .string t, .string x, .int .i64 q, .bool r, .int .i64 x0, .bool x1, .int .i64 x2, .string x3, .bool x4, .string x5, .string x6, .int .i64 x7, .bool x8, .bool x9, .string x10, .bool x11, .string x12, .bool pres, .int .i64 code, f1, c1] from rfl]
  go_enter Tryd.func14, Tryd.ntmps14
  go_wp2_with (first
    | (refine wpList_store_row rfl 33 (.tmp 3) (.tmp 8) rfl (w.heap.size + 1 + 1) #[.int .i64 11, .int .i64 0, .bool false, .string ⟨#[]⟩, .string ⟨#[]⟩, .int .i64 0, .bool false, .int .i64 0, .bool false, .int .i64 0, .string ⟨#[]⟩, .bool false, .string ⟨#[]⟩, .string ⟨#[]⟩, .int .i64 0, .bool false, .bool false, .string ⟨#[]⟩, .bool false, .string ⟨#[]⟩, .bool false, .int .i64 0, .slice none 0 0, .slice none 0 0] rfl rfl 33 #[.int .i64 0, .int .i64 0, .bool false, .string ⟨#[]⟩, .string ⟨#[]⟩, .int .i64 0, .bool false, .int .i64 0, .bool false, .int .i64 0, .string ⟨#[]⟩, .bool false, .string ⟨#[]⟩, .string ⟨#[]⟩, .int .i64 0, .bool false, .bool false, .string ⟨#[]⟩, .bool false, .string ⟨#[]⟩, .bool false, .int .i64 0, .slice none 0 0, .slice none 0 0] ?_ (lit_size _) rfl (lit_one _) ?_; exact A0.out; rw [A1.out])
    | (refine wpList_load_row rfl 33 (.tmp 3) rfl (w.heap.size + 1 + 1) rfl 33 #[.int .i64 11, .int .i64 id, .bool false, .string ⟨#[]⟩, .string ⟨#[]⟩, .int .i64 0, .bool false, .int .i64 0, .bool false, .int .i64 0, .string ⟨#[]⟩, .bool false, .string ⟨#[]⟩, .string ⟨#[]⟩, .int .i64 0, .bool false, .bool false, .string ⟨#[]⟩, .bool false, .string ⟨#[]⟩, .bool false, .int .i64 0, .slice none 0 0, .slice none 0 0] (0, 0) _ ?_ Tryd.underlying33 rfl (pk_size (pkI 11 id) noS noS) ?_; exact P.out.1)
    | (refine wpList_store_row rfl 33 (.tmp 2) (.tmp 87) rfl (w.heap.size + 1) #[.int .i64 11, .int .i64 id, .bool false, .string ⟨#[]⟩, .string ⟨#[]⟩, .int .i64 0, .bool false, .int .i64 0, .bool false, .int .i64 0, .string ⟨#[]⟩, .bool false, .string ⟨#[]⟩, .string ⟨#[]⟩, .int .i64 0, .bool false, .bool false, .string ⟨#[]⟩, .bool false, .string ⟨#[]⟩, .bool false, .int .i64 0, .slice none 0 0, .slice none 0 0] rfl rfl 33 #[.int .i64 0, .int .i64 0, .bool false, .string ⟨#[]⟩, .string ⟨#[]⟩, .int .i64 0, .bool false, .int .i64 0, .bool false, .int .i64 0, .string ⟨#[]⟩, .bool false, .string ⟨#[]⟩, .string ⟨#[]⟩, .int .i64 0, .bool false, .bool false, .string ⟨#[]⟩, .bool false, .string ⟨#[]⟩, .bool false, .int .i64 0, .slice none 0 0, .slice none 0 0] ?_ (pk_size (pkI 11 id) noS noS) rfl (pk_one (pkI 11 id) noS noS rfl rfl) ?_; exact P.out.2; rw [A2.out]))
  exact clean_end (P := pkI 11 id) (fs := noS) (cs := noS) (fin_row w _ _) rfl (no_fis _ _) (no_ints _ _)
set_option maxRecDepth 100000 in
set_option maxHeartbeats 4000000 in
theorem clean_10 (P : Pk) (a : Option Addr) (cap : Nat) (c1 : Value) (w : World) (hk : P.kind = 10) (hv0 : FisAt w (.slice a P.fl.length cap) P.fl) (hb0 : P.fl.length * 24 ≤ 140737488355328) : Calls Tryd.prog 14 #[.agg (P.v (.slice a P.fl.length cap) c1)] w (ClP (pkF 10 P.id (P.fl.map stp0)) w) := by
  obtain ⟨a', cap', he, hl0, hc0⟩ := hv0
  simp only [Value.slice.injEq] at he
  obtain ⟨rfl, -, rfl⟩ := he
  obtain ⟨kind, id, dup, t, x, q, r, ⟨x0, x1, x2, x3, x4, x5, x6, x7, x8, x9, x10, x11, x12⟩, pres, code, fl, cl⟩ := P
  simp only at hk
  subst hk
  have A0 := Lib.hid (cnew_row w (.cells #[.int .i64 10, .int .i64 id, .bool dup, .string t, .string x, .int .i64 q, .bool r, .int .i64 x0, .bool x1, .int .i64 x2, .string x3, .bool x4, .string x5, .string x6, .int .i64 x7, .bool x8, .bool x9, .string x10, .bool x11, .string x12, .bool pres, .int .i64 code, .slice a fl.length cap, c1] 33))
  have A1 := Lib.hid (cnew_set w (.cells #[.int .i64 10, .int .i64 id, .bool dup, .string t, .string x, .int .i64 q, .bool r, .int .i64 x0, .bool x1, .int .i64 x2, .string x3, .bool x4, .string x5, .string x6, .int .i64 x7, .bool x8, .bool x9, .string x10, .bool x11, .string x12, .bool pres, .int .i64 code, .slice a fl.length cap, c1] 33))
  have P0 : Hid (QC w #[.int .i64 10, .int .i64 id, .bool dup, .string t, .string x, .int .i64 q, .bool r, .int .i64 x0, .bool x1, .int .i64 x2, .string x3, .bool x4, .string x5, .string x6, .int .i64 x7, .bool x8, .bool x9, .string x10, .bool x11, .string x12, .bool pres, .int .i64 code, .slice a fl.length cap, c1] #[.int .i64 10, .int .i64 0, .bool false, .string ⟨#[]⟩, .string ⟨#[]⟩, .int .i64 0, .bool false, .int .i64 0, .bool false, .int .i64 0, .string ⟨#[]⟩, .bool false, .string ⟨#[]⟩, .string ⟨#[]⟩, .int .i64 0, .bool false, .bool false, .string ⟨#[]⟩, .bool false, .string ⟨#[]⟩, .bool false, .int .i64 0, .slice none 0 0, .slice none 0 0] (((w.alloc (.cells #[.int .i64 10, .int .i64 id, .bool dup, .string t, .string x, .int .i64 q, .bool r, .int .i64 x0, .bool x1, .int .i64 x2, .string x3, .bool x4, .string x5, .string x6, .int .i64 x7, .bool x8, .bool x9, .string x10, .bool x11, .string x12, .bool pres, .int .i64 code, .slice a fl.length cap, c1] 33)).alloc (.cells #[.int .i64 0, .int .i64 0, .bool false, .string ⟨#[]⟩, .string ⟨#[]⟩, .int .i64 0, .bool false, .int .i64 0, .bool false, .int .i64 0, .string ⟨#[]⟩, .bool false, .string ⟨#[]⟩, .string ⟨#[]⟩, .int .i64 0, .bool false, .bool false, .string ⟨#[]⟩, .bool false, .string ⟨#[]⟩, .bool false, .int .i64 0, .slice none 0 0, .slice none 0 0] 33)).alloc (.cells #[.int .i64 10, .int .i64 0, .bool false, .string ⟨#[]⟩, .string ⟨#[]⟩, .int .i64 0, .bool false, .int .i64 0, .bool false, .int .i64 0, .string ⟨#[]⟩, .bool false, .string ⟨#[]⟩, .string ⟨#[]⟩, .int .i64 0, .bool false, .bool false, .string ⟨#[]⟩, .bool false, .string ⟨#[]⟩, .bool false, .int .i64 0, .slice none 0 0, .slice none 0 0] 33))) := Lib.hid (QC.start w #[.int .i64 10, .int .i64 id, .bool dup, .string t, .string x, .int .i64 q, .bool r, .int .i64 x0, .bool x1, .int .i64 x2, .string x3, .bool x4, .string x5, .string x6, .int .i64 x7, .bool x8, .bool x9, .string x10, .bool x11, .string x12, .bool pres, .int .i64 code, .slice a fl.length cap, c1] 10)
  rw [show Pk.v ⟨10, id, dup, t, x, q, r, ⟨x0, x1, x2, x3, x4, x5, x6, x7, x8, x9, x10, x11, x12⟩, pres, code, fl, cl⟩ (.slice a fl.length cap) c1 = #[.int .i64 10, .int .i64 id, .bool dup, .string t, .string x, .int .i64 q, .bool r, .int .i64 x0, .bool x1, .int .i64 x2, .string x3, .bool x4, .string x5, .string x6, .int .i64 x7, .bool x8, .bool x9, .string x10, .bool x11, .string x12, .bool pres, .int .i64 code, .slice a fl.length cap, c1] from rfl]
  obtain ⟨i0, z0, hi, hz0, hz1, hz2, hzs⟩ := info56
  simp only at hl0 hc0 hb0
  have hn' : (fl.length : Int) ≤ 140737488355328 := by omega
  replace hi := Lib.hid hi
  replace hz0 := Lib.hid hz0
  replace hz1 := Lib.hid hz1
  replace hz2 := Lib.hid hz2
  replace hzs := Lib.hid hzs
  replace hc0 := Lib.hid hc0
  go_enter Tryd.func14, Tryd.ntmps14
  go_wp2_with (refine wpList_store_row rfl 33 (.tmp 3) (.tmp 8) rfl (w.heap.size + 1 + 1) #[.int .i64 10, .int .i64 0, .bool false, .string ⟨#[]⟩, .string ⟨#[]⟩, .int .i64 0, .bool false, .int .i64 0, .bool false, .int .i64 0, .string ⟨#[]⟩, .bool false, .string ⟨#[]⟩, .string ⟨#[]⟩, .int .i64 0, .bool false, .bool false, .string ⟨#[]⟩, .bool false, .string ⟨#[]⟩, .bool false, .int .i64 0, .slice none 0 0, .slice none 0 0] rfl rfl 33 #[.int .i64 0, .int .i64 0, .bool false, .string ⟨#[]⟩, .string ⟨#[]⟩, .int .i64 0, .bool false, .int .i64 0, .bool false, .int .i64 0, .string ⟨#[]⟩, .bool false, .string ⟨#[]⟩, .string ⟨#[]⟩, .int .i64 0, .bool false, .bool false, .string ⟨#[]⟩, .bool false, .string ⟨#[]⟩, .bool false, .int .i64 0, .slice none 0 0, .slice none 0 0] ?_ (lit_size _) rfl (lit_one _) ?_; exact A0.out; rw [A1.out]; clear A0 A1; generalize ((w.alloc (.cells #[.int .i64 10, .int .i64 id, .bool dup, .string t, .string x, .int .i64 q, .bool r, .int .i64 x0, .bool x1, .int .i64 x2, .string x3, .bool x4, .string x5, .string x6, .int .i64 x7, .bool x8, .bool x9, .string x10, .bool x11, .string x12, .bool pres, .int .i64 code, .slice a fl.length cap, c1] 33)).alloc (.cells #[.int .i64 0, .int .i64 0, .bool false, .string ⟨#[]⟩, .string ⟨#[]⟩, .int .i64 0, .bool false, .int .i64 0, .bool false, .int .i64 0, .string ⟨#[]⟩, .bool false, .string ⟨#[]⟩, .string ⟨#[]⟩, .int .i64 0, .bool false, .bool false, .string ⟨#[]⟩, .bool false, .string ⟨#[]⟩, .bool false, .int .i64 0, .slice none 0 0, .slice none 0 0] 33)).alloc (.cells #[.int .i64 10, .int .i64 0, .bool false, .string ⟨#[]⟩, .string ⟨#[]⟩, .int .i64 0, .bool false, .int .i64 0, .bool false, .int .i64 0, .string ⟨#[]⟩, .bool false, .string ⟨#[]⟩, .string ⟨#[]⟩, .int .i64 0, .bool false, .bool false, .string ⟨#[]⟩, .bool false, .string ⟨#[]⟩, .bool false, .int .i64 0, .slice none 0 0, .slice none 0 0] 33) = W0 at *; have X0 : W0.cell? ⟨w.heap.size, 0, none⟩ = some (.int .i64 10) := (P0.out.x.cell 0).trans rfl; have X1 : W0.cell? ⟨w.heap.size, 1, none⟩ = some (.int .i64 id) := (P0.out.x.cell 1).trans rfl; have X22 : W0.cell? ⟨w.heap.size, 22, none⟩ = some (.slice a fl.length cap) := (P0.out.x.cell 22).trans rfl; have D1 : W0.cell? ⟨w.heap.size + 1 + 1, 1, none⟩ = some (.int .i64 0) := (P0.out.p.cell 1).trans rfl; have D22 : W0.cell? ⟨w.heap.size + 1 + 1, 22, none⟩ = some (.slice none 0 0) := (P0.out.p.cell 22).trans rfl; have fz := fun i => P0.out.p.fz i)
  have P1 : Hid (QC w _ (Pk.v (pkF 10 id []) (.slice none 0 0) noS) _) := Lib.hid (P0.out.set 1 (.int .i64 id))
  have z1 := Lib.hid P0.out.p.lt
  clear X0 X1 X22 D1 D22 fz P0
  go_loopw [65] (fun i wr => ∃ (k : Nat) (v : Value), i = .int .i64 (k : Int) ∧ k ≤ fl.length ∧ wr.ownsRow (w.heap.size + 1 + 1 + 1) 56 2 v k (fisC ((fl.take k).map stp0)) ∧ QC w #[.int .i64 10, .int .i64 id, .bool dup, .string t, .string x, .int .i64 q, .bool r, .int .i64 x0, .bool x1, .int .i64 x2, .string x3, .bool x4, .string x5, .string x6, .int .i64 x7, .bool x8, .bool x9, .string x10, .bool x11, .string x12, .bool pres, .int .i64 code, .slice a fl.length cap, c1] (Pk.v (pkF 10 id []) v noS) wr) (fun i _ => fl.length - (intOf i).toNat)
  case atStart => exact ⟨0, _, rfl, by omega, World.ownsRow_nil _ _ _ _, P1.out⟩
  case round =>
    clear P1 z1
    obtain ⟨k, v, rfl, hk, ho, hP⟩ := hrel
    by_cases hend : k = fl.length
    · subst hend
      rw [List.take_length] at ho
      have ho' : wr.ownsRow (w.heap.size + 1 + 1 + 1) 56 2 v (fl.map stp0).length (fisC (fl.map stp0)) := by rw [List.length_map]; exact ho
      have hF := FisAt.of_own ho' (by rw [List.length_map]; omega)
      have P := Lib.hid hP
      have U := Lib.hid (hP.put (Pk.v (pkF 10 id (fl.map stp0)) v noS))
      have FF := Lib.hid (And.intro ((but_setRow (But.refl (w.heap.size + 1) wr) (Pk.v (pkF 10 id (fl.map stp0)) v noS)).fis hF (fresh_own ho' (Nat.le_refl _)) (by omega)) (fresh_own (B := w.heap.size) ho' (by omega)))
      have V1 := Lib.hid (fis_one hF)
      obtain ⟨va, vc, rfl⟩ := own_slice ho
      clear ho ho' hF hP
      go_wp2_with (first
    | (refine wpList_load_row rfl 33 (.tmp 3) rfl (w.heap.size + 1 + 1) rfl 33 (Pk.v (pkF 10 id []) (.slice va fl.length vc) noS) (0, 0) _ ?_ Tryd.underlying33 rfl (pk_size (pkF 10 id []) (.slice va fl.length vc) noS) ?_; exact P.out.p)
    | (refine wpList_store_row rfl 33 (.tmp 2) (.tmp 87) rfl (w.heap.size + 1) (Pk.v (pkF 10 id []) (.slice va fl.length vc) noS) rfl rfl 33 (Z 0) ?_ (pk_size (pkF 10 id []) (.slice va fl.length vc) noS) rfl (pk_one (pkF 10 id []) (.slice va fl.length vc) noS V1.out rfl) ?_; exact P.out.r)
        )
      exact clean_end (P := pkF 10 id (fl.map stp0)) U.out rfl FF.out (no_ints _ _)
    have hkl : k < fl.length := by omega
    have klt : (k : Int) < (fl.length : Int) := by omega
    obtain ⟨f, hf⟩ : ∃ f, fl[k]? = some f := ⟨_, List.getElem?_eq_getElem hkl⟩
    obtain ⟨b1, o1, rfl, hbl1, e1, e2⟩ := fi_at hf hP.bw hc0.out
    obtain ⟨ft, fq⟩ := f
    simp only at e1 e2
    obtain ⟨va, vc, rfl⟩ := own_slice ho
    have D22 : (wr.alloc (.cells #[.string ft, .int .i64 fq] 56)).cell? ⟨w.heap.size + 1 + 1, 22, none⟩ = some (.slice va k vc) := ((hP.p.alloc _).cell 22).trans rfl
    have HP := Lib.hid ((hP.alloc (.cells #[.string ft, .int .i64 fq] 56)).alloc (.cells #[.string ft, .int .i64 0] 56))
    have HO := Lib.hid ((ho.alloc (.cells #[.string ft, .int .i64 fq] 56)).alloc (.cells #[.string ft, .int .i64 0] 56))
    have hz3 : w.heap.size + 1 + 1 + 1 ≤ wr.heap.size := hP.p.lt
    clear hP ho
    have hst : Hid (fisC ((fl.take (k + 1)).map stp0) = fisC ((fl.take k).map stp0) ++ [.string ft, .int .i64 0]) := Lib.hid (by
      rw [List.take_add_one, hf, List.map_append]
      simp [fisC, Fi.cells, stp0])
    replace hf := Lib.hid hf
    go_wp2_with (at_builtin; refine wpList_append_own_at _ rfl (.tmp 70) (.tmp 74) 30 rfl (w.heap.size + 1 + 1 + 1) 56 i0 z0 2 24 Tryd.underlying30 hi.out hz0.out hz1.out hz2.out hzs.out (by decide) (.slice va k vc) k _ rfl HO.out ⟨wr.heap.size + 1, 0, none⟩ 1 1 [.string ft, .int .i64 0] rfl rfl (cell_two_at _ _ _ _ _ (by simp)) (by intro u hu; simp at hu; rcases hu with rfl | rfl <;> rfl) (by unfold maxLen; omega) (by omega) (by simp; omega) ?_; intro v4 w4 o4 g4 n4 nb4; have P4 := HP.out.grown HO.out (by simp; omega) g4; have D4 : w4.cell? ⟨w.heap.size + 1 + 1, 22, none⟩ = some (.slice va k vc) := (P4.p.cell 22).trans rfl; have fz4 := P4.p.fz; obtain ⟨q4, r4, rfl⟩ := own_slice o4; have O4 := Lib.hid o4; replace P4 := Lib.hid P4; clear n4 nb4 g4 o4 D22)
    go_roundw
    case rel => exact ⟨k + 1, _, by simp, by omega, by rw [hst.out]; exact own_far_set O4.out (by omega), P4.out.set 22 _⟩
    case measure => simp [intOf]; omega
set_option maxRecDepth 100000 in
set_option maxHeartbeats 4000000 in
theorem clean_12 (P : Pk) (f1 c1 : Value) (w : World) (hk : P.kind = 12) : Calls Tryd.prog 14 #[.agg (P.v f1 c1)] w (ClP (pk0 12) w) := by
  obtain ⟨kind, id, dup, t, x, q, r, ⟨x0, x1, x2, x3, x4, x5, x6, x7, x8, x9, x10, x11, x12⟩, pres, code, fl, cl⟩ := P
  simp only at hk
  subst hk
  have A0 := Lib.hid (cnew_row w (.cells #[.int .i64 12, .int .i64 id, .bool dup, .string t, .string x, .int .i64 q, .bool r, .int .i64 x0, .bool x1, .int .i64 x2, .string x3, .bool x4, .string x5, .string x6, .int .i64 x7, .bool x8, .bool x9, .string x10, .bool x11, .string x12, .bool pres, .int .i64 code, f1, c1] 33))
  have A1 := Lib.hid (cnew_set w (.cells #[.int .i64 12, .int .i64 id, .bool dup, .string t, .string x, .int .i64 q, .bool r, .int .i64 x0, .bool x1, .int .i64 x2, .string x3, .bool x4, .string x5, .string x6, .int .i64 x7, .bool x8, .bool x9, .string x10, .bool x11, .string x12, .bool pres, .int .i64 code, f1, c1] 33))
  have P := Lib.hid (mid_rows w (.cells #[.int .i64 12, .int .i64 id, .bool dup, .string t, .string x, .int .i64 q, .bool r, .int .i64 x0, .bool x1, .int .i64 x2, .string x3, .bool x4, .string x5, .string x6, .int .i64 x7, .bool x8, .bool x9, .string x10, .bool x11, .string x12, .bool pres, .int .i64 code, f1, c1] 33) #[.int .i64 12, .int .i64 0, .bool false, .string ⟨#[]⟩, .string ⟨#[]⟩, .int .i64 0, .bool false, .int .i64 0, .bool false, .int .i64 0, .string ⟨#[]⟩, .bool false, .string ⟨#[]⟩, .string ⟨#[]⟩, .int .i64 0, .bool false, .bool false, .string ⟨#[]⟩, .bool false, .string ⟨#[]⟩, .bool false, .int .i64 0, .slice none 0 0, .slice none 0 0])
  have A2 := Lib.hid (mid_set w (.cells #[.int .i64 12, .int .i64 id, .bool dup, .string t, .string x, .int .i64 q, .bool r, .int .i64 x0, .bool x1, .int .i64 x2, .string x3, .bool x4, .string x5, .string x6, .int .i64 x7, .bool x8, .bool x9, .string x10, .bool x11, .string x12, .bool pres, .int .i64 code, f1, c1] 33) #[.int .i64 12, .int .i64 0, .bool false, .string ⟨#[]⟩, .string ⟨#[]⟩, .int .i64 0, .bool false, .int .i64 0, .bool false, .int .i64 0, .string ⟨#[]⟩, .bool false, .string ⟨#[]⟩, .string ⟨#[]⟩, .int .i64 0, .bool false, .bool false, .string ⟨#[]⟩, .bool false, .string ⟨#[]⟩, .bool false, .int .i64 0, .slice none 0 0, .slice none 0 0])
  rw [show Pk.v ⟨12, id, dup, t, x, q, r, ⟨x0, x1, x2, x3, x4, x5, x6, x7, x8, x9, x10, x11, x12⟩, pres, code, fl, cl⟩ f1 c1 = #[.int .i64 12, .int .i64 id, .bool dup, .string t, .string x, .int .i64 q, .bool r, .int .i64 x0, .bool x1, .int .i64 x2, .string x3, .bool x4, .string x5, .string x6, .int .i64 x7, .bool x8, .bool x9, .string x10, .bool x11, .string x12, .bool pres, .int .i64 code, f1, c1] from rfl]
  go_enter Tryd.func14, Tryd.ntmps14
  go_wp2_with (first
    | (refine wpList_store_row rfl 33 (.tmp 3) (.tmp 8) rfl (w.heap.size + 1 + 1) #[.int .i64 12, .int .i64 0, .bool false, .string ⟨#[]⟩, .string ⟨#[]⟩, .int .i64 0, .bool false, .int .i64 0, .bool false, .int .i64 0, .string ⟨#[]⟩, .bool false, .string ⟨#[]⟩, .string ⟨#[]⟩, .int .i64 0, .bool false, .bool false, .string ⟨#[]⟩, .bool false, .string ⟨#[]⟩, .bool false, .int .i64 0, .slice none 0 0, .slice none 0 0] rfl rfl 33 #[.int .i64 0, .int .i64 0, .bool false, .string ⟨#[]⟩, .string ⟨#[]⟩, .int .i64 0, .bool false, .int .i64 0, .bool false, .int .i64 0, .string ⟨#[]⟩, .bool false, .string ⟨#[]⟩, .string ⟨#[]⟩, .int .i64 0, .bool false, .bool false, .string ⟨#[]⟩, .bool false, .string ⟨#[]⟩, .bool false, .int .i64 0, .slice none 0 0, .slice none 0 0] ?_ (lit_size _) rfl (lit_one _) ?_; exact A0.out; rw [A1.out])
    | (refine wpList_load_row rfl 33 (.tmp 3) rfl (w.heap.size + 1 + 1) rfl 33 #[.int .i64 12, .int .i64 0, .bool false, .string ⟨#[]⟩, .string ⟨#[]⟩, .int .i64 0, .bool false, .int .i64 0, .bool false, .int .i64 0, .string ⟨#[]⟩, .bool false, .string ⟨#[]⟩, .string ⟨#[]⟩, .int .i64 0, .bool false, .bool false, .string ⟨#[]⟩, .bool false, .string ⟨#[]⟩, .bool false, .int .i64 0, .slice none 0 0, .slice none 0 0] (0, 0) _ ?_ Tryd.underlying33 rfl (pk_size (pk0 12) noS noS) ?_; exact P.out.1)
    | (refine wpList_store_row rfl 33 (.tmp 2) (.tmp 87) rfl (w.heap.size + 1) #[.int .i64 12, .int .i64 0, .bool false, .string ⟨#[]⟩, .string ⟨#[]⟩, .int .i64 0, .bool false, .int .i64 0, .bool false, .int .i64 0, .string ⟨#[]⟩, .bool false, .string ⟨#[]⟩, .string ⟨#[]⟩, .int .i64 0, .bool false, .bool false, .string ⟨#[]⟩, .bool false, .string ⟨#[]⟩, .bool false, .int .i64 0, .slice none 0 0, .slice none 0 0] rfl rfl 33 #[.int .i64 0, .int .i64 0, .bool false, .string ⟨#[]⟩, .string ⟨#[]⟩, .int .i64 0, .bool false, .int .i64 0, .bool false, .int .i64 0, .string ⟨#[]⟩, .bool false, .string ⟨#[]⟩, .string ⟨#[]⟩, .int .i64 0, .bool false, .bool false, .string ⟨#[]⟩, .bool false, .string ⟨#[]⟩, .bool false, .int .i64 0, .slice none 0 0, .slice none 0 0] ?_ (pk_size (pk0 12) noS noS) rfl (pk_one (pk0 12) noS noS rfl rfl) ?_; exact P.out.2; rw [A2.out]))
  exact clean_end (P := pk0 12) (fs := noS) (cs := noS) (fin_row w _ _) rfl (no_fis _ _) (no_ints _ _)
set_option maxRecDepth 100000 in
set_option maxHeartbeats 4000000 in
theorem clean_13 (P : Pk) (f1 c1 : Value) (w : World) (hk : P.kind = 13) : Calls Tryd.prog 14 #[.agg (P.v f1 c1)] w (ClP (pk0 13) w) := by
  obtain ⟨kind, id, dup, t, x, q, r, ⟨x0, x1, x2, x3, x4, x5, x6, x7, x8, x9, x10, x11, x12⟩, pres, code, fl, cl⟩ := P
  simp only at hk
  subst hk
  have A0 := Lib.hid (cnew_row w (.cells #[.int .i64 13, .int .i64 id, .bool dup, .string t, .string x, .int .i64 q, .bool r, .int .i64 x0, .bool x1, .int .i64 x2, .string x3, .bool x4, .string x5, .string x6, .int .i64 x7, .bool x8, .bool x9, .string x10, .bool x11, .string x12, .bool pres, .int .i64 code, f1, c1] 33))
  have A1 := Lib.hid (cnew_set w (.cells #[.int .i64 13, .int .i64 id, .bool dup, .string t, .string x, .int .i64 q, .bool r, .int .i64 x0, .bool x1, .int .i64 x2, .string x3, .bool x4, .string x5, .string x6, .int .i64 x7, .bool x8, .bool x9, .string x10, .bool x11, .string x12, .bool pres, .int .i64 code, f1, c1] 33))
  have P := Lib.hid (mid_rows w (.cells #[.int .i64 13, .int .i64 id, .bool dup, .string t, .string x, .int .i64 q, .bool r, .int .i64 x0, .bool x1, .int .i64 x2, .string x3, .bool x4, .string x5, .string x6, .int .i64 x7, .bool x8, .bool x9, .string x10, .bool x11, .string x12, .bool pres, .int .i64 code, f1, c1] 33) #[.int .i64 13, .int .i64 0, .bool false, .string ⟨#[]⟩, .string ⟨#[]⟩, .int .i64 0, .bool false, .int .i64 0, .bool false, .int .i64 0, .string ⟨#[]⟩, .bool false, .string ⟨#[]⟩, .string ⟨#[]⟩, .int .i64 0, .bool false, .bool false, .string ⟨#[]⟩, .bool false, .string ⟨#[]⟩, .bool false, .int .i64 0, .slice none 0 0, .slice none 0 0])
  have A2 := Lib.hid (mid_set w (.cells #[.int .i64 13, .int .i64 id, .bool dup, .string t, .string x, .int .i64 q, .bool r, .int .i64 x0, .bool x1, .int .i64 x2, .string x3, .bool x4, .string x5, .string x6, .int .i64 x7, .bool x8, .bool x9, .string x10, .bool x11, .string x12, .bool pres, .int .i64 code, f1, c1] 33) #[.int .i64 13, .int .i64 0, .bool false, .string ⟨#[]⟩, .string ⟨#[]⟩, .int .i64 0, .bool false, .int .i64 0, .bool false, .int .i64 0, .string ⟨#[]⟩, .bool false, .string ⟨#[]⟩, .string ⟨#[]⟩, .int .i64 0, .bool false, .bool false, .string ⟨#[]⟩, .bool false, .string ⟨#[]⟩, .bool false, .int .i64 0, .slice none 0 0, .slice none 0 0])
  rw [show Pk.v ⟨13, id, dup, t, x, q, r, ⟨x0, x1, x2, x3, x4, x5, x6, x7, x8, x9, x10, x11, x12⟩, pres, code, fl, cl⟩ f1 c1 = #[.int .i64 13, .int .i64 id, .bool dup, .string t, .string x, .int .i64 q, .bool r, .int .i64 x0, .bool x1, .int .i64 x2, .string x3, .bool x4, .string x5, .string x6, .int .i64 x7, .bool x8, .bool x9, .string x10, .bool x11, .string x12, .bool pres, .int .i64 code, f1, c1] from rfl]
  go_enter Tryd.func14, Tryd.ntmps14
  go_wp2_with (first
    | (refine wpList_store_row rfl 33 (.tmp 3) (.tmp 8) rfl (w.heap.size + 1 + 1) #[.int .i64 13, .int .i64 0, .bool false, .string ⟨#[]⟩, .string ⟨#[]⟩, .int .i64 0, .bool false, .int .i64 0, .bool false, .int .i64 0, .string ⟨#[]⟩, .bool false, .string ⟨#[]⟩, .string ⟨#[]⟩, .int .i64 0, .bool false, .bool false, .string ⟨#[]⟩, .bool false, .string ⟨#[]⟩, .bool false, .int .i64 0, .slice none 0 0, .slice none 0 0] rfl rfl 33 #[.int .i64 0, .int .i64 0, .bool false, .string ⟨#[]⟩, .string ⟨#[]⟩, .int .i64 0, .bool false, .int .i64 0, .bool false, .int .i64 0, .string ⟨#[]⟩, .bool false, .string ⟨#[]⟩, .string ⟨#[]⟩, .int .i64 0, .bool false, .bool false, .string ⟨#[]⟩, .bool false, .string ⟨#[]⟩, .bool false, .int .i64 0, .slice none 0 0, .slice none 0 0] ?_ (lit_size _) rfl (lit_one _) ?_; exact A0.out; rw [A1.out])
    | (refine wpList_load_row rfl 33 (.tmp 3) rfl (w.heap.size + 1 + 1) rfl 33 #[.int .i64 13, .int .i64 0, .bool false, .string ⟨#[]⟩, .string ⟨#[]⟩, .int .i64 0, .bool false, .int .i64 0, .bool false, .int .i64 0, .string ⟨#[]⟩, .bool false, .string ⟨#[]⟩, .string ⟨#[]⟩, .int .i64 0, .bool false, .bool false, .string ⟨#[]⟩, .bool false, .string ⟨#[]⟩, .bool false, .int .i64 0, .slice none 0 0, .slice none 0 0] (0, 0) _ ?_ Tryd.underlying33 rfl (pk_size (pk0 13) noS noS) ?_; exact P.out.1)
    | (refine wpList_store_row rfl 33 (.tmp 2) (.tmp 87) rfl (w.heap.size + 1) #[.int .i64 13, .int .i64 0, .bool false, .string ⟨#[]⟩, .string ⟨#[]⟩, .int .i64 0, .bool false, .int .i64 0, .bool false, .int .i64 0, .string ⟨#[]⟩, .bool false, .string ⟨#[]⟩, .string ⟨#[]⟩, .int .i64 0, .bool false, .bool false, .string ⟨#[]⟩, .bool false, .string ⟨#[]⟩, .bool false, .int .i64 0, .slice none 0 0, .slice none 0 0] rfl rfl 33 #[.int .i64 0, .int .i64 0, .bool false, .string ⟨#[]⟩, .string ⟨#[]⟩, .int .i64 0, .bool false, .int .i64 0, .bool false, .int .i64 0, .string ⟨#[]⟩, .bool false, .string ⟨#[]⟩, .string ⟨#[]⟩, .int .i64 0, .bool false, .bool false, .string ⟨#[]⟩, .bool false, .string ⟨#[]⟩, .bool false, .int .i64 0, .slice none 0 0, .slice none 0 0] ?_ (pk_size (pk0 13) noS noS) rfl (pk_one (pk0 13) noS noS rfl rfl) ?_; exact P.out.2; rw [A2.out]))
  exact clean_end (P := pk0 13) (fs := noS) (cs := noS) (fin_row w _ _) rfl (no_fis _ _) (no_ints _ _)
set_option maxRecDepth 100000 in
set_option maxHeartbeats 4000000 in
theorem clean_14 (P : Pk) (f1 c1 : Value) (w : World) (hk : P.kind = 14) : Calls Tryd.prog 14 #[.agg (P.v f1 c1)] w (ClP (pk0 14) w) := by
  obtain ⟨kind, id, dup, t, x, q, r, ⟨x0, x1, x2, x3, x4, x5, x6, x7, x8, x9, x10, x11, x12⟩, pres, code, fl, cl⟩ := P
  simp only at hk
  subst hk
  have A0 := Lib.hid (cnew_row w (.cells #[.int .i64 14, .int .i64 id, .bool dup, .string t, .string x, .int .i64 q, .bool r, .int .i64 x0, .bool x1, .int .i64 x2, .string x3, .bool x4, .string x5, .string x6, .int .i64 x7, .bool x8, .bool x9, .string x10, .bool x11, .string x12, .bool pres, .int .i64 code, f1, c1] 33))
  have A1 := Lib.hid (cnew_set w (.cells #[.int .i64 14, .int .i64 id, .bool dup, .string t, .string x, .int .i64 q, .bool r, .int .i64 x0, .bool x1, .int .i64 x2, .string x3, .bool x4, .string x5, .string x6, .int .i64 x7, .bool x8, .bool x9, .string x10, .bool x11, .string x12, .bool pres, .int .i64 code, f1, c1] 33))
  have P := Lib.hid (mid_rows w (.cells #[.int .i64 14, .int .i64 id, .bool dup, .string t, .string x, .int .i64 q, .bool r, .int .i64 x0, .bool x1, .int .i64 x2, .string x3, .bool x4, .string x5, .string x6, .int .i64 x7, .bool x8, .bool x9, .string x10, .bool x11, .string x12, .bool pres, .int .i64 code, f1, c1] 33) #[.int .i64 14, .int .i64 0, .bool false, .string ⟨#[]⟩, .string ⟨#[]⟩, .int .i64 0, .bool false, .int .i64 0, .bool false, .int .i64 0, .string ⟨#[]⟩, .bool false, .string ⟨#[]⟩, .string ⟨#[]⟩, .int .i64 0, .bool false, .bool false, .string ⟨#[]⟩, .bool false, .string ⟨#[]⟩, .bool false, .int .i64 0, .slice none 0 0, .slice none 0 0])
  have A2 := Lib.hid (mid_set w (.cells #[.int .i64 14, .int .i64 id, .bool dup, .string t, .string x, .int .i64 q, .bool r, .int .i64 x0, .bool x1, .int .i64 x2, .string x3, .bool x4, .string x5, .string x6, .int .i64 x7, .bool x8, .bool x9, .string x10, .bool x11, .string x12, .bool pres, .int .i64 code, f1, c1] 33) #[.int .i64 14, .int .i64 0, .bool false, .string ⟨#[]⟩, .string ⟨#[]⟩, .int .i64 0, .bool false, .int .i64 0, .bool false, .int .i64 0, .string ⟨#[]⟩, .bool false, .string ⟨#[]⟩, .string ⟨#[]⟩, .int .i64 0, .bool false, .bool false, .string ⟨#[]⟩, .bool false, .string ⟨#[]⟩, .bool false, .int .i64 0, .slice none 0 0, .slice none 0 0])
  rw [show Pk.v ⟨14, id, dup, t, x, q, r, ⟨x0, x1, x2, x3, x4, x5, x6, x7, x8, x9, x10, x11, x12⟩, pres, code, fl, cl⟩ f1 c1 = #[.int .i64 14, .int .i64 id, .bool dup, .string t, .string x, .int .i64 q, .bool r, .int .i64 x0, .bool x1, .int .i64 x2, .string x3, .bool x4, .string x5, .string x6, .int .i64 x7, .bool x8, .bool x9, .string x10, .bool x11, .string x12, .bool pres, .int .i64 code, f1, c1] from rfl]
  go_enter Tryd.func14, Tryd.ntmps14
  go_wp2_with (first
    | (refine wpList_store_row rfl 33 (.tmp 3) (.tmp 8) rfl (w.heap.size + 1 + 1) #[.int .i64 14, .int .i64 0, .bool false, .string ⟨#[]⟩, .string ⟨#[]⟩, .int .i64 0, .bool false, .int .i64 0, .bool false, .int .i64 0, .string ⟨#[]⟩, .bool false, .string ⟨#[]⟩, .string ⟨#[]⟩, .int .i64 0, .bool false, .bool false, .string ⟨#[]⟩, .bool false, .string ⟨#[]⟩, .bool false, .int .i64 0, .slice none 0 0, .slice none 0 0] rfl rfl 33 #[.int .i64 0, .int .i64 0, .bool false, .string ⟨#[]⟩, .string ⟨#[]⟩, .int .i64 0, .bool false, .int .i64 0, .bool false, .int .i64 0, .string ⟨#[]⟩, .bool false, .string ⟨#[]⟩, .string ⟨#[]⟩, .int .i64 0, .bool false, .bool false, .string ⟨#[]⟩, .bool false, .string ⟨#[]⟩, .bool false, .int .i64 0, .slice none 0 0, .slice none 0 0] ?_ (lit_size _) rfl (lit_one _) ?_; exact A0.out; rw [A1.out])
    | (refine wpList_load_row rfl 33 (.tmp 3) rfl (w.heap.size + 1 + 1) rfl 33 #[.int .i64 14, .int .i64 0, .bool false, .string ⟨#[]⟩, .string ⟨#[]⟩, .int .i64 0, .bool false, .int .i64 0, .bool false, .int .i64 0, .string ⟨#[]⟩, .bool false, .string ⟨#[]⟩, .string ⟨#[]⟩, .int .i64 0, .bool false, .bool false, .string ⟨#[]⟩, .bool false, .string ⟨#[]⟩, .bool false, .int .i64 0, .slice none 0 0, .slice none 0 0] (0, 0) _ ?_ Tryd.underlying33 rfl (pk_size (pk0 14) noS noS) ?_; exact P.out.1)
    | (refine wpList_store_row rfl 33 (.tmp 2) (.tmp 87) rfl (w.heap.size + 1) #[.int .i64 14, .int .i64 0, .bool false, .string ⟨#[]⟩, .string ⟨#[]⟩, .int .i64 0, .bool false, .int .i64 0, .bool false, .int .i64 0, .string ⟨#[]⟩, .bool false, .string ⟨#[]⟩, .string ⟨#[]⟩, .int .i64 0, .bool false, .bool false, .string ⟨#[]⟩, .bool false, .string ⟨#[]⟩, .bool false, .int .i64 0, .slice none 0 0, .slice none 0 0] rfl rfl 33 #[.int .i64 0, .int .i64 0, .bool false, .string ⟨#[]⟩, .string ⟨#[]⟩, .int .i64 0, .bool false, .int .i64 0, .bool false, .int .i64 0, .string ⟨#[]⟩, .bool false, .string ⟨#[]⟩, .string ⟨#[]⟩, .int .i64 0, .bool false, .bool false, .string ⟨#[]⟩, .bool false, .string ⟨#[]⟩, .bool false, .int .i64 0, .slice none 0 0, .slice none 0 0] ?_ (pk_size (pk0 14) noS noS) rfl (pk_one (pk0 14) noS noS rfl rfl) ?_; exact P.out.2; rw [A2.out]))
  exact clean_end (P := pk0 14) (fs := noS) (cs := noS) (fin_row w _ _) rfl (no_fis _ _) (no_ints _ _)
set_option maxRecDepth 100000 in
set_option maxHeartbeats 4000000 in
theorem clean_x (P : Pk) (f1 c1 : Value) (w : World) (hk : P.kind < 1 ∨ 14 < P.kind) : Calls Tryd.prog 14 #[.agg (P.v f1 c1)] w (ClP (pk0 P.kind) w) := by
  obtain ⟨kind, id, dup, t, x, q, r, ⟨x0, x1, x2, x3, x4, x5, x6, x7, x8, x9, x10, x11, x12⟩, pres, code, fl, cl⟩ := P
  simp only at hk
  have A0 := Lib.hid (cnew_row w (.cells #[.int .i64 kind, .int .i64 id, .bool dup, .string t, .string x, .int .i64 q, .bool r, .int .i64 x0, .bool x1, .int .i64 x2, .string x3, .bool x4, .string x5, .string x6, .int .i64 x7, .bool x8, .bool x9, .string x10, .bool x11, .string x12, .bool pres, .int .i64 code, f1, c1] 33))
  have A1 := Lib.hid (cnew_set w (.cells #[.int .i64 kind, .int .i64 id, .bool dup, .string t, .string x, .int .i64 q, .bool r, .int .i64 x0, .bool x1, .int .i64 x2, .string x3, .bool x4, .string x5, .string x6, .int .i64 x7, .bool x8, .bool x9, .string x10, .bool x11, .string x12, .bool pres, .int .i64 code, f1, c1] 33))
  have P := Lib.hid (mid_rows w (.cells #[.int .i64 kind, .int .i64 id, .bool dup, .string t, .string x, .int .i64 q, .bool r, .int .i64 x0, .bool x1, .int .i64 x2, .string x3, .bool x4, .string x5, .string x6, .int .i64 x7, .bool x8, .bool x9, .string x10, .bool x11, .string x12, .bool pres, .int .i64 code, f1, c1] 33) #[.int .i64 kind, .int .i64 0, .bool false, .string ⟨#[]⟩, .string ⟨#[]⟩, .int .i64 0, .bool false, .int .i64 0, .bool false, .int .i64 0, .string ⟨#[]⟩, .bool false, .string ⟨#[]⟩, .string ⟨#[]⟩, .int .i64 0, .bool false, .bool false, .string ⟨#[]⟩, .bool false, .string ⟨#[]⟩, .bool false, .int .i64 0, .slice none 0 0, .slice none 0 0])
  have A2 := Lib.hid (mid_set w (.cells #[.int .i64 kind, .int .i64 id, .bool dup, .string t, .string x, .int .i64 q, .bool r, .int .i64 x0, .bool x1, .int .i64 x2, .string x3, .bool x4, .string x5, .string x6, .int .i64 x7, .bool x8, .bool x9, .string x10, .bool x11, .string x12, .bool pres, .int .i64 code, f1, c1] 33) #[.int .i64 kind, .int .i64 0, .bool false, .string ⟨#[]⟩, .string ⟨#[]⟩, .int .i64 0, .bool false, .int .i64 0, .bool false, .int .i64 0, .string ⟨#[]⟩, .bool false, .string ⟨#[]⟩, .string ⟨#[]⟩, .int .i64 0, .bool false, .bool false, .string ⟨#[]⟩, .bool false, .string ⟨#[]⟩, .bool false, .int .i64 0, .slice none 0 0, .slice none 0 0])
  rw [show Pk.v ⟨kind, id, dup, t, x, q, r, ⟨x0, x1, x2, x3, x4, x5, x6, x7, x8, x9, x10, x11, x12⟩, pres, code, fl, cl⟩ f1 c1 = #[.int .i64 kind, .int .i64 id, .bool dup, .string t, .string x, .int .i64 q, .bool r, .int .i64 x0, .bool x1, .int .i64 x2, .string x3, .bool x4, .string x5, .string x6, .int .i64 x7, .bool x8, .bool x9, .string x10, .bool x11, .string x12, .bool pres, .int .i64 code, f1, c1] from rfl]
  have e1 : (kind == 1) = false := by rw [beq_eq_false_iff_ne]; omega
  have e2 : (kind == 2) = false := by rw [beq_eq_false_iff_ne]; omega
  have e3 : (kind == 3) = false := by rw [beq_eq_false_iff_ne]; omega
  have e4 : (kind == 4) = false := by rw [beq_eq_false_iff_ne]; omega
  have e5 : (kind == 5) = false := by rw [beq_eq_false_iff_ne]; omega
  have e6 : (kind == 6) = false := by rw [beq_eq_false_iff_ne]; omega
  have e7 : (kind == 7) = false := by rw [beq_eq_false_iff_ne]; omega
  have e8 : (kind == 8) = false := by rw [beq_eq_false_iff_ne]; omega
  have e9 : (kind == 9) = false := by rw [beq_eq_false_iff_ne]; omega
  have e10 : (kind == 10) = false := by rw [beq_eq_false_iff_ne]; omega
  have e11 : (kind == 11) = false := by rw [beq_eq_false_iff_ne]; omega
  replace hk := Lib.hid hk
  go_enter Tryd.func14, Tryd.ntmps14
  go_wp2_with (first
    | (refine wpList_store_row rfl 33 (.tmp 3) (.tmp 8) rfl (w.heap.size + 1 + 1) #[.int .i64 kind, .int .i64 0, .bool false, .string ⟨#[]⟩, .string ⟨#[]⟩, .int .i64 0, .bool false, .int .i64 0, .bool false, .int .i64 0, .string ⟨#[]⟩, .bool false, .string ⟨#[]⟩, .string ⟨#[]⟩, .int .i64 0, .bool false, .bool false, .string ⟨#[]⟩, .bool false, .string ⟨#[]⟩, .bool false, .int .i64 0, .slice none 0 0, .slice none 0 0] rfl rfl 33 #[.int .i64 0, .int .i64 0, .bool false, .string ⟨#[]⟩, .string ⟨#[]⟩, .int .i64 0, .bool false, .int .i64 0, .bool false, .int .i64 0, .string ⟨#[]⟩, .bool false, .string ⟨#[]⟩, .string ⟨#[]⟩, .int .i64 0, .bool false, .bool false, .string ⟨#[]⟩, .bool false, .string ⟨#[]⟩, .bool false, .int .i64 0, .slice none 0 0, .slice none 0 0] ?_ (lit_size _) rfl (lit_one _) ?_; exact A0.out; rw [A1.out])
    | (refine wpList_load_row rfl 33 (.tmp 3) rfl (w.heap.size + 1 + 1) rfl 33 #[.int .i64 kind, .int .i64 0, .bool false, .string ⟨#[]⟩, .string ⟨#[]⟩, .int .i64 0, .bool false, .int .i64 0, .bool false, .int .i64 0, .string ⟨#[]⟩, .bool false, .string ⟨#[]⟩, .string ⟨#[]⟩, .int .i64 0, .bool false, .bool false, .string ⟨#[]⟩, .bool false, .string ⟨#[]⟩, .bool false, .int .i64 0, .slice none 0 0, .slice none 0 0] (0, 0) _ ?_ Tryd.underlying33 rfl (lit_size _) ?_; exact P.out.1)
    | (refine wpList_store_row rfl 33 (.tmp 2) (.tmp 87) rfl (w.heap.size + 1) #[.int .i64 kind, .int .i64 0, .bool false, .string ⟨#[]⟩, .string ⟨#[]⟩, .int .i64 0, .bool false, .int .i64 0, .bool false, .int .i64 0, .string ⟨#[]⟩, .bool false, .string ⟨#[]⟩, .string ⟨#[]⟩, .int .i64 0, .bool false, .bool false, .string ⟨#[]⟩, .bool false, .string ⟨#[]⟩, .bool false, .int .i64 0, .slice none 0 0, .slice none 0 0] rfl rfl 33 #[.int .i64 0, .int .i64 0, .bool false, .string ⟨#[]⟩, .string ⟨#[]⟩, .int .i64 0, .bool false, .int .i64 0, .bool false, .int .i64 0, .string ⟨#[]⟩, .bool false, .string ⟨#[]⟩, .string ⟨#[]⟩, .int .i64 0, .bool false, .bool false, .string ⟨#[]⟩, .bool false, .string ⟨#[]⟩, .bool false, .int .i64 0, .slice none 0 0, .slice none 0 0] ?_ (lit_size _) rfl (lit_one _) ?_; exact P.out.2; rw [A2.out]))
  exact clean_end (P := pk0 kind) (fs := noS) (cs := noS) (fin_row w _ _) rfl (no_fis _ _) (no_ints _ _)
/-- What Clean leaves. -/
def cln (P : Pk) : Pk :=
  if P.kind = 1 then pkC 1 P.c
  else if P.kind = 2 then pkA 2 P.pres P.code
  else if P.kind = 3 then pkM 3 (if 0 < P.q then P.id else 0) P.dup P.t P.x P.q P.r
  else if P.kind = 4 ∨ P.kind = 5 ∨ P.kind = 6 ∨ P.kind = 7 ∨ P.kind = 11 then pkI P.kind P.id
  else if P.kind = 8 then pkF 8 P.id P.fl
  else if P.kind = 9 then pkS 9 P.id P.cl
  else if P.kind = 10 then pkF 10 P.id (P.fl.map stp0)
  else pk0 P.kind
theorem clean_any (P : Pk) (f1 c1 : Value) (w : World) (hf : FisAt w f1 P.fl) (hc : IntsAt w c1 P.cl) (hbf : P.fl.length * 24 ≤ 140737488355328) (hbc : P.cl.length * 8 ≤ 140737488355328) : Calls Tryd.prog 14 #[.agg (P.v f1 c1)] w (ClP (cln P) w) := by
  unfold cln
  by_cases h1 : P.kind = 1
  · rw [if_pos h1]; exact clean_1 P f1 c1 w h1
  rw [if_neg h1]
  by_cases h2 : P.kind = 2
  · rw [if_pos h2]; exact clean_2 P f1 c1 w h2
  rw [if_neg h2]
  by_cases h3 : P.kind = 3
  · rw [if_pos h3]; exact clean_3 P f1 c1 w h3
  rw [if_neg h3]
  by_cases h4 : P.kind = 4 ∨ P.kind = 5 ∨ P.kind = 6 ∨ P.kind = 7 ∨ P.kind = 11
  · rw [if_pos h4]
    rcases h4 with h | h | h | h | h
    · have := clean_4 P f1 c1 w h; rwa [h]
    · have := clean_5 P f1 c1 w h; rwa [h]
    · have := clean_6 P f1 c1 w h; rwa [h]
    · have := clean_7 P f1 c1 w h; rwa [h]
    · have := clean_11 P f1 c1 w h; rwa [h]
  rw [if_neg h4]
  by_cases h8 : P.kind = 8
  · rw [if_pos h8]; exact clean_8 P f1 c1 w h8 hf hbf
  rw [if_neg h8]
  by_cases h9 : P.kind = 9
  · rw [if_pos h9]; exact clean_9 P f1 c1 w h9 hc hbc
  rw [if_neg h9]
  by_cases h10 : P.kind = 10
  · rw [if_pos h10]
    obtain ⟨a, cap, rfl, hl, hcell⟩ := hf
    exact clean_10 P a cap c1 w h10 ⟨a, cap, rfl, hl, hcell⟩ hbf
  rw [if_neg h10]
  by_cases hx : P.kind < 1 ∨ 14 < P.kind
  · exact clean_x P f1 c1 w hx
  have : P.kind = 12 ∨ P.kind = 13 ∨ P.kind = 14 := by omega
  rcases this with h | h | h
  · have := clean_12 P f1 c1 w h; rwa [h]
  · have := clean_13 P f1 c1 w h; rwa [h]
  · have := clean_14 P f1 c1 w h; rwa [h]
theorem cln_twice (P : Pk) : cln (cln P) = cln P := by
  by_cases h1 : P.kind = 1
  · have e : cln P = pkC 1 P.c := by unfold cln; rw [if_pos h1]
    rw [e]; simp [cln, pkC]
  by_cases h2 : P.kind = 2
  · have e : cln P = pkA 2 P.pres P.code := by unfold cln; rw [if_neg h1, if_pos h2]
    rw [e]; simp [cln, pkA]
  by_cases h3 : P.kind = 3
  · have e : cln P = pkM 3 (if 0 < P.q then P.id else 0) P.dup P.t P.x P.q P.r := by unfold cln; rw [if_neg h1, if_neg h2, if_pos h3]
    rw [e]
    by_cases hq : 0 < P.q
    · simp [cln, pkM, hq]
    · simp [cln, pkM, hq]
  by_cases h4 : P.kind = 4 ∨ P.kind = 5 ∨ P.kind = 6 ∨ P.kind = 7 ∨ P.kind = 11
  · have e : cln P = pkI P.kind P.id := by unfold cln; rw [if_neg h1, if_neg h2, if_neg h3, if_pos h4]
    rw [e]; simp [cln, pkI, h1, h2, h3, h4]
  by_cases h8 : P.kind = 8
  · have e : cln P = pkF 8 P.id P.fl := by unfold cln; rw [if_neg h1, if_neg h2, if_neg h3, if_neg h4, if_pos h8]
    rw [e]; simp [cln, pkF]
  by_cases h9 : P.kind = 9
  · have e : cln P = pkS 9 P.id P.cl := by unfold cln; rw [if_neg h1, if_neg h2, if_neg h3, if_neg h4, if_neg h8, if_pos h9]
    rw [e]; simp [cln, pkS]
  by_cases h10 : P.kind = 10
  · have e : cln P = pkF 10 P.id (P.fl.map stp0) := by unfold cln; rw [if_neg h1, if_neg h2, if_neg h3, if_neg h4, if_neg h8, if_neg h9, if_pos h10]
    rw [e]; simp [cln, pkF, stp0]
  have e : cln P = pk0 P.kind := by unfold cln; rw [if_neg h1, if_neg h2, if_neg h3, if_neg h4, if_neg h8, if_neg h9, if_neg h10]
  rw [e]; simp [cln, pk0, h1, h2, h3, h4, h8, h9, h10]
end Go.Proofs.YtmpklaokgogigaaDoor.Pac
