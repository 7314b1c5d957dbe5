/-
  LAYER 31: a metric's value and item, on both sides.
-/
import Derived.Test.YtihblangceblhaaDoorMt
import Derived.Test.YtihblangceblhaaDoorAg
import Derived.Test.YtihblangceblhaaDoorBlk
import Derived.Laws.Tables
import Derived.Laws.CopyOwn
import Derived.Deep.WholeRow
import Derived.OrdersHeld
import Derived.BigRegion
import Derived.Deep.MidRow
import Derived.Deep.RegionHeld3
import Derived.WalkKit
namespace Go.Proofs.YtihblangceblhaaDoor
set_option linter.unusedVariables false
set_option linter.unusedSimpArgs false
open Go.RowKit
/-- A metric's item. -/
def itm (f : Mt) : It := if f.k = 8 ∨ f.k = 9 then ⟨f.n, f.ha, f.al, f.ty, f.nu, f.k, 0, ⟨#[]⟩⟩ else ⟨f.n, f.ha, f.al, f.ty, f.nu, f.k, f.nn, f.s⟩
def valV (x : It) : Array Value := #[.int .i64 x.a5_0, .int .u64 x.a5_1, .string x.a5_2]
def Mt.v (f : Mt) : Array Value := #[.string f.n, .bool f.ha, .int .u64 f.al, .int .u64 f.ti, .int .u32 f.ty, .bool f.hi, .bool f.tr, .bool f.nu, f.vm, f.vp, .int .i64 f.k, .int .u64 f.nn, .string f.s, f.vs, f.vt]
def It.v (x : It) : Array Value := #[.string x.a0, .bool x.a1, .int .u64 x.a2, .int .u32 x.a3, .bool x.a4, .int .i64 x.a5_0, .int .u64 x.a5_1, .string x.a5_2]
def it0 : It := ⟨⟨#[]⟩, false, 0, 0, false, 0, 0, ⟨#[]⟩⟩
theorem Mt.v_cells (f : Mt) : f.v.toList = f.cells := rfl
theorem It.v_cells (x : It) : x.v.toList = x.cells := rfl
theorem alloc2 (w : World) (A B : Obj) : ((w.alloc A).alloc B).heap[w.heap.size + 1]? = some B := by
  have := heap_alloc_new (w.alloc A) B
  simpa using this
theorem below2 (w : World) (A B : Obj) : Below w.heap.size w ((w.alloc A).alloc B) := ((Below.refl _ w).alloc (Nat.le_refl _) A).alloc (by simp) B
theorem below3 (w : World) (A B C : Obj) : Below w.heap.size w (((w.alloc A).alloc B).alloc C) := (below2 w A B).alloc (by simp; omega) C
theorem alloc3 (w : World) (A B C : Obj) : (((w.alloc A).alloc B).alloc C).heap[w.heap.size + 1 + 1]? = some C := by
  have := heap_alloc_new ((w.alloc A).alloc B) C
  simpa using this
theorem end25 {W : World} {tmps : Array Value} {g : Nat} {cs : Array Value} {R : Ending → World → Prop} (hr : W.heap[g]? = some (.cells cs 28 (0, 0))) (hs : cs.size = 3) (h2 : tmps.getD 2 undef = .pointer (some ⟨g, 0, none⟩)) (hR : R (.returned (.agg cs)) W) :
    bodyPost Tryd.prog Tryd.f25 R .ret { tmps := tmps, defers := [] } W := by
  have r1 := run_loadVar_row (P := Tryd.prog) W _ 28 28 cs (0, 0) _ hr Tryd.underlying28 rfl (by rw [hs]; kernel_rfl)
  simp only [Array.getD_eq_getD_getElem?] at h2
  exact ⟨rfl, _, by simp [results, Tryd.f25, h2, asAddr, r1], hR⟩
theorem end12 {W : World} {tmps : Array Value} {g : Nat} {cs : Array Value} {R : Ending → World → Prop} (hr : W.heap[g]? = some (.cells cs 37 (0, 0))) (hs : cs.size = 8) (h2 : tmps.getD 2 undef = .pointer (some ⟨g, 0, none⟩)) (hR : R (.returned (.agg cs)) W) :
    bodyPost Tryd.prog Tryd.f12 R .ret { tmps := tmps, defers := [] } W := by
  have r1 := run_loadVar_row (P := Tryd.prog) W _ 37 37 cs (0, 0) _ hr Tryd.underlying37 rfl (by rw [hs]; kernel_rfl)
  simp only [Array.getD_eq_getD_getElem?] at h2
  exact ⟨rfl, _, by simp [results, Tryd.f12, h2, asAddr, r1], hR⟩
theorem end13 {W : World} {tmps : Array Value} {g : Nat} {cs : Array Value} {R : Ending → World → Prop} (hr : W.heap[g]? = some (.cells cs 37 (0, 0))) (hs : cs.size = 8) (h2 : tmps.getD 2 undef = .pointer (some ⟨g, 0, none⟩)) (hR : R (.returned (.agg cs)) W) :
    bodyPost Tryd.prog Tryd.f13 R .ret { tmps := tmps, defers := [] } W := by
  have r1 := run_loadVar_row (P := Tryd.prog) W _ 37 37 cs (0, 0) _ hr Tryd.underlying37 rfl (by rw [hs]; kernel_rfl)
  simp only [Array.getD_eq_getD_getElem?] at h2
  exact ⟨rfl, _, by simp [results, Tryd.f13, h2, asAddr, r1], hR⟩
def ValP (f : Mt) (w : World) (e : Ending) (w' : World) : Prop := e = .returned (.agg (valV (itm f))) ∧ Below w.heap.size w w'
set_option maxRecDepth 100000 in
theorem value_any (f : Mt) (w : World) : Calls Tryd.prog 25 #[.agg f.v] w (ValP f w) := by
  unfold ValP itm
  obtain ⟨n, ha, al, ti, ty, hi, tr, nu, vm, vp, k, nn, s, vs, vt⟩ := f
  simp only [Mt.v]
  by_cases h8 : k = 8
  · subst h8
    simp only [true_or, if_true, valV]
    go_enter Tryd.func25, Tryd.ntmps25
    go_wp2
    exact end25 (alloc2 _ _ _) rfl rfl ⟨rfl, below2 _ _ _⟩
  · by_cases h9 : k = 9
    · subst h9
      simp only [or_true, if_true, valV]
      go_enter Tryd.func25, Tryd.ntmps25
      go_wp2
      exact end25 (alloc2 _ _ _) rfl rfl ⟨rfl, below2 _ _ _⟩
    · have h89 : ¬ (k = 8 ∨ k = 9) := by omega
      simp only [if_neg h89, valV]
      have e8 : (k == 8) = false := by rw [beq_eq_false_iff_ne]; exact h8
      have e9 : (k == 9) = false := by rw [beq_eq_false_iff_ne]; exact h9
      go_enter Tryd.func25, Tryd.ntmps25
      go_wp2
      exact end25 (alloc2 _ _ _) rfl rfl ⟨rfl, below2 _ _ _⟩
def OfP (f : Mt) (w : World) (e : Ending) (w' : World) : Prop := e = .returned (.agg (itm f).v) ∧ Below w.heap.size w w'
theorem itm_parts (f : Mt) : (itm f).a0 = f.n ∧ (itm f).a1 = f.ha ∧ (itm f).a2 = f.al ∧ (itm f).a3 = f.ty ∧ (itm f).a4 = f.nu := by
  unfold itm; split <;> exact ⟨rfl, rfl, rfl, rfl, rfl⟩
set_option maxHeartbeats 8000000 in
set_option maxRecDepth 100000 in
theorem of_any (f : Mt) (w : World) : Calls Tryd.prog 12 #[.agg f.v] w (OfP f w) := by
  have V := Lib.hid (fun w => value_any f w)
  obtain ⟨p0, p1, p2, p3, p4⟩ := itm_parts f
  have E : (itm f).v = #[.string f.n, .bool f.ha, .int .u64 f.al, .int .u32 f.ty, .bool f.nu, .int .i64 (itm f).a5_0, .int .u64 (itm f).a5_1, .string (itm f).a5_2] := by unfold It.v; rw [p0, p1, p2, p3, p4]
  unfold OfP
  rw [E]
  unfold ValP valV at V
  clear p0 p1 p2 p3 p4 E
  have K := Lib.hid ((Blk.new w 32 f.v).alloc (.cells #[.string ⟨#[]⟩, .bool false, .int .u64 0, .int .u32 0, .bool false, .int .i64 0, .int .u64 0, .string ⟨#[]⟩] 37))
  have U := Lib.hid (alloc2 w (.cells f.v 32) (.cells #[.string ⟨#[]⟩, .bool false, .int .u64 0, .int .u32 0, .bool false, .int .i64 0, .int .u64 0, .string ⟨#[]⟩] 37))
  have B0 := Lib.hid (below2 w (.cells f.v 32) (.cells #[.string ⟨#[]⟩, .bool false, .int .u64 0, .int .u32 0, .bool false, .int .i64 0, .int .u64 0, .string ⟨#[]⟩] 37))
  have c0 := K.out.cell 0
  have c1 := K.out.cell 1
  have c2 := K.out.cell 2
  have c4 := K.out.cell 4
  have c7 := K.out.cell 7
  rw [show f.v[0]? = some (.string f.n) from rfl] at c0
  rw [show f.v[1]? = some (.bool f.ha) from rfl] at c1
  rw [show f.v[2]? = some (.int .u64 f.al) from rfl] at c2
  rw [show f.v[4]? = some (.int .u32 f.ty) from rfl] at c4
  rw [show f.v[7]? = some (.bool f.nu) from rfl] at c7
  have sz : Hid ((Tryd.prog.info? 32).map (·.size) = some f.v.toList.length) := Lib.hid (by kernel_rfl)
  generalize (itm f).a5_0 = x0 at *
  generalize (itm f).a5_1 = x1 at *
  generalize (itm f).a5_2 = x2 at *
  generalize f.n = n at *
  generalize f.ha = ha at *
  generalize f.al = al at *
  generalize f.ty = ty at *
  generalize f.nu = nu at *
  generalize f.v = cs at *
  go_enter Tryd.func12, Tryd.ntmps12
  go_wp2_with fail
  have KS : Hid (∀ W, Below ((w.alloc (.cells cs 32)).alloc (.cells #[.string ⟨#[]⟩, .bool false, .int .u64 0, .int .u32 0, .bool false, .int .i64 0, .int .u64 0, .string ⟨#[]⟩] 37)).heap.size ((w.alloc (.cells cs 32)).alloc (.cells #[.string ⟨#[]⟩, .bool false, .int .u64 0, .int .u32 0, .bool false, .int .i64 0, .int .u64 0, .string ⟨#[]⟩] 37)) W → W.rangeAt w.heap.size 0 cs.toList ∧ W.cell? ⟨w.heap.size, 0, none⟩ = some (.string n) ∧ W.cell? ⟨w.heap.size, 1, none⟩ = some (.bool ha) ∧ W.cell? ⟨w.heap.size, 2, none⟩ = some (.int .u64 al) ∧ W.cell? ⟨w.heap.size, 4, none⟩ = some (.int .u32 ty) ∧ W.cell? ⟨w.heap.size, 7, none⟩ = some (.bool nu)) := Lib.hid fun W hW => by
    have q : ∀ i, W.cell? ⟨w.heap.size, i, none⟩ = ((w.alloc (.cells cs 32)).alloc (.cells #[.string ⟨#[]⟩, .bool false, .int .u64 0, .int .u32 0, .bool false, .int .i64 0, .int .u64 0, .string ⟨#[]⟩] 37)).cell? ⟨w.heap.size, i, none⟩ := fun i => hW.cell (by simp; omega)
    refine ⟨fun j u hj => ?_, (q 0).trans c0, (q 1).trans c1, (q 2).trans c2, (q 4).trans c4, (q 7).trans c7⟩
    have := (K.out.ext hW).cell j
    rw [Nat.zero_add, this]
    simpa using hj
  have UW : Hid (∀ W, Below ((w.alloc (.cells cs 32)).alloc (.cells #[.string ⟨#[]⟩, .bool false, .int .u64 0, .int .u32 0, .bool false, .int .i64 0, .int .u64 0, .string ⟨#[]⟩] 37)).heap.size ((w.alloc (.cells cs 32)).alloc (.cells #[.string ⟨#[]⟩, .bool false, .int .u64 0, .int .u32 0, .bool false, .int .i64 0, .int .u64 0, .string ⟨#[]⟩] 37)) W → W.heap[w.heap.size + 1]? = some (.cells #[.string ⟨#[]⟩, .bool false, .int .u64 0, .int .u32 0, .bool false, .int .i64 0, .int .u64 0, .string ⟨#[]⟩] 37 (0, 0))) := Lib.hid fun W hW => (hW.block _ (by simp)).trans U.out
  clear c0 c1 c2 c4 c7 K U
  generalize (w.alloc (.cells cs 32)).alloc (.cells #[.string ⟨#[]⟩, .bool false, .int .u64 0, .int .u32 0, .bool false, .int .i64 0, .int .u64 0, .string ⟨#[]⟩] 37) = W0 at *
  have D0 := Lib.hid (ext_drew W0)
  refine wp_region_held_drew (S := fun W => W.rangeAt w.heap.size 0 cs.toList ∧ W.cell? ⟨w.heap.size, 0, none⟩ = some (.string n) ∧ W.cell? ⟨w.heap.size, 1, none⟩ = some (.bool ha) ∧ W.cell? ⟨w.heap.size, 2, none⟩ = some (.int .u64 al) ∧ W.cell? ⟨w.heap.size, 4, none⟩ = some (.int .u32 ty) ∧ W.cell? ⟨w.heap.size, 7, none⟩ = some (.bool nu)) (by kernel_rfl) (KS.out _ D0.out) (fun hHeld => ?_)
  refine wpAnyH_take (i := 0) (oi := _) (v := ?zv0) rfl (by kernel_rfl) (by kernel_rfl) (by kernel_rfl) (fun _ _ _ h => h) (Or.inl ⟨by rfl, ?zy0⟩) (by assumption) ?zr0
  case zy0 => (intro w hSw; obtain ⟨-, s0, s1, s2, s4, s7⟩ := hSw; go_simp <;> with_reducible rfl)
  try simp only [Act.put, List.getElem_toArray, List.getElem_cons_zero, List.getElem_cons_succ, List.setIfInBounds_toArray, List.set_cons_zero, List.set_cons_succ]
  refine wpAnyH_take (i := 1) (oi := _) (v := ?zv1) rfl (by kernel_rfl) (by kernel_rfl) (by kernel_rfl) (fun _ _ _ h => h) (Or.inl ⟨by rfl, ?zy1⟩) (by assumption) ?zr1
  case zy1 => (intro w hSw; obtain ⟨-, s0, s1, s2, s4, s7⟩ := hSw; go_simp <;> with_reducible rfl)
  try simp only [Act.put, List.getElem_toArray, List.getElem_cons_zero, List.getElem_cons_succ, List.setIfInBounds_toArray, List.set_cons_zero, List.set_cons_succ]
  refine wpAnyH_take (i := 2) (oi := _) (v := ?zv2) rfl (by kernel_rfl) (by kernel_rfl) (by kernel_rfl) (fun _ _ _ h => h) (Or.inl ⟨by rfl, ?zy2⟩) (by assumption) ?zr2
  case zy2 => (intro w hSw; obtain ⟨-, s0, s1, s2, s4, s7⟩ := hSw; go_simp <;> with_reducible rfl)
  try simp only [Act.put, List.getElem_toArray, List.getElem_cons_zero, List.getElem_cons_succ, List.setIfInBounds_toArray, List.set_cons_zero, List.set_cons_succ]
  refine wpAnyH_take (i := 3) (oi := _) (v := ?zv3) rfl (by kernel_rfl) (by kernel_rfl) (by kernel_rfl) (fun _ _ _ h => h) (Or.inl ⟨by rfl, ?zy3⟩) (by assumption) ?zr3
  case zy3 => (intro w hSw; obtain ⟨-, s0, s1, s2, s4, s7⟩ := hSw; go_simp <;> with_reducible rfl)
  try simp only [Act.put, List.getElem_toArray, List.getElem_cons_zero, List.getElem_cons_succ, List.setIfInBounds_toArray, List.set_cons_zero, List.set_cons_succ]
  refine wpAnyH_take (i := 4) (oi := _) (v := ?zv4) rfl (by kernel_rfl) (by kernel_rfl) (by kernel_rfl) (fun _ _ _ h => h) (Or.inl ⟨by rfl, ?zy4⟩) (by assumption) ?zr4
  case zy4 => (intro w hSw; obtain ⟨-, s0, s1, s2, s4, s7⟩ := hSw; go_simp <;> with_reducible rfl)
  try simp only [Act.put, List.getElem_toArray, List.getElem_cons_zero, List.getElem_cons_succ, List.setIfInBounds_toArray, List.set_cons_zero, List.set_cons_succ]
  refine wpAnyH_take (i := 5) (oi := _) (v := ?zv5) rfl (by kernel_rfl) (by kernel_rfl) (by kernel_rfl) (fun _ _ _ h => h) (Or.inl ⟨by rfl, ?zy5⟩) (by assumption) ?zr5
  case zy5 => (intro w hSw; obtain ⟨-, s0, s1, s2, s4, s7⟩ := hSw; go_simp <;> with_reducible rfl)
  try simp only [Act.put, List.getElem_toArray, List.getElem_cons_zero, List.getElem_cons_succ, List.setIfInBounds_toArray, List.set_cons_zero, List.set_cons_succ]
  refine wpAnyH_take (i := 6) (oi := _) (v := ?zv6) rfl (by kernel_rfl) (by kernel_rfl) (by kernel_rfl) (fun _ _ _ h => h) (Or.inl ⟨by rfl, ?zy6⟩) (by assumption) ?zr6
  case zy6 => (intro w hSw; obtain ⟨-, s0, s1, s2, s4, s7⟩ := hSw; go_simp <;> with_reducible rfl)
  try simp only [Act.put, List.getElem_toArray, List.getElem_cons_zero, List.getElem_cons_succ, List.setIfInBounds_toArray, List.set_cons_zero, List.set_cons_succ]
  refine wpAnyH_take (i := 7) (oi := _) (v := ?zv7) rfl (by kernel_rfl) (by kernel_rfl) (by kernel_rfl) (fun _ _ _ h => h) (Or.inl ⟨by rfl, ?zy7⟩) (by assumption) ?zr7
  case zy7 => (intro w hSw; obtain ⟨-, s0, s1, s2, s4, s7⟩ := hSw; go_simp <;> with_reducible rfl)
  try simp only [Act.put, List.getElem_toArray, List.getElem_cons_zero, List.getElem_cons_succ, List.setIfInBounds_toArray, List.set_cons_zero, List.set_cons_succ]
  refine wpAnyH_take (i := 8) (oi := _) (v := ?zv8) rfl (by kernel_rfl) (by kernel_rfl) (by kernel_rfl) (fun _ _ _ h => h) (Or.inl ⟨by rfl, ?zy8⟩) (by assumption) ?zr8
  case zy8 => (intro w hSw; obtain ⟨-, s0, s1, s2, s4, s7⟩ := hSw; go_simp <;> with_reducible rfl)
  try simp only [Act.put, List.getElem_toArray, List.getElem_cons_zero, List.getElem_cons_succ, List.setIfInBounds_toArray, List.set_cons_zero, List.set_cons_succ]
  refine wpAnyH_take (i := 9) (oi := _) (v := ?zv9) rfl (by kernel_rfl) (by kernel_rfl) (by kernel_rfl) (fun _ _ _ h => h) (Or.inl ⟨by rfl, ?zy9⟩) (by assumption) ?zr9
  case zy9 => (intro w hSw; obtain ⟨-, s0, s1, s2, s4, s7⟩ := hSw; go_simp <;> with_reducible rfl)
  try simp only [Act.put, List.getElem_toArray, List.getElem_cons_zero, List.getElem_cons_succ, List.setIfInBounds_toArray, List.set_cons_zero, List.set_cons_succ]
  refine wpAnyH_take (i := 10) (oi := _) (v := .agg cs) rfl (by kernel_rfl) (by kernel_rfl) (by kernel_rfl) (fun _ _ _ h => h) (yieldsIf_load_mid (by rfl) 32 _ rfl w.heap.size 0 (by rfl) cs.toList _ (fun w hSw => hSw.1) Tryd.underlying32 rfl sz.out) (by assumption) ?zr10
  try simp only [Act.put, List.getElem_toArray, List.getElem_cons_zero, List.getElem_cons_succ, List.setIfInBounds_toArray, List.set_cons_zero, List.set_cons_succ]
  refine wpAnyH_ready (rs := [11]) (by kernel_rfl) (by simp) ?_
  refine AllReadyH.cons (o := _) rfl (fun K hK => ?_) AllReadyH.nil
  go_simp
  refine (V.out _).mono ?_
  rintro e W1 ⟨rfl, b1⟩
  go_wp2_with fail
  have B1 := Lib.hid (ext_trans D0.out b1)
  refine hK _ _ (KS.out _ B1.out) (fun hHeld1 => ?_)
  clear hK K b1
  try simp only [Act.put, List.getElem_toArray, List.getElem_cons_zero, List.getElem_cons_succ, List.setIfInBounds_toArray, List.set_cons_zero, List.set_cons_succ]
  refine wpAnyH_take (i := 12) (oi := _) (v := ?zv12) rfl (by kernel_rfl) (by kernel_rfl) (by kernel_rfl) (fun _ _ _ h => h) (Or.inl ⟨by rfl, ?zy12⟩) (by assumption) ?zr12
  case zy12 => (intro w hSw; go_simp <;> with_reducible rfl)
  try simp only [Act.put, List.getElem_toArray, List.getElem_cons_zero, List.getElem_cons_succ, List.setIfInBounds_toArray, List.set_cons_zero, List.set_cons_succ]
  refine wpAnyH_ready (rs := [13]) (by kernel_rfl) (by simp) ?_
  refine AllReadyH.cons (o := _) rfl (fun K hK => ?_) AllReadyH.nil
  have U1 := Lib.hid (UW.out _ B1.out)
  refine wp_store_row 37 (.tmp 2) (.tmp 15) rfl (w.heap.size + 1) #[.string n, .bool ha, .int .u64 al, .int .u32 ty, .bool nu, .int .i64 x0, .int .u64 x1, .string x2] rfl rfl 37 #[.string ⟨#[]⟩, .bool false, .int .u64 0, .int .u32 0, .bool false, .int .i64 0, .int .u64 0, .string ⟨#[]⟩] U1.out (by kernel_rfl) rfl (by simp [Value.oneCell']) ?_
  have B2 := Lib.hid (below_setRow (B0.out.trans (B1.out.mono B0.out.size)) (show w.heap.size ≤ w.heap.size + 1 by omega) #[.string n, .bool ha, .int .u64 al, .int .u32 ty, .bool nu, .int .i64 x0, .int .u64 x1, .string x2])
  have U2 := Lib.hid (setRow_heap W1 (w.heap.size + 1) _ #[.string n, .bool ha, .int .u64 al, .int .u32 ty, .bool nu, .int .i64 x0, .int .u64 x1, .string x2] 37 (0, 0) U1.out)
  refine hK _ _ ?_ (fun hHeld2 => ?_)
  · obtain ⟨s, s0, s1, s2, s4, s7⟩ := KS.out _ B1.out
    have q : ∀ i, (W1.setRow (w.heap.size + 1) #[.string n, .bool ha, .int .u64 al, .int .u32 ty, .bool nu, .int .i64 x0, .int .u64 x1, .string x2]).cell? ⟨w.heap.size, i, none⟩ = W1.cell? ⟨w.heap.size, i, none⟩ := fun i => cell_setRow_other _ _ _ _ (by simp)
    exact ⟨fun j u hj => (q _).trans (s j u hj), (q 0).trans s0, (q 1).trans s1, (q 2).trans s2, (q 4).trans s4, (q 7).trans s7⟩
  clear hK K
  try simp only [Act.put, List.getElem_toArray, List.getElem_cons_zero, List.getElem_cons_succ, List.setIfInBounds_toArray, List.set_cons_zero, List.set_cons_succ]
  refine wpAnyH_done (by kernel_rfl) ?_ _
  clear hHeld hHeld1 hHeld2
  go_wp2_with fail
  exact end12 U2.out rfl rfl ⟨rfl, B2.out⟩
set_option maxHeartbeats 4000000 in
set_option maxRecDepth 100000 in
theorem rof_any (f : Mt) (w : World) : Calls Tryd.prog 13 #[.agg f.v] w (OfP f w) := by
  unfold OfP itm
  obtain ⟨n, ha, al, ti, ty, hi, tr, nu, vm, vp, k, nn, s, vs, vt⟩ := f
  simp only [Mt.v]
  by_cases h8 : k = 8
  · subst h8
    simp only [true_or, if_true, It.v]
    go_enter Tryd.func13, Tryd.ntmps13
    go_wp2
    exact end13 ((Below.heap_alloc _ _ _ (by simp)).trans (alloc2 _ _ _)) rfl rfl ⟨rfl, below3 _ _ _ _⟩
  · by_cases h9 : k = 9
    · subst h9
      simp only [or_true, if_true, It.v]
      go_enter Tryd.func13, Tryd.ntmps13
      go_wp2
      exact end13 ((Below.heap_alloc _ _ _ (by simp)).trans (alloc2 _ _ _)) rfl rfl ⟨rfl, below3 _ _ _ _⟩
    · have h89 : ¬ (k = 8 ∨ k = 9) := by omega
      simp only [if_neg h89, It.v]
      have e8 : (k == 8) = false := by rw [beq_eq_false_iff_ne]; exact h8
      have e9 : (k == 9) = false := by rw [beq_eq_false_iff_ne]; exact h9
      go_enter Tryd.func13, Tryd.ntmps13
      go_wp2
      exact end13 ((Below.heap_alloc _ _ _ (by simp)).trans (alloc2 _ _ _)) rfl rfl ⟨rfl, below3 _ _ _ _⟩
end Go.Proofs.YtihblangceblhaaDoor
