/-
  LAYER 22: the document's queue: Put, Take.
-/
import Derived.Test.YtoijdmchkjmpgaaQi
import Derived.Deep.RegionHeld3
import Derived.Deep.AppendLies
import Derived.Deep.DeepMust
import Derived.Deep.RegionLaw
namespace Go.Proofs.Ytoijdmchkjmpgaa.Que
open Go.RowKit
/-- Nothing but the blocks of S has changed. -/
structure Far (S : Nat → Prop) (w w' : World) : Prop where
  os : w'.os = w.os
  tape : w'.tape = w.tape
  output : w'.output = w.output
  size : w.heap.size ≤ w'.heap.size
  block : ∀ k, k < w.heap.size → ¬ S k → w'.heap[k]? = w.heap[k]?
theorem Far.refl (S : Nat → Prop) (w : World) : Far S w w := ⟨rfl, rfl, rfl, Nat.le_refl _, fun _ _ _ => rfl⟩
theorem Far.trans {S S' : Nat → Prop} {a b c : World} (h : Far S a b) (g : Far S' b c) (hs : ∀ k, k < a.heap.size → S' k → S k) : Far S a c :=
  ⟨g.os.trans h.os, g.tape.trans h.tape, g.output.trans h.output, Nat.le_trans h.size g.size, fun k hk h1 => (g.block k (Nat.lt_of_lt_of_le hk h.size) (fun h2 => h1 (hs k hk h2))).trans (h.block k hk h1)⟩
theorem Far.of_below {S : Nat → Prop} {a b : World} {B : Nat} (h : Below B a b) (hB : ∀ k, k < a.heap.size → B ≤ k → S k) : Far S a b :=
  ⟨h.os, h.tape, h.output, h.size, fun k hk h1 => h.block k (Nat.lt_of_not_le (fun h2 => h1 (hB k hk h2)))⟩
theorem Far.of_ext {S : Nat → Prop} {a b : World} (h : Below a.heap.size a b) : Far S a b := Far.of_below h (fun k hk h2 => by omega)
theorem Far.of_grown {S : Nat → Prop} {a b : World} {r : Option Nat} (h : a.grownBy b r) (hr : ∀ k, k < a.heap.size → r = some k → S k) : Far S a b :=
  ⟨h.os, h.tape, h.output, h.size, fun k hk h1 => h.block k hk (fun e => h1 (hr k hk e.symm))⟩
theorem Far.mono {S S' : Nat → Prop} {a b : World} (h : Far S a b) (hs : ∀ k, k < a.heap.size → S k → S' k) : Far S' a b :=
  ⟨h.os, h.tape, h.output, h.size, fun k hk h1 => h.block k hk (fun h2 => h1 (hs k hk h2))⟩
theorem Far.below {S : Nat → Prop} {a b : World} {B : Nat} (h : Far S a b) (hB : B ≤ a.heap.size) (hs : ∀ k, S k → B ≤ k) : Below B a b :=
  ⟨h.os, h.tape, h.output, h.size, fun k hk => h.block k (by omega) (fun h2 => by have := hs k h2; omega)⟩
theorem fz_al (W : World) (o : Obj) {g : Nat} (j : Nat) (h : W.frozen? ⟨g, j, none⟩ = false) (hg : g < W.heap.size) : (W.alloc o).drew.frozen? ⟨g, j, none⟩ = false := ((ext_alloc W o).frozen (p := ⟨g, j, none⟩) hg).trans h
/-- The document's queue in block g. -/
structure Xq (B : Nat) (w : World) (g : Nat) (v : Value) (l : List Mg) (most lost : Int) : Prop where
  row : w.heap[g]? = some (.cells #[v, .int .i64 most, .int .i64 lost] 61 (0, 0))
  its : w.ownsRow B 53 4 v l.length (msAtC l)
def SX (g : Nat) (v : Value) (k : Nat) : Prop := k = g ∨ v.ownBlock = some k
section
variable {w w' : World} {B g : Nat} {v : Value} {l : List Mg} {most lost : Int}
theorem Xq.lt (h : Xq B w g v l most lost) : g < w.heap.size := (Array.getElem?_eq_some_iff.1 h.row).1
theorem Xq.c0 (h : Xq B w g v l most lost) : w.cell? ⟨g, 0, none⟩ = some v := cell_of_row w g 0 _ 61 (0, 0) h.row
theorem Xq.c1 (h : Xq B w g v l most lost) : w.cell? ⟨g, 1, none⟩ = some (.int .i64 most) := cell_of_row w g 1 _ 61 (0, 0) h.row
theorem Xq.c2 (h : Xq B w g v l most lost) : w.cell? ⟨g, 2, none⟩ = some (.int .i64 lost) := cell_of_row w g 2 _ 61 (0, 0) h.row
theorem Xq.fz (h : Xq B w g v l most lost) (j : Nat) : w.frozen? ⟨g, j, none⟩ = false := frozen_of_row w g j _ 61 h.row
theorem own_fars {S : Nat → Prop} {B e size n : Nat} {v : Value} {xs : List Value} (o : w.ownsRow B e size v n xs) (F : Far S w w') (hs : ∀ k, v.ownBlock = some k → ¬ S k) : w'.ownsRow B e size v n xs := by
  refine ⟨o.1, o.2.imp id ?_⟩
  rintro ⟨g, cap, cur, hv, hg, hcur, rest⟩
  exact ⟨g, cap, cur, hv, hg, (F.block g (Array.getElem?_eq_some_iff.1 hcur).1 (hs g (by rw [hv]; rfl))).trans hcur, rest⟩
theorem Xq.far {S : Nat → Prop} (h : Xq B w g v l most lost) (F : Far S w w') (h1 : ¬ S g) (h2 : ∀ k, v.ownBlock = some k → ¬ S k) : Xq B w' g v l most lost :=
  ⟨(F.block g h.lt h1).trans h.row, own_fars h.its F h2⟩
theorem Xq.keep (h : Xq B w g v l most lost) (hb : Below w.heap.size w w') : Xq B w' g v l most lost := ⟨(hb.block g h.lt).trans h.row, own_keep h.its hb⟩
/-- The list is another; it stands in the same block or in a new one. -/
structure XNew (B : Nat) (w w' : World) (g : Nat) (v : Value) (l : List Mg) (most lost : Int) (v' : Value) : Prop where
  x : Xq B w' g v' l most lost
  far : Far (SX g v) w w'
  nb : ∀ k, v'.ownBlock = some k → v.ownBlock = some k ∨ w.heap.size ≤ k
theorem setX {w : World} {g j : Nat} {cs : Array Value} (h : w.heap[g]? = some (.cells cs 61 (0, 0))) (u : Value) : (w.setCell ⟨g, j, none⟩ u).heap[g]? = some (.cells (cs.setIfInBounds j u) 61 (0, 0)) :=
  heap_setCell_same w g j _ 61 u h
theorem set_grownX {w : World} {g j : Nat} {u : Value} : w.grownBy (w.setCell ⟨g, j, none⟩ u) (some g) :=
  ⟨rfl, rfl, rfl, by simp [World.setCell], fun k _ hne => Below.heap_setCell _ _ _ _ (by simpa using hne)⟩
set_option maxHeartbeats 2000000 in
set_option maxRecDepth 100000 in
theorem xput_no (h : Xq B w g v l most lost) (m : Mg) (hm : most ≤ (l.length : Int)) (h0 : 0 ≤ lost ∧ lost ≤ 1000000) (hl : l.length ≤ 1000) :
    Calls Try.prog 29 #[.pointer (some ⟨g, 0, none⟩), .agg #[.string m.a0, .string m.a1, .int .i64 m.a2, .bool m.a3]] w fun e w' => e = .returned (.bool false) ∧ ∃ v', XNew B w w' g v l most (lost + 1) v' := by
  obtain ⟨va, vc, rfl⟩ := own_slice h.its
  have c0 := h.c0
  have c1 := h.c1
  have c2 := h.c2
  have f2 := h.fz 2
  have hl' : (l.length : Int) ≤ 1000 := by omega
  obtain ⟨hl0, hl1⟩ := h0
  have hlt := h.lt
  have H := Lib.hid h
  clear h
  go_enter Try.func29, Try.ntmps29
  go_wp2_with fail
  go_quiet (fail)
  go_wp2_with fail
  go_ret
  have hb : Below w.heap.size w ((w.alloc (.cells #[.string m.a0, .string m.a1, .int .i64 m.a2, .bool m.a3] 53)).drewN nq) := ext_trans (ext_alloc w _) (ext_drewN _ _)
  have R := (hb.block g hlt).trans H.out.row
  have X := H.out.keep hb
  generalize (w.alloc (.cells #[.string m.a0, .string m.a1, .int .i64 m.a2, .bool m.a3] 53)).drewN nq = W1 at *
  refine ⟨rfl, _, ⟨?_, ?_⟩, ?_, fun k hk => .inl hk⟩
  · have := setX R (j := 2) (.int .i64 (lost + 1))
    simpa using this
  · exact own_grown X.its R (by decide) set_grownX
  · exact (Far.of_ext hb).trans (Far.of_grown (S := SX g (.slice va l.length vc)) set_grownX (fun k _ e => .inl (by simpa using e.symm))) (fun k _ h => h)
theorem xput_end {W1 Wx w1 : World} {m : Mg} {gg cap : Nat} (h : Xq B w g v l most lost) (hb : Below w.heap.size w W1) (hx : Below W1.heap.size W1 Wx) (hgrow : Wx.grownBy w1 v.ownBlock)
    (hown1 : w1.ownsRow B 53 4 (.slice (some ⟨gg, 0, none⟩) (l.length + 1) cap) (l.length + 1) (msAtC l ++ m.cells)) (hat : v.ownBlock = some gg ∨ gg = W1.heap.size + 1) (hsz : W1.heap.size = w.heap.size + 1) :
    XNew B w (w1.setCell ⟨g, 0, none⟩ (.slice (some ⟨gg, 0, none⟩) (l.length + 1) cap)) g v (l ++ [m]) most lost (.slice (some ⟨gg, 0, none⟩) (l.length + 1) cap) := by
  have B1 := ext_trans hb hx
  have Rx := (B1.block g h.lt).trans h.row
  have hne := own_far h.its h.row (by decide : (61 : TypeId) ≠ 53)
  have R1 := (hgrow.block g (Nat.lt_of_lt_of_le h.lt B1.size) hne).trans Rx
  refine ⟨⟨?_, ?_⟩, ?_, fun k hk => ?_⟩
  · have := setX R1 (j := 0) (.slice (some ⟨gg, 0, none⟩) (l.length + 1) cap)
    simpa using this
  · have := own_grown hown1 R1 (by decide) (set_grownX (j := 0) (u := .slice (some ⟨gg, 0, none⟩) (l.length + 1) cap))
    simpa [msAtC_snoc] using this
  · refine ((Far.of_ext B1).trans (Far.of_grown (S := SX g v) hgrow (fun k _ e => .inr e)) (fun k _ h => h)).trans (Far.of_grown (S := SX g v) set_grownX (fun k _ e => .inl (by simpa using e.symm))) (fun k _ h => h)
  · obtain rfl : gg = k := by simpa [Value.ownBlock] using hk
    rcases hat with h | h
    · exact .inl h
    · exact .inr (by omega)
set_option maxHeartbeats 2000000 in
set_option maxRecDepth 100000 in
theorem xput_yes (h : Xq B w g v l most lost) (m : Mg) (hm : (l.length : Int) < most) (hl : l.length ≤ 1000) (hB : B ≤ w.heap.size) :
    Calls Try.prog 29 #[.pointer (some ⟨g, 0, none⟩), .agg #[.string m.a0, .string m.a1, .int .i64 m.a2, .bool m.a3]] w fun e w' => e = .returned (.bool true) ∧ ∃ v', XNew B w w' g v (l ++ [m]) most lost v' := by
  obtain ⟨i5, hi5, hz0, hz1, hz2⟩ := info_parts info53
  obtain ⟨va, vc, rfl⟩ := own_slice h.its
  have c0 := h.c0
  have c1 := h.c1
  have c2 := h.c2
  have f0 := h.fz 0
  have hl' : (l.length : Int) ≤ 1000 := by omega
  have hlt := h.lt
  have H := Lib.hid h
  clear h
  go_enter Try.func29, Try.ntmps29
  go_wp2_with fail
  go_quiet (fail)
  go_wp2_with fail
  have hb : Below w.heap.size w ((w.alloc (.cells #[.string m.a0, .string m.a1, .int .i64 m.a2, .bool m.a3] 53)).drewN nq) := ext_trans (ext_alloc w _) (ext_drewN _ _)
  have hrow : ((w.alloc (.cells #[.string m.a0, .string m.a1, .int .i64 m.a2, .bool m.a3] 53)).drewN nq).heap[w.heap.size]? = some (.cells #[.string m.a0, .string m.a1, .int .i64 m.a2, .bool m.a3] 53 (0, 0)) := heap_alloc_new w _
  have hsz : ((w.alloc (.cells #[.string m.a0, .string m.a1, .int .i64 m.a2, .bool m.a3] 53)).drewN nq).heap.size = w.heap.size + 1 := by simp
  have R := (hb.block g hlt).trans H.out.row
  have X := H.out.keep hb
  generalize (w.alloc (.cells #[.string m.a0, .string m.a1, .int .i64 m.a2, .bool m.a3] 53)).drewN nq = W1 at *
  have e0 : W1.cell? ⟨w.heap.size, 0, none⟩ = some (.string m.a0) := cell_of_row W1 _ 0 _ 53 (0, 0) hrow
  have e1 : W1.cell? ⟨w.heap.size, 1, none⟩ = some (.string m.a1) := cell_of_row W1 _ 1 _ 53 (0, 0) hrow
  have e2 : W1.cell? ⟨w.heap.size, 2, none⟩ = some (.int .i64 m.a2) := cell_of_row W1 _ 2 _ 53 (0, 0) hrow
  have e3 : W1.cell? ⟨w.heap.size, 3, none⟩ = some (.bool m.a3) := cell_of_row W1 _ 3 _ 53 (0, 0) hrow
  have q0 := X.c0
  have fz := X.fz 0
  have hown := X.its
  have far : (Value.slice va l.length vc).ownBlock ≠ some g := Ne.symm (own_far hown R (by decide))
  have farb : (Value.slice va l.length vc).ownBlock ≠ some w.heap.size := fun e => by have := (H.out.its.lt _ e).2; omega
  have hg1 : g < W1.heap.size := by omega
  have hb1 : w.heap.size < W1.heap.size := by omega
  replace R := Lib.hid R
  replace X := Lib.hid X
  generalize hv : Value.slice va l.length vc = v at *
  replace hv := Lib.hid hv
  replace hb := Lib.hid hb
  replace hrow := Lib.hid hrow
  replace hsz := Lib.hid hsz
  clear c0 c1 c2 f0
  have KB : Hid (∀ W : World, Below W1.heap.size W1 W → W.ownsRow B 53 4 v l.length (msAtC l)) := Lib.hid fun W hW => own_keep hown hW
  have KN : Hid (∀ W : World, W.heap[W1.heap.size]? = some (.cells #[.string m.a0, .string m.a1, .int .i64 m.a2, .bool m.a3] 53 (0, 0)) → ∀ j u, m.cells[j]? = some u → W.cell? ((⟨W1.heap.size, 0, none⟩ : Addr).add j) = some u) := Lib.hid (by
    intro W hW j u hj
    have := cell_of_row W W1.heap.size j _ 53 (0, 0) hW
    rw [add_off', Nat.zero_add, this, ← hj]
    simp [Mg.cells])
  replace hown := Lib.hid hown
  go_region_law (go_must (refine step_append_lies _ rfl (.tmp 26) (.tmp 28) 59 rfl B 53 i5 zM 4 48 Try.underlying59 hi5 hz0 hz1 hz2 rfl (by decide) v l.length (msAtC l) rfl (KB.out _ (by first | exact ext_alloc W1 _ | exact ext_trans (ext_alloc W1 _) (ext_drew _) | exact ext_trans (ext_drew W1) (ext_alloc W1.drew _))) ⟨W1.heap.size, 0, none⟩ 1 1 m.cells rfl rfl (KN.out _ (by first | exact heap_alloc_new W1 _ | exact heap_alloc_new W1.drew _)) (by intro u hu; simp [Mg.cells] at hu; rcases hu with rfl | rfl | rfl | rfl <;> rfl) (by decide) (by unfold maxLen; omega) (by omega) (by simp; omega) (W1.heap.size + 1) (by simp) ?_); intro gg cap w1 hown1 hgrow hat hlt1; have hc1 := (hgrow.cell_far ⟨g, 0, none⟩ (by simp; omega) (Ne.symm far)); have hf1 := (hgrow.frozen_far ⟨g, 0, none⟩ (by simp; omega) (Ne.symm far)); replace hat := Lib.hid hat; replace hgrow := Lib.hid hgrow; replace hown1 := Lib.hid hown1)
  all_goals go_wp2
  all_goals go_ret
  all_goals exact ⟨rfl, _, by rw [hv.out]; exact xput_end (hv.out ▸ H.out) hb.out (by first | exact ext_trans (ext_alloc W1 _) (ext_drew _) | exact ext_alloc W1 _ | exact ext_trans (ext_drew W1) (ext_alloc W1.drew _)) hgrow.out hown1.out hat.out hsz.out⟩
end
end Go.Proofs.Ytoijdmchkjmpgaa.Que
