/-
  LAYER 22: messages behind messages.
-/
import Derived.Test.YtdcfenkllpfbaaaQg
import Derived.Laws.AppendOwnNone
import Derived.Test.YtdcfenkllpfbaaaFr
import Derived.Deep.RegionHeld3
import Derived.Deep.AppendLies
import Derived.Deep.DeepMust
import Derived.Deep.RegionLaw
namespace Go.Proofs.Ytdcfenkllpfbaaa.Quu
open Go.RowKit
set_option linter.unusedSimpArgs false
set_option linter.unusedVariables false
set_option maxRecDepth 100000
theorem ms_cells {w : World} {b o : Nat} {L : List Mg} (h : ∀ i f, L[i]? = some f → ∀ j u, f.cells[j]? = some u → w.cell? ⟨b, o + i * 4 + j, none⟩ = some u) : ∀ j u, (msAtC L)[j]? = some u → w.cell? ((⟨b, o, none⟩ : Addr).add j) = some u := by
  intro j u hj
  have hlt : j < L.length * 4 := by
    have := (List.getElem?_eq_some_iff.1 hj).1
    rwa [msAtC_length] at this
  have hf : L[j / 4]? = some (L[j / 4]'(by omega)) := List.getElem?_eq_getElem (by omega)
  have hg := msAtC_get L (j / 4) _ hf (j % 4) (Nat.mod_lt _ (by decide))
  rw [show j / 4 * 4 + j % 4 = j by omega, hj] at hg
  have hr := h (j / 4) _ hf (j % 4) u hg.symm
  rw [add_off', show o + j = o + j / 4 * 4 + j % 4 by omega]
  exact hr
theorem run_append_owned_nil {w : World} {P : Program} (base : Nat) (t ty e : TypeId) (i : TypeInfo) (size : Nat) (ht : P.underlying t = some (.slice e)) (hi : P.info? e = some i)
    (v : Value) (n c : Nat) (xs : List Value) (hown : w.ownsRow base e size v n xs) :
    (Builtin.append_ #[t, t] ty #[v, .slice none 0 c]).run P w = .ok v w := by
  rcases hown.2 with ⟨rfl, rfl⟩ | ⟨g, cap, cur, rfl, _, _, hnc, _⟩
  · simp [Builtin.append_, run_underlying ht, sizeOf, typeInfo, hi, Builtin.lenOf, Builtin.firstCells]
  · simp [Builtin.append_, run_underlying ht, sizeOf, typeInfo, hi, Builtin.lenOf, Builtin.firstCells, hnc, storeCells]
theorem wpList_append_ms (w : World) {ops : Array Oper} {rest : List Oper} {o : Oper} {a : Act} {Q : Exit → Act → World → Prop} (hgd : o.guard = none) (s x : Operand)
    (ho : o.op = .call { callee := .builtin .append, args := #[s, x], argTypes := #[47, 47] })
    (base : Nat) (v : Value) (n : Nat) (xs : List Value) (l : List Mg) (hs : a.eval s = v) (hown : w.ownsRow base 46 4 v n xs) (hx : MsAt w (a.eval x) l) (hbase : base ≤ w.heap.size) (hn : n + l.length ≤ 1000000)
    (h : ∀ v' w', w'.ownsRow base 46 4 v' (n + l.length) (xs ++ msAtC l) → w.grownBy w' v.ownBlock → wpList Try.prog ops Q rest (a.put o.dst v') w') : wpList Try.prog ops Q (o :: rest) a w := by
  obtain ⟨i, hi, hz, hsz, hby⟩ := info_parts info53
  obtain ⟨ad, cap, hv, hm, hcase⟩ := hx
  cases ad with
  | none =>
    have hl : l = [] := by
      rcases hcase with h0 | ⟨b, o, h0, _⟩
      · exact h0
      · cases h0
    subst hl
    refine wpList_plain hgd fun K hK => ?_
    have hrun := run_append_owned_nil (P := Try.prog) (w := w) base 47 o.type 46 i 4 Try.underlying47 hi v n cap xs hown
    have hk := hK _ _ (h v w (by simpa [msAtC] using hown) ⟨rfl, rfl, rfl, Nat.le_refl _, fun _ _ _ => rfl⟩)
    unfold Oper.wp
    simp [execOp, ho, resolve, invoke, builtin, hs, hv, hrun, Result.andThen]
    exact hk
  | some ad =>
    have hcell : ∀ j u, (msAtC l)[j]? = some u → w.cell? (ad.add j) = some u := by
      rcases hcase with h | ⟨b, o, h, hlt, hcell⟩
      · subst h; intro j u hj; simp [msAtC] at hj
      · simp only [Option.some.injEq] at h
        subst h
        exact ms_cells hcell
    refine wpList_append_own w hgd s x 47 ho base 46 i zM 4 48 Try.underlying47 hi hz hsz hby rfl (by decide) v n xs hs hown ad l.length cap (msAtC l) hv (msAtC_length l) hcell (msAtC_one l) (by unfold maxLen; omega) (by omega) hbase ?_
    intro v' w' h1 h2 _
    exact h v' w' h1 h2
end Go.Proofs.Ytdcfenkllpfbaaa.Quu

/-
  LAYER 22: the document's queue: Put, Take.
-/
namespace Go.Proofs.Ytdcfenkllpfbaaa.Quu
open Go.RowKit Que
set_option linter.unusedSimpArgs false
set_option linter.unusedVariables false
/-- The document's queue. -/
structure Xq (B : Nat) (w : World) (g : Nat) (v : Value) (l : List Mg) (most lost : Int) : Prop where
  row : w.heap[g]? = some (.cells #[v, .int .i64 most, .int .i64 lost] 95 (0, 0))
  its : w.ownsRow B 46 4 v l.length (msAtC l)
def SX (g : Nat) (v : Value) (k : Nat) : Prop := k = g ∨ v.ownBlock = some k
section
variable {w w' : World} {B g : Nat} {v : Value} {l : List Mg} {most lost : Int}
theorem Xq.lt (h : Xq B w g v l most lost) : g < w.heap.size := (Array.getElem?_eq_some_iff.1 h.row).1
theorem Xq.c0 (h : Xq B w g v l most lost) : w.cell? ⟨g, 0, none⟩ = some v := cell_of_row w g 0 _ 95 (0, 0) h.row
theorem Xq.c1 (h : Xq B w g v l most lost) : w.cell? ⟨g, 1, none⟩ = some (.int .i64 most) := cell_of_row w g 1 _ 95 (0, 0) h.row
theorem Xq.c2 (h : Xq B w g v l most lost) : w.cell? ⟨g, 2, none⟩ = some (.int .i64 lost) := cell_of_row w g 2 _ 95 (0, 0) h.row
theorem Xq.fz (h : Xq B w g v l most lost) (j : Nat) : w.frozen? ⟨g, j, none⟩ = false := frozen_of_row w g j _ 95 h.row
theorem Xq.far {S : Nat → Prop} (h : Xq B w g v l most lost) (F : Far S w w') (h1 : ¬ S g) (h2 : ∀ k, v.ownBlock = some k → ¬ S k) : Xq B w' g v l most lost :=
  ⟨(F.block g h.lt h1).trans h.row, own_fars h.its F h2⟩
theorem Xq.keep (h : Xq B w g v l most lost) (hb : Below w.heap.size w w') : Xq B w' g v l most lost := ⟨(hb.block g h.lt).trans h.row, own_keep h.its hb⟩
/-- The list is another; it stands in the same block or in a new one. -/
structure XNew (B : Nat) (w w' : World) (g : Nat) (v : Value) (l : List Mg) (most lost : Int) (v' : Value) : Prop where
  x : Xq B w' g v' l most lost
  far : Far (SX g v) w w'
  nb : ∀ k, v'.ownBlock = some k → v.ownBlock = some k ∨ w.heap.size ≤ k
theorem setX {w : World} {g j : Nat} {cs : Array Value} (h : w.heap[g]? = some (.cells cs 95 (0, 0))) (u : Value) : (w.setCell ⟨g, j, none⟩ u).heap[g]? = some (.cells (cs.setIfInBounds j u) 95 (0, 0)) :=
  heap_setCell_same w g j _ 95 u h
set_option maxHeartbeats 2000000 in
set_option maxRecDepth 100000 in
theorem xput_no (h : Xq B w g v l most lost) (m : Mg) (hm : most ≤ (l.length : Int)) (h0 : 0 ≤ lost ∧ lost ≤ 1000000) (hl : l.length ≤ 1000) :
    Calls Try.prog 36 #[.pointer (some ⟨g, 0, none⟩), .agg #[.string m.a0, .string m.a1, .int .i64 m.a2, .bool m.a3]] w fun e w' => e = .returned (.bool false) ∧ ∃ v', XNew B w w' g v l most (lost + 1) v' := by
  obtain ⟨va, vc, rfl⟩ := own_slice h.its
  have c0 := h.c0
  have c1 := h.c1
  have c2 := h.c2
  have f2 := h.fz 2
  have hl' : (l.length : Int) ≤ 1000 := by omega
  obtain ⟨hl0, hl1⟩ := h0
  have hlt := h.lt
  have H := Lib.hid h
  clear h
  go_enter Try.func36, Try.ntmps36
  go_wp2_with fail
  go_quiet (fail)
  go_wp2_with fail
  go_ret
  have hb : Below w.heap.size w ((w.alloc (.cells #[.string m.a0, .string m.a1, .int .i64 m.a2, .bool m.a3] 46)).drewN nq) := ext_trans (ext_alloc w _) (ext_drewN _ _)
  have R := (hb.block g hlt).trans H.out.row
  have X := H.out.keep hb
  generalize (w.alloc (.cells #[.string m.a0, .string m.a1, .int .i64 m.a2, .bool m.a3] 46)).drewN nq = W1 at *
  refine ⟨rfl, _, ⟨?_, ?_⟩, ?_, fun k hk => .inl hk⟩
  · have := setX R (j := 2) (.int .i64 (lost + 1))
    simpa using this
  · exact own_grown X.its R (by decide) set_grownX
  · exact (Far.of_ext hb).trans (Far.of_grown (S := SX g (.slice va l.length vc)) set_grownX (fun k _ e => .inl (by simpa using e.symm))) (fun k _ h => h)
theorem xput_end {W1 Wx w1 : World} {m : Mg} {gg cap : Nat} (h : Xq B w g v l most lost) (hb : Below w.heap.size w W1) (hx : Below W1.heap.size W1 Wx) (hgrow : Wx.grownBy w1 v.ownBlock)
    (hown1 : w1.ownsRow B 46 4 (.slice (some ⟨gg, 0, none⟩) (l.length + 1) cap) (l.length + 1) (msAtC l ++ m.cells)) (hat : v.ownBlock = some gg ∨ gg = W1.heap.size + 1) (hsz : W1.heap.size = w.heap.size + 1) :
    XNew B w (w1.setCell ⟨g, 0, none⟩ (.slice (some ⟨gg, 0, none⟩) (l.length + 1) cap)) g v (l ++ [m]) most lost (.slice (some ⟨gg, 0, none⟩) (l.length + 1) cap) := by
  have B1 := ext_trans hb hx
  have Rx := (B1.block g h.lt).trans h.row
  have hne := own_far h.its h.row (by decide : (95 : TypeId) ≠ 46)
  have R1 := (hgrow.block g (Nat.lt_of_lt_of_le h.lt B1.size) hne).trans Rx
  refine ⟨⟨?_, ?_⟩, ?_, fun k hk => ?_⟩
  · have := setX R1 (j := 0) (.slice (some ⟨gg, 0, none⟩) (l.length + 1) cap)
    simpa using this
  · have := own_grown hown1 R1 (by decide) (set_grownX (j := 0) (u := .slice (some ⟨gg, 0, none⟩) (l.length + 1) cap))
    simpa [msAtC_snoc] using this
  · refine ((Far.of_ext B1).trans (Far.of_grown (S := SX g v) hgrow (fun k _ e => .inr e)) (fun k _ h => h)).trans (Far.of_grown (S := SX g v) set_grownX (fun k _ e => .inl (by simpa using e.symm))) (fun k _ h => h)
  · obtain rfl : gg = k := by simpa [Value.ownBlock] using hk
    rcases hat with h | h
    · exact .inl h
    · exact .inr (by omega)
set_option maxHeartbeats 2000000 in
set_option maxRecDepth 100000 in
theorem xput_yes (h : Xq B w g v l most lost) (m : Mg) (hm : (l.length : Int) < most) (hl : l.length ≤ 1000) (hB : B ≤ w.heap.size) :
    Calls Try.prog 36 #[.pointer (some ⟨g, 0, none⟩), .agg #[.string m.a0, .string m.a1, .int .i64 m.a2, .bool m.a3]] w fun e w' => e = .returned (.bool true) ∧ ∃ v', XNew B w w' g v (l ++ [m]) most lost v' := by
  obtain ⟨i5, hi5, hz0, hz1, hz2⟩ := info_parts info53
  obtain ⟨va, vc, rfl⟩ := own_slice h.its
  have c0 := h.c0
  have c1 := h.c1
  have c2 := h.c2
  have f0 := h.fz 0
  have hl' : (l.length : Int) ≤ 1000 := by omega
  have hlt := h.lt
  have H := Lib.hid h
  clear h
  go_enter Try.func36, Try.ntmps36
  go_wp2_with fail
  go_quiet (fail)
  go_wp2_with fail
  have hb : Below w.heap.size w ((w.alloc (.cells #[.string m.a0, .string m.a1, .int .i64 m.a2, .bool m.a3] 46)).drewN nq) := ext_trans (ext_alloc w _) (ext_drewN _ _)
  have hrow : ((w.alloc (.cells #[.string m.a0, .string m.a1, .int .i64 m.a2, .bool m.a3] 46)).drewN nq).heap[w.heap.size]? = some (.cells #[.string m.a0, .string m.a1, .int .i64 m.a2, .bool m.a3] 46 (0, 0)) := heap_alloc_new w _
  have hsz : ((w.alloc (.cells #[.string m.a0, .string m.a1, .int .i64 m.a2, .bool m.a3] 46)).drewN nq).heap.size = w.heap.size + 1 := by simp
  have R := (hb.block g hlt).trans H.out.row
  have X := H.out.keep hb
  generalize (w.alloc (.cells #[.string m.a0, .string m.a1, .int .i64 m.a2, .bool m.a3] 46)).drewN nq = W1 at *
  have e0 : W1.cell? ⟨w.heap.size, 0, none⟩ = some (.string m.a0) := cell_of_row W1 _ 0 _ 46 (0, 0) hrow
  have e1 : W1.cell? ⟨w.heap.size, 1, none⟩ = some (.string m.a1) := cell_of_row W1 _ 1 _ 46 (0, 0) hrow
  have e2 : W1.cell? ⟨w.heap.size, 2, none⟩ = some (.int .i64 m.a2) := cell_of_row W1 _ 2 _ 46 (0, 0) hrow
  have e3 : W1.cell? ⟨w.heap.size, 3, none⟩ = some (.bool m.a3) := cell_of_row W1 _ 3 _ 46 (0, 0) hrow
  have q0 := X.c0
  have fz := X.fz 0
  have hown := X.its
  have far : (Value.slice va l.length vc).ownBlock ≠ some g := Ne.symm (own_far hown R (by decide))
  have farb : (Value.slice va l.length vc).ownBlock ≠ some w.heap.size := fun e => by have := (H.out.its.lt _ e).2; omega
  have hg1 : g < W1.heap.size := by omega
  have hb1 : w.heap.size < W1.heap.size := by omega
  replace R := Lib.hid R
  replace X := Lib.hid X
  generalize hv : Value.slice va l.length vc = v at *
  replace hv := Lib.hid hv
  replace hb := Lib.hid hb
  replace hrow := Lib.hid hrow
  replace hsz := Lib.hid hsz
  clear c0 c1 c2 f0
  have KB : Hid (∀ W : World, Below W1.heap.size W1 W → W.ownsRow B 46 4 v l.length (msAtC l)) := Lib.hid fun W hW => own_keep hown hW
  have KN : Hid (∀ W : World, W.heap[W1.heap.size]? = some (.cells #[.string m.a0, .string m.a1, .int .i64 m.a2, .bool m.a3] 46 (0, 0)) → ∀ j u, m.cells[j]? = some u → W.cell? ((⟨W1.heap.size, 0, none⟩ : Addr).add j) = some u) := Lib.hid (by
    intro W hW j u hj
    have := cell_of_row W W1.heap.size j _ 46 (0, 0) hW
    rw [add_off', Nat.zero_add, this, ← hj]
    simp [Mg.cells])
  replace hown := Lib.hid hown
  go_region_law (go_must (refine step_append_lies _ rfl (.tmp 26) (.tmp 28) 47 rfl B 46 i5 zM 4 48 Try.underlying47 hi5 hz0 hz1 hz2 rfl (by decide) v l.length (msAtC l) rfl (KB.out _ (by first | exact ext_alloc W1 _ | exact ext_trans (ext_alloc W1 _) (ext_drew _) | exact ext_trans (ext_drew W1) (ext_alloc W1.drew _))) ⟨W1.heap.size, 0, none⟩ 1 1 m.cells rfl rfl (KN.out _ (by first | exact heap_alloc_new W1 _ | exact heap_alloc_new W1.drew _)) (by intro u hu; simp [Mg.cells] at hu; rcases hu with rfl | rfl | rfl | rfl <;> rfl) (by decide) (by unfold maxLen; omega) (by omega) (by simp; omega) (W1.heap.size + 1) (by simp) ?_); intro gg cap w1 hown1 hgrow hat hlt1; have hc1 := (hgrow.cell_far ⟨g, 0, none⟩ (by simp; omega) (Ne.symm far)); have hf1 := (hgrow.frozen_far ⟨g, 0, none⟩ (by simp; omega) (Ne.symm far)); replace hat := Lib.hid hat; replace hgrow := Lib.hid hgrow; replace hown1 := Lib.hid hown1)
  all_goals go_wp2
  all_goals go_ret
  all_goals exact ⟨rfl, _, by rw [hv.out]; exact xput_end (hv.out ▸ H.out) hb.out (by first | exact ext_trans (ext_alloc W1 _) (ext_drew _) | exact ext_alloc W1 _ | exact ext_trans (ext_drew W1) (ext_alloc W1.drew _)) hgrow.out hown1.out hat.out hsz.out⟩
end
end Go.Proofs.Ytdcfenkllpfbaaa.Quu
