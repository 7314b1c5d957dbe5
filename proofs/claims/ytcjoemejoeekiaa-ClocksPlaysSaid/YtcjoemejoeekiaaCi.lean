/-
  LAYER 26: the list's own Push.
-/
import Derived.Test.YtcjoemejoeekiaaCg
namespace Go.Proofs.Ytcjoemejoeekiaa.Cl
open Go.RowKit Go.Maps Que Hp Hg
def SI (t m : Nat) (v : Value) (k : Nat) : Prop := k = t ∨ k = m ∨ v.ownBlock = some k
def zT : Value := .agg #[.int .i64 0, .int .i64 0]
theorem info95 : (Try.prog.info? 95).map (fun i => (i.zero, i.size, i.bytes)) = some (some zT, 2, 16) := by kernel_rfl
theorem Pos.snoc {D : DataW Unit} {L : List Tm} (h : Pos D L) (hD : IsMap D) {x : Tm} (hx : ∀ y ∈ L, y.k ≠ x.k) : Pos (D.put (ky x.k) (.lit (.int .i64 L.length))) (L ++ [x]) := by
  constructor
  · intro i y hy
    rw [List.getElem?_append] at hy
    split at hy
    · have hne : ky y.k ≠ ky x.k := ky_ne (hx y (List.mem_of_getElem? hy))
      rw [has_put_other hne]
      exact ⟨(h.1 i y hy).1, fun z => by rw [atKey_put_other hne]; exact (h.1 i y hy).2 z⟩
    · obtain ⟨hi, rfl⟩ : i = L.length ∧ x = y := by
        cases hq : i - L.length with
        | zero => rw [hq] at hy; exact ⟨by omega, by simpa using hy⟩
        | succ q => rw [hq] at hy; simp at hy
      subst hi
      exact ⟨has_put_same hD (ky_key _) _, fun z => atKey_put_same hD (ky_key _) _ _⟩
  · intro a ha
    rw [has_put_other (ky_ne fun e => ha x (by simp) e.symm)]
    exact h.2 a fun y hy => ha y (List.mem_append_left _ hy)
theorem Pos.pop {D : DataW Unit} {L : List Tm} {x : Tm} (h : Pos D (L ++ [x])) (hn : ((L ++ [x]).map Tm.k).Nodup) : Pos (D.del (ky x.k)) L := by
  have hl : (L ++ [x])[L.length]? = some x := by simp
  constructor
  · intro i y hy
    have hi := (List.getElem?_eq_some_iff.1 hy).1
    have hy2 : (L ++ [x])[i]? = some y := by rw [List.getElem?_append_left hi]; exact hy
    have hne : ky y.k ≠ ky x.k := ky_ne fun e => by have := nd_eq hn hy2 hl e; omega
    rw [has_del_other hne]
    exact ⟨(h.1 i y hy2).1, fun z => by rw [atKey_del_other hne]; exact (h.1 i y hy2).2 z⟩
  · intro a ha
    by_cases e : a = x.k
    · subst e; exact has_del_same
    · rw [has_del_other (ky_ne e)]
      exact h.2 a fun y hy => by
        rcases List.mem_append.1 hy with hy | hy
        · exact ha y hy
        · rw [List.mem_singleton.1 hy]; exact fun e2 => e e2.symm
section
variable {B : Nat} {w w' : World} {t m n : Nat} {v : Value} {L : List Tm}
/-- The times are others; they stand in the same block or in a new one. -/
structure CNew (B : Nat) (w w' : World) (t m n : Nat) (v : Value) (L : List Tm) (v' : Value) : Prop where
  r : Ct B w' t m n v' L
  far : Far (SI t m v) w w'
  nb : ∀ k, v'.ownBlock = some k → v.ownBlock = some k ∨ w.heap.size ≤ k
theorem setT {w : World} {g j : Nat} {cs : Array Value} (h : w.heap[g]? = some (.cells cs 92 (0, 0))) (u : Value) : (w.setCell ⟨g, j, none⟩ u).heap[g]? = some (.cells (cs.setIfInBounds j u) 92 (0, 0)) :=
  heap_setCell_same w g j _ 92 u h
theorem map_grown {D : DataW Unit} {R : Value → Option (DataW Unit × List MemPlace)} {r : Option Nat} (h : w.ownsMap Try.prog 3 R m n D) (hg : w.grownBy w' r) (hr : r ≠ some m) : w'.ownsMap Try.prog 3 R m n D := by
  obtain ⟨es, clock, hm, rest⟩ := h
  exact ⟨es, clock, (hg.block m (Array.getElem?_eq_some_iff.1 hm).1 (Ne.symm hr)).trans hm, rest⟩
theorem map_ne {t2 : TypeId} {cs : Array Value} {t : Nat} {D : DataW Unit} {R : Value → Option (DataW Unit × List MemPlace)} (h : w.ownsMap Try.prog 3 R m n D) (hg : w.heap[t]? = some (.cells cs t2 (0, 0))) : m ≠ t := by
  rintro rfl
  obtain ⟨es, clock, hm, -⟩ := h
  rw [hm] at hg
  cases hg
theorem map_own {t2 e : TypeId} {sz q : Nat} {xs : List Value} {v : Value} {D : DataW Unit} {R : Value → Option (DataW Unit × List MemPlace)} (h : w.ownsMap Try.prog 3 R m n D) (hg : w.ownsRow B e sz v q xs) : v.ownBlock ≠ some m := by
  intro e'
  rcases hg.2 with ⟨rfl, -⟩ | ⟨g', cap, cur, rfl, _, hcur, _⟩
  · simp [Value.ownBlock] at e'
  · obtain rfl : g' = m := by simpa [Value.ownBlock] using e'
    obtain ⟨es, clock, hm, -⟩ := h
    rw [hm] at hcur
    cases hcur
/-- The map has the new one; the list has not yet. -/
theorem Ct.upd (h : Ct B w t m n v L) {W : World} (hW : Below w.heap.size w W) (x : Tm) (hx : ∀ y ∈ L, y.k ≠ x.k) (hr : 0 ≤ x.k ∧ x.k < 8) (hn : n ≤ 100000) (hl : L.length ≤ 1000) :
    ∃ w1, (Instr.mapUpdate 89 (.map (some m)) (.int .i64 x.k) (.int .i64 (L.length : Nat))).run Try.prog W = .ok () w1 ∧ Mid B w1 t m (n + 1) v (L ++ [x]) L ∧ W.grownBy w1 (some m) := by
  have h2 := h.keep hW
  obtain ⟨D, o, p⟩ := h2.mp
  obtain ⟨w1, r1, o1, g1⟩ := o.update law3 Try.underlying89 (by unfold maxLen; omega) (key_of hr.1 hr.2) (plainElem_int Try.underlying3 (wfI (a := (L.length : Int)) (by omega) (by omega)))
  refine ⟨w1, r1, ⟨(g1.block t h2.lt (by simpa using Ne.symm (map_ne o h2.row))).trans h2.row, h2.its.kept g1 (.inr (map_own (t2 := 95) o h2.its)), _, o1, p.snoc o.isMap hx⟩, g1⟩
theorem push_end {W w1 w2 w3 : World} {x : Tm} {gg cap : Nat} (h : Ct B w t m n v L) (hW : Below w.heap.size w W) (M1 : Mid B w1 t m (n + 1) v (L ++ [x]) L) (G1 : W.grownBy w1 (some m)) (hx : ∀ y ∈ L, y.k ≠ x.k) (hr : 0 ≤ x.k ∧ x.k < 8 ∧ 0 ≤ x.d ∧ x.d ≤ 9223372036854775807)
    (h2 : Below w1.heap.size w1 w2) (hgrow : w2.grownBy w3 v.ownBlock) (hown1 : w3.ownsRow B 95 2 (.slice (some ⟨gg, 0, none⟩) (L.length + 1) cap) (L.length + 1) (tmC L ++ x.cells)) (hat : v.ownBlock = some gg ∨ w.heap.size ≤ gg) :
    CNew B w (w3.setCell ⟨t, 0, none⟩ (.slice (some ⟨gg, 0, none⟩) (L.length + 1) cap)) t m (n + 1) v (L ++ [x]) (.slice (some ⟨gg, 0, none⟩) (L.length + 1) cap) := by
  have lt1 := (Array.getElem?_eq_some_iff.1 M1.row).1
  have R2 := (h2.block t lt1).trans M1.row
  have hne : some t ≠ v.ownBlock := own_far h.its h.row (by decide : (92 : TypeId) ≠ 95)
  have R3 := (hgrow.block t (Nat.lt_of_lt_of_le lt1 h2.size) hne).trans R2
  obtain ⟨D, o, p⟩ := M1.mp
  have hmo := map_own (t2 := 95) o M1.its
  have o3 := map_grown (map_keep o h2) hgrow hmo
  have GG : w3.grownBy (w3.setCell ⟨t, 0, none⟩ (.slice (some ⟨gg, 0, none⟩) (L.length + 1) cap)) (some t) := set_grownX
  have hmt := map_ne o M1.row
  refine ⟨⟨by simpa using setT R3 (j := 0) (.slice (some ⟨gg, 0, none⟩) (L.length + 1) cap), ?_, ⟨D, map_grown o3 GG (by simpa using Ne.symm hmt), p⟩, ?_, ?_⟩, ?_, fun k hk => ?_⟩
  · have := own_grown hown1 R3 (by decide) GG
    rw [tmC_snoc]
    simpa using this
  · rw [List.map_append, List.nodup_append]
    refine ⟨h.nd, by simp, ?_⟩
    intro a ha b hb e
    obtain ⟨y, hy, rfl⟩ := List.mem_map.1 ha
    simp only [List.map_cons, List.map_nil, List.mem_singleton] at hb
    exact hx y hy (e.trans hb)
  · intro y hy
    rcases List.mem_append.1 hy with hy | hy
    · exact h.rg y hy
    · rw [List.mem_singleton.1 hy]; exact hr
  · have F1 : Far (SI t m v) w w1 := (Far.of_ext hW).trans (Far.of_grown (S := SI t m v) G1 (fun k _ e => .inr (.inl (by simpa using e.symm)))) (fun k _ h => h)
    have F3 : Far (SI t m v) w1 w3 := (Far.of_ext h2).trans (Far.of_grown (S := SI t m v) hgrow (fun k _ e => .inr (.inr e))) (fun k _ h => h)
    exact (F1.trans F3 (fun _ _ h => h)).trans (Far.of_grown (S := SI t m v) GG (fun k _ e => .inl (by simpa using e.symm))) (fun k _ h => h)
  · obtain rfl : gg = k := by simpa [Value.ownBlock] using hk
    exact hat
set_option maxHeartbeats 4000000 in
set_option maxRecDepth 100000 in
theorem lpush_any (h : Ct B w t m n v L) (d k : Int) (hx : ∀ y ∈ L, y.k ≠ k) (hr : 0 ≤ k ∧ k < 8 ∧ 0 ≤ d ∧ d ≤ 9223372036854775807) (hl : L.length ≤ 900) (hn : n ≤ 90000) (hB : B ≤ w.heap.size) :
    Calls Try.prog 89 #[.pointer (some ⟨t, 0, none⟩), .iface 95 (.agg #[.int .i64 d, .int .i64 k])] w fun e w' => e = .returned (.tuple #[]) ∧ ∃ v', CNew B w w' t m (n + 1) v (L ++ [⟨d, k⟩]) v' := by
  obtain ⟨i3, hi3, hz0, hz1, hz2⟩ := info_parts info95
  have ka := as_tm
  have c0 := h.c0
  have c1 := h.c1
  have f0 := h.fz 0
  have lt := h.lt
  have far : v.ownBlock ≠ some t := Ne.symm (own_far h.its h.row (by decide))
  obtain ⟨av, cv, hv⟩ := own_slice h.its
  have hWW : Below w.heap.size w (w.alloc (.cells #[.int .i64 d, .int .i64 k] 95)).drew := ext_trans (ext_alloc w _) (ext_drew _)
  obtain ⟨w1, r1, M1, G1⟩ := h.upd hWW ⟨d, k⟩ hx ⟨hr.1, hr.2.1⟩ (by omega) (by omega)
  have HH := Lib.hid h
  replace hx := Lib.hid hx
  have HM := Lib.hid M1
  have HG := Lib.hid G1
  simp only at r1
  clear h
  go_enter Try.func89, Try.ntmps89
  go_wp2
  go_region
  have x0 : w1.cell? ⟨t, 0, none⟩ = some v := cell_of_row w1 t 0 _ 92 (0, 0) M1.row
  have xf : w1.frozen? ⟨t, 0, none⟩ = false := frozen_of_row w1 t 0 _ 92 M1.row
  have lt1 : t < w1.heap.size := (Array.getElem?_eq_some_iff.1 M1.row).1
  have sz : w.heap.size < w1.heap.size := by have := G1.size; simp at this; omega
  have hblk : w1.heap[w.heap.size]? = some (.cells #[.int .i64 d, .int .i64 k] 95 (0, 0)) := by
    obtain ⟨D, o, p⟩ := HH.out.mp
    have hm := o.lt
    exact (G1.block _ (by simp) (by simp; have := HH.out.mp.choose_spec.1.lt; omega)).trans (heap_alloc_new w _)
  have y0 : w1.cell? ⟨w.heap.size, 0, none⟩ = some (.int .i64 d) := cell_of_row w1 _ 0 _ 95 (0, 0) hblk
  have y1 : w1.cell? ⟨w.heap.size, 1, none⟩ = some (.int .i64 k) := cell_of_row w1 _ 1 _ 95 (0, 0) hblk
  replace hv := Lib.hid hv
  have KB : Hid (∀ W : World, Below w1.heap.size w1 W → W.ownsRow B 95 2 v L.length (tmC L)) := Lib.hid fun W hW => own_keep M1.its hW
  have KN : Hid (∀ W : World, W.heap[w1.heap.size]? = some (.cells #[.int .i64 d, .int .i64 k] 95 (0, 0)) → ∀ j u, (Tm.cells ⟨d, k⟩)[j]? = some u → W.cell? ((⟨w1.heap.size, 0, none⟩ : Addr).add j) = some u) := Lib.hid (by
    intro W hW j u hj
    have := cell_of_row W w1.heap.size j _ 95 (0, 0) hW
    rw [add_off', Nat.zero_add, this, ← hj]
    simp [Tm.cells])
  clear M1 G1 r1 c0 c1 f0 hblk hWW
  go_wp2
  go_region_law (go_must (refine step_append_lies _ rfl (.tmp 22) (.tmp 24) 90 rfl B 95 i3 zT 2 16 Try.underlying90 hi3 hz0 hz1 hz2 rfl (by decide) v L.length (tmC L) rfl (KB.out _ (by first | exact ext_alloc w1 _ | exact ext_trans (ext_alloc w1 _) (ext_drew _) | exact ext_trans (ext_drew w1) (ext_alloc w1.drew _))) ⟨w1.heap.size, 0, none⟩ 1 1 (Tm.cells ⟨d, k⟩) rfl rfl (KN.out _ (by first | exact heap_alloc_new w1 _ | exact heap_alloc_new w1.drew _)) (by intro u hu; simp [Tm.cells] at hu; rcases hu with rfl | rfl <;> rfl) (by decide) (by unfold maxLen; omega) (by omega) (by simp; omega) (w1.heap.size + 1) (by simp) ?_); intro gg cap w3 hown1 hgrow hat hlt1; have hc1 := (hgrow.cell_far ⟨t, 0, none⟩ (by simp; omega) (Ne.symm far)); have hf1 := (hgrow.frozen_far ⟨t, 0, none⟩ (by simp; omega) (Ne.symm far)); replace hat := Lib.hid hat; replace hgrow := Lib.hid hgrow; replace hown1 := Lib.hid hown1)
  all_goals go_end0
  all_goals exact ⟨rfl, _, push_end HH.out (ext_trans (ext_alloc w _) (ext_drew _)) HM.out HG.out hx.out hr (by first | exact ext_trans (ext_alloc w1 _) (ext_drew _) | exact ext_alloc w1 _ | exact ext_trans (ext_drew w1) (ext_alloc w1.drew _)) hgrow.out hown1.out (hat.out.imp id (fun h => by omega))⟩
end
end Go.Proofs.Ytcjoemejoeekiaa.Cl
