/-
  LAYER 26: Swap.
-/
import Derived.Test.YtcjoemejoeekiaaCb
namespace Go.Proofs.Ytcjoemejoeekiaa.Cl
open Go.RowKit Go.Maps Que Hp Hg
section
variable {B : Nat} {w w' : World} {t m n : Nat} {v : Value} {L : List Tm}
/-- The list's cells have changed places; the map not yet. -/
structure Mid (B : Nat) (w : World) (t m n : Nat) (v : Value) (L M : List Tm) : Prop where
  row : w.heap[t]? = some (.cells #[v, .map (some m)] 92 (0, 0))
  its : w.ownsRow B 95 2 v M.length (tmC M)
  mp : ∃ D, w.ownsMap Try.prog 3 (plainElem (H := Unit) Try.prog 3) m n D ∧ Pos D L
theorem Ct.mid (h : Ct B w t m n v L) {gb cb : Nat} (hv : v = .slice (some ⟨gb, 0, none⟩) L.length cb) {i j : Nat} {a b : Tm} (hi : L[i]? = some a) (hj : L[j]? = some b) :
    Mid B ((((w.setCell ⟨gb, i * 2, none⟩ (.int .i64 b.d)).setCell ⟨gb, i * 2 + 1, none⟩ (.int .i64 b.k)).setCell ⟨gb, j * 2, none⟩ (.int .i64 a.d)).setCell ⟨gb, j * 2 + 1, none⟩ (.int .i64 a.k)) t m n v L (sx L i j) ∧
    Far (SV v m) w ((((w.setCell ⟨gb, i * 2, none⟩ (.int .i64 b.d)).setCell ⟨gb, i * 2 + 1, none⟩ (.int .i64 b.k)).setCell ⟨gb, j * 2, none⟩ (.int .i64 a.d)).setCell ⟨gb, j * 2 + 1, none⟩ (.int .i64 a.k)) := by
  have htg : t ≠ gb := fun e => own_far h.its h.row (by decide) (by rw [hv, e]; rfl)
  obtain ⟨D, o, p⟩ := h.mp
  have hgc : ∃ cs, w.heap[gb]? = some (.cells cs 95 (0, 0)) := by
    rcases h.its.2 with ⟨e, -⟩ | ⟨g', cap, cur, e, _, hcur, _⟩
    · rw [hv] at e; cases e
    · rw [hv] at e
      simp only [Value.slice.injEq, Option.some.injEq, Addr.mk.injEq, and_true] at e
      obtain ⟨rfl, -, -⟩ := e
      exact ⟨_, hcur⟩
  obtain ⟨cs, hg⟩ := hgc
  have hmg : m ≠ gb := by
    rintro rfl
    obtain ⟨es, clock, hm, -⟩ := o
    rw [hm] at hg
    cases hg
  rw [sx_eq hi hj]
  have s1 := Ct.store h.its hv (k := i) b
  have s2 := Ct.store (L := L.set i b) s1 (by simpa using hv) (k := j) a
  refine ⟨⟨?_, s2, D, ((((o.setCell hmg _).setCell hmg _).setCell hmg _).setCell hmg _), p⟩, ?_⟩
  · rw [Below.heap_setCell _ _ _ _ htg, Below.heap_setCell _ _ _ _ htg, Below.heap_setCell _ _ _ _ htg, Below.heap_setCell _ _ _ _ htg]; exact h.row
  · have F : ∀ (W : World) (k : Nat) (u : Value), Far (SV v m) W (W.setCell ⟨gb, k, none⟩ u) := fun W k u => ⟨rfl, rfl, rfl, by simp [World.setCell], fun q _ hq => Below.heap_setCell _ _ _ _ (fun e => hq (.inl (by subst hv; subst e; rfl)))⟩
    exact (((F _ _ _).trans (F _ _ _) (fun _ _ h => h)).trans (F _ _ _) (fun _ _ h => h)).trans (F _ _ _) (fun _ _ h => h)
/-- What the second line does. -/
theorem Mid.go {i j : Nat} (h : Mid B w t m n v L (sx L i j)) (hnd : (L.map Tm.k).Nodup) (hrg : ∀ x ∈ L, 0 ≤ x.k ∧ x.k < 8 ∧ 0 ≤ x.d ∧ x.d ≤ 9223372036854775807) (hn : n ≤ 100000) (hG : L.length ≤ 1000)
    {gb cb : Nat} (hv : v = .slice (some ⟨gb, 0, none⟩) L.length cb) {a b : Tm} (hi : L[i]? = some a) (hj : L[j]? = some b) :
    ∃ (v1 v2 : Value) (s1 s2 : Int) (w1 w2 : World), (Instr.mapEntry 89 (.map (some m)) (.int .i64 b.k)).run Try.prog w = .ok (.tuple #[v1, .int .i64 s1]) w ∧ (Instr.entryStore 89 (.map (some m)) (.int .i64 s1) (.int .i64 i)).run Try.prog w = .ok () w1 ∧
      (Instr.mapEntry 89 (.map (some m)) (.int .i64 a.k)).run Try.prog w1 = .ok (.tuple #[v2, .int .i64 s2]) w1 ∧ (Instr.entryStore 89 (.map (some m)) (.int .i64 s2) (.int .i64 j)).run Try.prog w1 = .ok () w2 ∧
      Ct B w2 t m n v (sx L i j) ∧ Far (SV v m) w w2 := by
  obtain ⟨D, o, p⟩ := h.mp
  have li := (List.getElem?_eq_some_iff.1 hi).1
  have lj := (List.getElem?_eq_some_iff.1 hj).1
  obtain ⟨ra1, ra2, -, -⟩ := hrg a (List.mem_of_getElem? hi)
  obtain ⟨rb1, rb2, -, -⟩ := hrg b (List.mem_of_getElem? hj)
  have hm : n < maxLen := by unfold maxLen; omega
  obtain ⟨v1, s1, w1, r1, t1, o1, g1⟩ := one_entry law3 Try.underlying89 o hm (key_of rb1 rb2) (p.1 j b hj).1 (plainElem_int Try.underlying3 (wfI (a := (i : Int)) (by omega) (by omega)))
  have hh : has (D.put (ky b.k) (.lit (.int .i64 (i : Int)))) (ky a.k) = true := by
    by_cases e : a.k = b.k
    · rw [e]; exact has_put_same o.isMap (ky_key _) _
    · rw [has_put_other (ky_ne e)]; exact (p.1 i a hi).1
  obtain ⟨v2, s2, w2, r2, t2, o2, g2⟩ := one_entry law3 Try.underlying89 o1 hm (key_of ra1 ra2) hh (plainElem_int Try.underlying3 (wfI (a := (j : Int)) (by omega) (by omega)))
  have lt := (Array.getElem?_eq_some_iff.1 h.row).1
  have hmt : m ≠ t := by
    rintro rfl
    obtain ⟨es, clock, hm, -⟩ := o
    have := h.row
    rw [hm] at this
    cases this
  have hmb : some m ≠ v.ownBlock := by
    intro e
    rcases h.its.2 with ⟨e', -⟩ | ⟨g', cap, cur, e', _, hcur, _⟩
    · rw [hv] at e'; cases e'
    · rw [e'] at e
      obtain rfl : m = g' := by simpa [Value.ownBlock] using e
      obtain ⟨es, clock, hm, -⟩ := o
      rw [hm] at hcur
      cases hcur
  have G : w.grownBy w2 (some m) := grown_trans g1 g2
  refine ⟨v1, v2, s1, s2, w1, w2, r1, t1, r2, t2, ⟨(G.block t lt (by simpa using Ne.symm hmt)).trans h.row, h.its.kept G (.inr hmb.symm), ⟨_, o2, p.swap o.isMap hnd hi hj⟩, ?_, fun x hx => hrg x ((sx_perm L i j).mem_iff.1 hx)⟩, Far.of_grown G (fun k _ e => .inr (by simpa using e.symm))⟩
  exact ((sx_perm L i j).map Tm.k).nodup_iff.2 hnd
set_option maxHeartbeats 4000000 in
set_option maxRecDepth 100000 in
theorem swap_any (h : Ct B w t m n v L) {i j : Nat} (hi : i < L.length) (hj : j < L.length) (hG : L.length ≤ 1000) (hn : n ≤ 100000) (hne : i ≠ j) :
    Calls Try.prog 90 #[.pointer (some ⟨t, 0, none⟩), .int .i64 i, .int .i64 j] w fun e w' => e = .returned (.tuple #[]) ∧ Ct B w' t m n v (sx L i j) ∧ Far (SV v m) w w' := by
  obtain ⟨ei, hei⟩ : ∃ e, L[i]? = some e := ⟨_, List.getElem?_eq_getElem hi⟩
  obtain ⟨ej, hej⟩ : ∃ e, L[j]? = some e := ⟨_, List.getElem?_eq_getElem hj⟩
  obtain ⟨gb, cb, hv⟩ := own_slice' h.its (by omega)
  have c0 := h.c0
  have c1 := h.c1
  obtain ⟨ci0, ci1⟩ := h.at hv hei
  obtain ⟨cj0, cj1⟩ := h.at hv hej
  have fi0 := h.fzr hv (i * 2)
  have fi1 := h.fzr hv (i * 2 + 1)
  have fj0 := h.fzr hv (j * 2)
  have fj1 := h.fzr hv (j * 2 + 1)
  have htg : t ≠ gb := fun e => own_far h.its h.row (by decide) (by rw [hv, e]; rfl)
  obtain ⟨M0, F0⟩ := h.mid hv hei hej
  obtain ⟨W, hW⟩ : ∃ W, W = ((((w.setCell ⟨gb, i * 2, none⟩ (.int .i64 ej.d)).setCell ⟨gb, i * 2 + 1, none⟩ (.int .i64 ej.k)).setCell ⟨gb, j * 2, none⟩ (.int .i64 ei.d)).setCell ⟨gb, j * 2 + 1, none⟩ (.int .i64 ei.k)) := ⟨_, rfl⟩
  rw [← hW] at M0 F0
  have M1 : Mid B W.drew.drew t m n v L (sx L i j) := by
    obtain ⟨D, o, p⟩ := M0.mp
    exact ⟨M0.row, M0.its, D, o, p⟩
  have F1 := Lib.hid (F0.trans (Far.of_ext (S := SV v m) (ext_trans (ext_drew W) (ext_drew W.drew))) (fun _ _ h => h))
  obtain ⟨v1, v2, s1, s2, w1, w2, r1, t1, r2, t2, C2, F2⟩ := M1.go h.nd h.rg hn hG hv hei hej
  have x0 : W.cell? ⟨t, 0, none⟩ = some v := cell_of_row W t 0 _ 92 (0, 0) M0.row
  have x1 : W.cell? ⟨t, 1, none⟩ = some (.map (some m)) := cell_of_row W t 1 _ 92 (0, 0) M0.row
  have hgi : (sx L i j)[i]? = some ej := by
    rw [sx_eq hei hej]
    by_cases e : j = i
    · subst e
      rw [hei] at hej
      cases hej
      rw [List.getElem?_set_self (by simpa using hi)]
    · rw [List.getElem?_set_ne e, List.getElem?_set_self hi]
  have hgj : (sx L i j)[j]? = some ei := by
    rw [sx_eq hei hej, List.getElem?_set_self (by simpa using hj)]
  have y1 : W.cell? ⟨gb, i * 2 + 1, none⟩ = some (.int .i64 ej.k) := by
    have := M0.its; rw [hv] at this
    exact own_get this (by have := tmC_get _ i _ hgi 1 (by omega); simpa [Tm.cells] using this)
  have y2 : W.cell? ⟨gb, j * 2 + 1, none⟩ = some (.int .i64 ei.k) := by
    have := M0.its; rw [hv] at this
    exact own_get this (by have := tmC_get _ j _ hgj 1 (by omega); simpa [Tm.cells] using this)
  have C2' := Lib.hid C2
  have F2' := Lib.hid (F1.out.trans F2 (fun _ _ h => h))
  subst hv
  have hi0 : (i : Int) < (L.length : Int) := by omega
  have hj0 : (j : Int) < (L.length : Int) := by omega
  have hl' : (L.length : Int) ≤ 1000 := by omega
  have hWd := congrArg World.drew hW
  obtain ⟨di, ki⟩ := ei
  obtain ⟨dj, kj⟩ := ej
  simp only at *
  clear h hei hej M0 M1 F0 F1 C2 F2 hgi hgj
  replace hW := Lib.hid hW
  · have hne1 : j ≠ i := fun e => hne e.symm
    replace hWd := Lib.hid hWd
    go_enter Try.func90, Try.ntmps90
    go_wp2
    go_region
    rw [← hWd.out]
    clear hWd ci0 ci1 cj0 cj1 fi0 fi1 fj0 fj1 c0 c1
    go_wp2
    go_region
    go_end0
    exact ⟨rfl, C2'.out, F2'.out⟩
end
end Go.Proofs.Ytcjoemejoeekiaa.Cl
