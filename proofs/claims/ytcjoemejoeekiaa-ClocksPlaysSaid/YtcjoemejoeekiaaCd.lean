/-
  LAYER 26: Swap of one with itself.
-/
import Derived.Test.YtcjoemejoeekiaaCc
namespace Go.Proofs.Ytcjoemejoeekiaa.Cl
open Go.RowKit Go.Maps Que Hp Hg
section
variable {B : Nat} {w w' : World} {t m n : Nat} {v : Value} {L : List Tm}
set_option maxHeartbeats 4000000 in
set_option maxRecDepth 100000 in
theorem swap_same (h : Ct B w t m n v L) {i : Nat} (hi : i < L.length) (hG : L.length ≤ 1000) (hn : n ≤ 100000) :
    Calls Try.prog 90 #[.pointer (some ⟨t, 0, none⟩), .int .i64 i, .int .i64 i] w fun e w' => e = .returned (.tuple #[]) ∧ Ct B w' t m n v (sx L i i) ∧ Far (SV v m) w w' := by
  obtain ⟨j, hji⟩ : ∃ j, i = j := ⟨_, rfl⟩
  have hj : j < L.length := hji ▸ hi
  obtain ⟨ei, hei⟩ : ∃ e, L[i]? = some e := ⟨_, List.getElem?_eq_getElem hi⟩
  subst hji
  have hej := hei
  obtain ⟨gb, cb, hv⟩ := own_slice' h.its (by omega)
  have c0 := h.c0
  have c1 := h.c1
  obtain ⟨ci0, ci1⟩ := h.at hv hei
  obtain ⟨cj0, cj1⟩ := h.at hv hej
  have fi0 := h.fzr hv (i * 2)
  have fi1 := h.fzr hv (i * 2 + 1)
  have fj0 := h.fzr hv (i * 2)
  have fj1 := h.fzr hv (i * 2 + 1)
  have htg : t ≠ gb := fun e => own_far h.its h.row (by decide) (by rw [hv, e]; rfl)
  obtain ⟨M0, F0⟩ := h.mid hv hei hej
  obtain ⟨W, hW⟩ : ∃ W, W = ((((w.setCell ⟨gb, i * 2, none⟩ (.int .i64 ei.d)).setCell ⟨gb, i * 2 + 1, none⟩ (.int .i64 ei.k)).setCell ⟨gb, i * 2, none⟩ (.int .i64 ei.d)).setCell ⟨gb, i * 2 + 1, none⟩ (.int .i64 ei.k)) := ⟨_, rfl⟩
  rw [← hW] at M0 F0
  have M1 : Mid B W.drew.drew t m n v L (sx L i i) := by
    obtain ⟨D, o, p⟩ := M0.mp
    exact ⟨M0.row, M0.its, D, o, p⟩
  have F1 := Lib.hid (F0.trans (Far.of_ext (S := SV v m) (ext_trans (ext_drew W) (ext_drew W.drew))) (fun _ _ h => h))
  obtain ⟨v1, v2, s1, s2, w1, w2, r1, t1, r2, t2, C2, F2⟩ := M1.go h.nd h.rg hn hG hv hei hej
  have x0 : W.cell? ⟨t, 0, none⟩ = some v := cell_of_row W t 0 _ 92 (0, 0) M0.row
  have x1 : W.cell? ⟨t, 1, none⟩ = some (.map (some m)) := cell_of_row W t 1 _ 92 (0, 0) M0.row
  have hgi : (sx L i i)[i]? = some ei := by
    rw [sx_eq hei hej, List.getElem?_set_self (by simpa using hi)]
  have hgj : (sx L i i)[i]? = some ei := by
    rw [sx_eq hei hej, List.getElem?_set_self (by simpa using hj)]
  have y1 : W.cell? ⟨gb, i * 2 + 1, none⟩ = some (.int .i64 ei.k) := by
    have := M0.its; rw [hv] at this
    exact own_get this (by have := tmC_get _ i _ hgi 1 (by omega); simpa [Tm.cells] using this)
  have y2 : W.cell? ⟨gb, i * 2 + 1, none⟩ = some (.int .i64 ei.k) := by
    have := M0.its; rw [hv] at this
    exact own_get this (by have := tmC_get _ i _ hgj 1 (by omega); simpa [Tm.cells] using this)
  have C2' := Lib.hid C2
  have F2' := Lib.hid (F1.out.trans F2 (fun _ _ h => h))
  subst hv
  have hi0 : (i : Int) < (L.length : Int) := by omega
  have hj0 : (i : Int) < (L.length : Int) := by omega
  have hl' : (L.length : Int) ≤ 1000 := by omega
  have hWd := congrArg World.drew hW
  obtain ⟨di, ki⟩ := ei
  simp only at *
  clear h hei hej M0 M1 F0 F1 C2 F2 hgi hgj
  replace hW := Lib.hid hW
  replace hWd := Lib.hid hWd
  go_enter Try.func90, Try.ntmps90
  go_wp2
  go_region
  rw [← hWd.out]
  clear hWd ci0 ci1 cj0 cj1 fi0 fi1 fj0 fj1 c0 c1
  go_wp2
  go_region
  go_end0
  exact ⟨rfl, C2'.out, F2'.out⟩
end
end Go.Proofs.Ytcjoemejoeekiaa.Cl
