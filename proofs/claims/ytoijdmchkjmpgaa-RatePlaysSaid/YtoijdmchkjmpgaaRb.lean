/-
  LAYER 35: the methods of the heap of grants.
-/
import Derived.Test.YtoijdmchkjmpgaaRa
import Derived.Test.YtoijdmchkjmpgaaYa
namespace Go.Proofs.Ytoijdmchkjmpgaa.Rte
open Go.RowKit Que Hp
def SV (v : Value) (k : Nat) : Prop := v.ownBlock = some k
section
variable {B : Nat} {w w' : World} {g : Nat} {gap : Int} {v : Value} {G : List Gr}
theorem Rt.store (h : Rt B w g gap v G) {gb cb : Nat} (hv : v = .slice (some ⟨gb, 0, none⟩) G.length cb) {k : Nat} (e : Gr) : Rt B ((w.setCell ⟨gb, k * 2, none⟩ (.string e.k)).setCell ⟨gb, k * 2 + 1, none⟩ (.int .i64 e.t)) g gap v (G.set k e) := by
  subst hv
  have hne : g ≠ gb := fun e => own_far h.its h.row (by decide) (by rw [e]; rfl)
  refine ⟨?_, ?_⟩
  · rw [Below.heap_setCell _ _ _ _ hne, Below.heap_setCell _ _ _ _ hne]; exact h.row
  · have := (((h.its.stored (k * 2) (.string e.k)).1).stored (k * 2 + 1) (.int .i64 e.t)).1
    rw [grC_set] at this
    simpa using this
theorem Rt.storeT (h : Rt B w g gap v G) {gb cb : Nat} (hv : v = .slice (some ⟨gb, 0, none⟩) G.length cb) {k : Nat} {e : Gr} (he : G[k]? = some e) (t : Int) : Rt B (w.setCell ⟨gb, k * 2 + 1, none⟩ (.int .i64 t)) g gap v (G.set k ⟨e.k, t⟩) := by
  subst hv
  have hne : g ≠ gb := fun e => own_far h.its h.row (by decide) (by rw [e]; rfl)
  refine ⟨?_, ?_⟩
  · rw [Below.heap_setCell _ _ _ _ hne]; exact h.row
  · have := (h.its.stored (k * 2 + 1) (.int .i64 t)).1
    rw [grC_setT _ _ _ _ he] at this
    simpa using this
theorem Rt.fzr (h : Rt B w g gap v G) {gb cb n : Nat} (hv : v = .slice (some ⟨gb, 0, none⟩) n cb) (j : Nat) : w.frozen? ⟨gb, j, none⟩ = false := by
  have := h.its
  subst hv
  rcases this.2 with ⟨h, -⟩ | ⟨g', cap, cur, hv, hB, hcur, hn, hm, hs, ht⟩
  · cases h
  · simp only [Value.slice.injEq, Option.some.injEq, Addr.mk.injEq, and_true] at hv
    obtain ⟨rfl, -, -⟩ := hv
    exact frozen_of_row w gb j _ 109 hcur
theorem hlen_any (h : Rt B w g gap v G) : Calls Try.prog 108 #[v] w fun e w' => e = .returned (.int .i64 (G.length : Nat)) ∧ w = w' := by
  obtain ⟨a, c, rfl⟩ := own_slice h.its
  clear h
  go_enter Try.func108, Try.ntmps108
  go_wp2
  go_ret
  exact ⟨rfl, rfl⟩
def key (e : Gr) : Int := e.t
theorem key_at {G : List Gr} {i : Nat} {e : Gr} (h : G[i]? = some e) : at' (G.map key) i = e.t := by
  unfold at'; rw [List.getD_eq_getElem?_getD, List.getElem?_map, h]; rfl
set_option maxRecDepth 100000 in
theorem less_any (h : Rt B w g gap v G) {i j : Nat} (hi : i < G.length) (hj : j < G.length) (hG : G.length ≤ 1000) :
    Calls Try.prog 109 #[v, .int .i64 i, .int .i64 j] w fun e w' => ∃ k, e = .returned (.bool (decide (at' (G.map key) i < at' (G.map key) j))) ∧ w.drewN k = w' := by
  obtain ⟨ei, hei⟩ : ∃ e, G[i]? = some e := ⟨_, List.getElem?_eq_getElem hi⟩
  obtain ⟨ej, hej⟩ : ∃ e, G[j]? = some e := ⟨_, List.getElem?_eq_getElem hj⟩
  obtain ⟨gb, cb, hv⟩ := own_slice' h.its (by omega)
  have ci := (h.at hv hei).2
  have cj := (h.at hv hej).2
  rw [key_at hei, key_at hej]
  subst hv
  have hi0 : (i : Int) < (G.length : Int) := by omega
  have hj0 : (j : Int) < (G.length : Int) := by omega
  have hl' : (G.length : Int) ≤ 1000 := by omega
  clear h hei hej
  go_enter Try.func109, Try.ntmps109
  go_wp2
  go_quiet (fail)
  go_wp2
  go_ret
  exact ⟨_, rfl, rfl⟩
set_option maxHeartbeats 2000000 in
set_option maxRecDepth 100000 in
theorem swap_any (h : Rt B w g gap v G) {i j : Nat} (hi : i < G.length) (hj : j < G.length) (hG : G.length ≤ 1000) (hne : i ≠ j) :
    Calls Try.prog 110 #[v, .int .i64 i, .int .i64 j] w fun e w' => e = .returned (.tuple #[]) ∧ Rt B w' g gap v (sx G i j) ∧ Far (SV v) w w' := by
  obtain ⟨ei, hei⟩ : ∃ e, G[i]? = some e := ⟨_, List.getElem?_eq_getElem hi⟩
  obtain ⟨ej, hej⟩ : ∃ e, G[j]? = some e := ⟨_, List.getElem?_eq_getElem hj⟩
  rw [sx_eq hei hej]
  obtain ⟨gb, cb, hv⟩ := own_slice' h.its (by omega)
  obtain ⟨ci0, ci1⟩ := h.at hv hei
  obtain ⟨cj0, cj1⟩ := h.at hv hej
  have S1 := Lib.hid (h.store hv (k := i) ej)
  have fi0 := h.fzr hv (i * 2)
  have fi1 := h.fzr hv (i * 2 + 1)
  have fj0 := h.fzr hv (j * 2)
  have fj1 := h.fzr hv (j * 2 + 1)
  subst hv
  have hi0 : (i : Int) < (G.length : Int) := by omega
  have hj0 : (j : Int) < (G.length : Int) := by omega
  have hl' : (G.length : Int) ≤ 1000 := by omega
  have hne1 : j ≠ i := Ne.symm hne
  have H0 := Lib.hid h
  clear h hei hej
  go_enter Try.func110, Try.ntmps110
  go_wp2
  go_region
  go_end0
  have S2 := (S1.out.store (gb := gb) (cb := cb) (by simp) (k := j) ei).keep (ext_drew _)
  refine ⟨rfl, S2, ?_⟩
  have F : ∀ (W : World) (k : Nat) (u : Value), Far (SV (.slice (some ⟨gb, 0, none⟩) G.length cb)) W (W.setCell ⟨gb, k, none⟩ u) := fun W k u => ⟨rfl, rfl, rfl, by simp [World.setCell], fun q _ hq => Below.heap_setCell _ _ _ _ (fun e => hq (by subst e; rfl))⟩
  exact ((((F _ _ _).trans (F _ _ _) (fun _ _ h => h)).trans (F _ _ _) (fun _ _ h => h)).trans (F _ _ _) (fun _ _ h => h)).trans (Far.of_ext (S := SV _) (ext_drew _)) (fun _ _ h => h)
end
end Go.Proofs.Ytoijdmchkjmpgaa.Rte
