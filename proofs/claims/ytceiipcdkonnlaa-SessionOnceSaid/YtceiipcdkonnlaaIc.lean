/-
  LAYER 21: Swap.
-/
import Derived.Test.YtceiipcdkonnlaaIb
namespace Go.Proofs.Ytceiipcdkonnlaa.Ids
set_option linter.unusedSimpArgs false
set_option linter.unusedVariables false
open Go.RowKit Que Hp
section
variable {B : Nat} {w w' : World} {g : Nat} {most c : Int} {tv bv : Value} {T : List Bool} {H : List Int}
def SB (bv : Value) (k : Nat) : Prop := bv.ownBlock = some k
theorem own_apart {w : World} {B B' e e' size size' n n' : Nat} {v v' : Value} {xs xs' : List Value} (h : w.ownsRow B e size v n xs) (h' : w.ownsRow B' e' size' v' n' xs') (he : e ≠ e') : ∀ k, v.ownBlock = some k → v'.ownBlock ≠ some k := by
  intro k hk hk'
  rcases h.2 with ⟨rfl, -⟩ | ⟨g1, cap, cur, rfl, -, hcur, -⟩
  · cases hk
  rcases h'.2 with ⟨rfl, -⟩ | ⟨g2, cap', cur', rfl, -, hcur', -⟩
  · cases hk'
  obtain rfl : g1 = k := by simpa [Value.ownBlock] using hk
  obtain rfl : g2 = g1 := by simpa [Value.ownBlock] using hk'
  rw [hcur] at hcur'
  simp at hcur'
  exact he hcur'.2
/-- One number is stored. -/
theorem Id.store (h : Id B w g most tv T bv H c) {gb cb : Nat} (hv : bv = .slice (some ⟨gb, 0, none⟩) H.length cb) {k : Nat} (x : Int) : Id B (w.setCell ⟨gb, k, none⟩ (.int .i64 x)) g most tv T bv (H.set k x) c := by
  subst hv
  have G : w.grownBy (w.setCell ⟨gb, k, none⟩ (.int .i64 x)) (some gb) := ⟨rfl, rfl, rfl, by simp [World.setCell], fun j _ hne => Below.heap_setCell _ _ _ _ (by simpa using hne)⟩
  refine ⟨(G.block g h.lt (own_far h.bk h.row (by decide))).trans h.row, h.tk.kept G (.inr (own_apart h.bk h.tk (by decide) gb rfl)), ?_⟩
  have := (h.bk.stored k (.int .i64 x)).1
  simpa [il, List.map_set] using this
set_option maxHeartbeats 2000000 in
set_option maxRecDepth 100000 in
theorem swap_any (h : Id B w g most tv T bv H c) {i j : Nat} (hi : i < H.length) (hj : j < H.length) (hH : H.length ≤ 100000) (hne : i ≠ j) :
    Calls Try.prog 126 #[bv, .int .i64 i, .int .i64 j] w fun e w' => e = .returned (.tuple #[]) ∧ Id B w' g most tv T bv (sw H i j) c ∧ Far (SB bv) w w' := by
  obtain ⟨gb, cb, hv⟩ := own_slice' h.bk (by omega)
  have ci := h.num hv hi
  have cj := h.num hv hj
  have S1 := Lib.hid (h.store hv (k := i) (at' H j))
  have hb := h.bk
  subst hv
  have fi : w.frozen? ⟨gb, i, none⟩ = false := hb.frozenAt i
  have fj : w.frozen? ⟨gb, j, none⟩ = false := hb.frozenAt j
  have hi0 : (i : Int) < (H.length : Int) := by omega
  have hj0 : (j : Int) < (H.length : Int) := by omega
  have hl' : (H.length : Int) ≤ 100000 := by omega
  have hne1 : j ≠ i := Ne.symm hne
  replace hb := Lib.hid hb
  have H0 := Lib.hid h
  clear h
  go_enter Try.func126, Try.ntmps126
  go_wp2
  go_region
  go_end0
  have S2 := (S1.out.store (gb := gb) (cb := cb) (by simp) (k := j) (at' H i)).keep (ext_drew _)
  refine ⟨rfl, S2, ?_⟩
  have F : ∀ (W : World) (k : Nat) (u : Value), Far (SB (.slice (some ⟨gb, 0, none⟩) H.length cb)) W (W.setCell ⟨gb, k, none⟩ u) := fun W k u => ⟨rfl, rfl, rfl, by simp [World.setCell], fun q _ hq => Below.heap_setCell _ _ _ _ (fun e => hq (by subst e; rfl))⟩
  exact ((F _ _ _).trans (F _ _ _) (fun _ _ h => h)).trans (Far.of_ext (S := SB _) (ext_drew _)) (fun _ _ h => h)
end
end Go.Proofs.Ytceiipcdkonnlaa.Ids
