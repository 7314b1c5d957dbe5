/-
  LAYER 21: the methods of the heap of numbers.
-/
import Derived.Test.YtceiipcdkonnlaaGreatHa
import Derived.Test.YtceiipcdkonnlaaGreatFr
namespace Go.Proofs.YtceiipcdkonnlaaGreat.Ids
set_option linter.unusedSimpArgs false
set_option linter.unusedVariables false
open Go.RowKit Que Hp
def bl (T : List Bool) : List Value := T.map Value.bool
/-- The numbers in block g. -/
structure Id (B : Nat) (w : World) (g : Nat) (most : Int) (tv : Value) (T : List Bool) (bv : Value) (H : List Int) (c : Int) : Prop where
  row : w.heap[g]? = some (.cells #[.int .i64 most, tv, bv, .int .i64 c] 112 (0, 0))
  tk : w.ownsRow B 4 1 tv T.length (bl T)
  bk : w.ownsRow B 3 1 bv H.length (il H)
section
variable {B : Nat} {w w' : World} {g : Nat} {most c : Int} {tv bv : Value} {T : List Bool} {H : List Int}
theorem Id.lt (h : Id B w g most tv T bv H c) : g < w.heap.size := (Array.getElem?_eq_some_iff.1 h.row).1
theorem Id.c0 (h : Id B w g most tv T bv H c) : w.cell? ⟨g, 0, none⟩ = some (.int .i64 most) := cell_of_row w g 0 _ 112 (0, 0) h.row
theorem Id.c1 (h : Id B w g most tv T bv H c) : w.cell? ⟨g, 1, none⟩ = some tv := cell_of_row w g 1 _ 112 (0, 0) h.row
theorem Id.c2 (h : Id B w g most tv T bv H c) : w.cell? ⟨g, 2, none⟩ = some bv := cell_of_row w g 2 _ 112 (0, 0) h.row
theorem Id.c3 (h : Id B w g most tv T bv H c) : w.cell? ⟨g, 3, none⟩ = some (.int .i64 c) := cell_of_row w g 3 _ 112 (0, 0) h.row
theorem Id.fz (h : Id B w g most tv T bv H c) (j : Nat) : w.frozen? ⟨g, j, none⟩ = false := frozen_of_row w g j _ 112 h.row
theorem Id.keep (h : Id B w g most tv T bv H c) (hb : Below w.heap.size w w') : Id B w' g most tv T bv H c := ⟨(hb.block g h.lt).trans h.row, own_keep h.tk hb, own_keep h.bk hb⟩
theorem Id.drewN (h : Id B w g most tv T bv H c) (n : Nat) : Id B (w.drewN n) g most tv T bv H c := h.keep (ext_drewN _ _)
/-- The k-th number. -/
theorem Id.num (h : Id B w g most tv T bv H c) {gb n cb : Nat} (hv : bv = .slice (some ⟨gb, 0, none⟩) n cb) {k : Nat} (hk : k < H.length) : w.cell? ⟨gb, k, none⟩ = some (.int .i64 (at' H k)) := by
  subst hv
  exact own_get h.bk (by simp [il, at', hk])
theorem len_any (bv : Value) (n : Nat) (a : Option Addr) (cb : Nat) (hv : bv = .slice a n cb) (w : World) : Calls Tryz.prog 115 #[bv] w fun e w' => e = .returned (.int .i64 n) ∧ w = w' := by
  subst hv
  go_enter Tryz.func115, Tryz.ntmps115
  go_wp2
  go_ret
  exact ⟨rfl, rfl⟩
set_option maxRecDepth 100000 in
theorem less_any (h : Id B w g most tv T bv H c) {i j : Nat} (hi : i < H.length) (hj : j < H.length) (hH : H.length ≤ 100000) :
    Calls Tryz.prog 116 #[bv, .int .i64 i, .int .i64 j] w fun e w' => ∃ k, e = .returned (.bool (decide (at' H i < at' H j))) ∧ w.drewN k = w' := by
  obtain ⟨gb, cb, hv⟩ := own_slice' h.bk (by omega)
  have ci := h.num hv hi
  have cj := h.num hv hj
  subst hv
  have hi0 : (i : Int) < (H.length : Int) := by omega
  have hj0 : (j : Int) < (H.length : Int) := by omega
  have hl' : (H.length : Int) ≤ 100000 := by omega
  generalize at' H i = x at *
  generalize at' H j = y at *
  clear h
  go_enter Tryz.func116, Tryz.ntmps116
  go_wp2
  go_quiet (fail)
  go_wp2
  go_ret
  exact ⟨_, rfl, rfl⟩
end
end Go.Proofs.YtceiipcdkonnlaaGreat.Ids

/-
  LAYER 21: Swap.
-/
namespace Go.Proofs.YtceiipcdkonnlaaGreat.Ids
set_option linter.unusedSimpArgs false
set_option linter.unusedVariables false
open Go.RowKit Que Hp
section
variable {B : Nat} {w w' : World} {g : Nat} {most c : Int} {tv bv : Value} {T : List Bool} {H : List Int}
def SB (bv : Value) (k : Nat) : Prop := bv.ownBlock = some k
theorem own_apart {w : World} {B B' e e' size size' n n' : Nat} {v v' : Value} {xs xs' : List Value} (h : w.ownsRow B e size v n xs) (h' : w.ownsRow B' e' size' v' n' xs') (he : e ≠ e') : ∀ k, v.ownBlock = some k → v'.ownBlock ≠ some k := by
  intro k hk hk'
  rcases h.2 with ⟨rfl, -⟩ | ⟨g1, cap, cur, rfl, -, hcur, -⟩
  · cases hk
  rcases h'.2 with ⟨rfl, -⟩ | ⟨g2, cap', cur', rfl, -, hcur', -⟩
  · cases hk'
  obtain rfl : g1 = k := by simpa [Value.ownBlock] using hk
  obtain rfl : g2 = g1 := by simpa [Value.ownBlock] using hk'
  rw [hcur] at hcur'
  simp at hcur'
  exact he hcur'.2
/-- One number is stored. -/
theorem Id.store (h : Id B w g most tv T bv H c) {gb cb : Nat} (hv : bv = .slice (some ⟨gb, 0, none⟩) H.length cb) {k : Nat} (x : Int) : Id B (w.setCell ⟨gb, k, none⟩ (.int .i64 x)) g most tv T bv (H.set k x) c := by
  subst hv
  have G : w.grownBy (w.setCell ⟨gb, k, none⟩ (.int .i64 x)) (some gb) := ⟨rfl, rfl, rfl, by simp [World.setCell], fun j _ hne => Below.heap_setCell _ _ _ _ (by simpa using hne)⟩
  refine ⟨(G.block g h.lt (own_far h.bk h.row (by decide))).trans h.row, h.tk.kept G (.inr (own_apart h.bk h.tk (by decide) gb rfl)), ?_⟩
  have := (h.bk.stored k (.int .i64 x)).1
  simpa [il, List.map_set] using this
set_option maxHeartbeats 2000000 in
set_option maxRecDepth 100000 in
theorem swap_any (h : Id B w g most tv T bv H c) {i j : Nat} (hi : i < H.length) (hj : j < H.length) (hH : H.length ≤ 100000) (hne : i ≠ j) :
    Calls Tryz.prog 117 #[bv, .int .i64 i, .int .i64 j] w fun e w' => e = .returned (.tuple #[]) ∧ Id B w' g most tv T bv (sw H i j) c ∧ Far (SB bv) w w' := by
  obtain ⟨gb, cb, hv⟩ := own_slice' h.bk (by omega)
  have ci := h.num hv hi
  have cj := h.num hv hj
  have S1 := Lib.hid (h.store hv (k := i) (at' H j))
  have hb := h.bk
  subst hv
  have fi : w.frozen? ⟨gb, i, none⟩ = false := hb.frozenAt i
  have fj : w.frozen? ⟨gb, j, none⟩ = false := hb.frozenAt j
  have hi0 : (i : Int) < (H.length : Int) := by omega
  have hj0 : (j : Int) < (H.length : Int) := by omega
  have hl' : (H.length : Int) ≤ 100000 := by omega
  have hne1 : j ≠ i := Ne.symm hne
  replace hb := Lib.hid hb
  have H0 := Lib.hid h
  clear h
  go_enter Tryz.func117, Tryz.ntmps117
  go_wp2
  go_region
  go_end0
  have S2 := (S1.out.store (gb := gb) (cb := cb) (by simp) (k := j) (at' H i)).keep (ext_drew _)
  refine ⟨rfl, S2, ?_⟩
  have F : ∀ (W : World) (k : Nat) (u : Value), Far (SB (.slice (some ⟨gb, 0, none⟩) H.length cb)) W (W.setCell ⟨gb, k, none⟩ u) := fun W k u => ⟨rfl, rfl, rfl, by simp [World.setCell], fun q _ hq => Below.heap_setCell _ _ _ _ (fun e => hq (by subst e; rfl))⟩
  exact ((F _ _ _).trans (F _ _ _) (fun _ _ h => h)).trans (Far.of_ext (S := SB _) (ext_drew _)) (fun _ _ h => h)
end
end Go.Proofs.YtceiipcdkonnlaaGreat.Ids

/-
  LAYER 21: the heap's methods through the interface; up.
-/
namespace Go.Proofs.YtceiipcdkonnlaaGreat.Ids
set_option linter.unusedSimpArgs false
set_option linter.unusedVariables false
open Go.RowKit Que Hp
theorem m_len0 (g : Nat) (w : World) : (method 263 137 (.pointer (some ⟨g, 2, none⟩)) "Len").run Tryz.prog w = ((do let v ← loadVar 110 ⟨g, 2, none⟩; pure (115, v)) : Sem (FuncId × Value)).run Tryz.prog w := by kernel_rfl
theorem m_len (g : Nat) (w : World) (v : Value) (hc : w.cell? ⟨g, 2, none⟩ = some v) : (method 263 137 (.pointer (some ⟨g, 2, none⟩)) "Len").run Tryz.prog w = .ok (115, v) w := by
  rw [m_len0]; simp [go_sem, hc]
theorem m_less0 (g : Nat) (w : World) : (method 263 137 (.pointer (some ⟨g, 2, none⟩)) "Less").run Tryz.prog w = ((do let v ← loadVar 110 ⟨g, 2, none⟩; pure (116, v)) : Sem (FuncId × Value)).run Tryz.prog w := by kernel_rfl
theorem m_less (g : Nat) (w : World) (v : Value) (hc : w.cell? ⟨g, 2, none⟩ = some v) : (method 263 137 (.pointer (some ⟨g, 2, none⟩)) "Less").run Tryz.prog w = .ok (116, v) w := by
  rw [m_less0]; simp [go_sem, hc]
theorem m_swap0 (g : Nat) (w : World) : (method 263 137 (.pointer (some ⟨g, 2, none⟩)) "Swap").run Tryz.prog w = ((do let v ← loadVar 110 ⟨g, 2, none⟩; pure (117, v)) : Sem (FuncId × Value)).run Tryz.prog w := by kernel_rfl
theorem m_swap (g : Nat) (w : World) (v : Value) (hc : w.cell? ⟨g, 2, none⟩ = some v) : (method 263 137 (.pointer (some ⟨g, 2, none⟩)) "Swap").run Tryz.prog w = .ok (117, v) w := by
  rw [m_swap0]; simp [go_sem, hc]
theorem m_push (v : Value) (w : World) : (method 263 137 v "Push").run Tryz.prog w = .ok (119, v) w := by kernel_rfl
theorem m_pop (v : Value) (w : World) : (method 263 137 v "Pop").run Tryz.prog w = .ok (118, v) w := by kernel_rfl
section
variable {B : Nat} {w w' : World} {g : Nat} {most c : Int} {tv bv : Value} {T : List Bool} {H : List Int}
/-- The heap's order has changed. -/
def Moved (B : Nat) (w : World) (g : Nat) (most : Int) (tv : Value) (T : List Bool) (bv : Value) (H : List Int) (c : Int) (n : Nat) (w' : World) : Prop :=
  ∃ G : List Int, G.Perm H ∧ HeapP G n ∧ (∀ i, n ≤ i → at' G i = at' H i) ∧ Id B w' g most tv T bv G c ∧ Far (SB bv) w w'
set_option maxHeartbeats 4000000 in
set_option maxRecDepth 100000 in
theorem up_any (h : Id B w g most tv T bv H c) {j : Nat} (U : Up H H.length j) (hH : H.length ≤ 100000) :
    Calls Tryz.prog 91 #[.iface 137 (.pointer (some ⟨g, 2, none⟩)), .int .i64 j] w fun e w' => e = .returned (.tuple #[]) ∧ Moved B w g most tv T bv H c H.length w' := by
  go_enter Tryz.func91, Tryz.ntmps91
  go_wp2_with fail
  go_loopw [1] (fun jv wr => ∃ (j : Nat) (G : List Int), jv = .int .i64 (j : Int) ∧ G.Perm H ∧ Up G G.length j ∧ Id B wr g most tv T bv G c ∧ Far (SB bv) w wr) (fun jv _ => (intOf jv).toNat)
  case atStart => exact ⟨j, H, rfl, List.Perm.refl _, U, h, Far.refl _ _⟩
  case round =>
    obtain ⟨j, G, rfl, hp, hu, hi, hf⟩ := hrel
    have hlen := hp.length_eq
    have R : Hid (∀ W, Far (SB bv) wr W → Id B W g most tv T bv G c → HeapP G G.length → Moved B w g most tv T bv H c H.length W) := Lib.hid fun W hW hI hh => ⟨G, hp, by rw [← hlen]; exact hh, fun i hi => by unfold at'; rw [List.getD_eq_getElem?_getD, List.getD_eq_getElem?_getD, List.getElem?_eq_none (by omega), List.getElem?_eq_none (by omega)], hI, hf.trans hW (fun _ _ h => h)⟩
    by_cases hj0 : j = 0
    · subst hj0
      have RR := Lib.hid (R.out wr (Far.refl _ _) hi (hu.done (.inl rfl)))
      clear hp hu hi hf R hlen
      go_wp2_with fail
      go_end0
      exact ⟨rfl, RR.out⟩
    · have j1 : (1 : Int) ≤ (j : Int) := by omega
      have hjn := hu.jn
      have j2 : (j : Int) ≤ 100000 := by omega
      obtain ⟨p, hpe⟩ : ∃ p : Nat, p = (j - 1) / 2 := ⟨_, rfl⟩
      have hq : ((j : Int) - 1) / 2 = (p : Int) := by omega
      have hpj : ((p : Int) == (j : Int)) = false := by simp; omega
      have hpn : p < G.length := by omega
      have kl := m_less g wr _ hi.c2
      have LS := Lib.hid (less_any hi hjn hpn (by omega))
      have ks := Lib.hid (fun n => m_swap g (wr.drewN n) _ (hi.drewN n).c2)
      have SWP := Lib.hid (fun n => swap_any (hi.drewN n) hpn hjn (by omega) (by omega))
      have hnx := Lib.hid (hu.next (Nat.le_refl _) (by omega))
      have hpm := Lib.hid ((sw_perm hpn hjn).trans hp)
      have hi2 := Lib.hid hi
      have hu2 := Lib.hid hu
      have hf2 := Lib.hid hf
      replace hpe := Lib.hid hpe
      by_cases hlt : at' G j < at' G p
      · clear hp hu hi hf hlen R
        go_wp2_with (go_at_call 116; refine LS.out.mono ?_; rintro e w2 ⟨n, rfl, rfl⟩; have ks' := ks.out n)
        go_at_call 117
        refine (SWP.out _).mono ?_
        rintro e w3 ⟨rfl, i3, f3⟩
        have N : Hid (Up (sw G p j) (sw G p j).length p) := Lib.hid (by
          have := hnx.out (by rw [← hpe.out]; exact hlt)
          rw [← hpe.out] at this
          rw [sw_len]; exact this)
        have I3 := Lib.hid i3
        have F3 := Lib.hid ((hf2.out.trans (Far.of_ext (S := SB bv) (ext_drewN wr n)) (fun _ _ h => h)).trans f3 (fun _ _ h => h))
        clear i3 f3
        go_wp2_with fail
        go_roundw
        case rel => exact ⟨p, _, rfl, hpm.out, N.out, I3.out, F3.out⟩
        case measure => have := hpe.out; simp [intOf]; omega
      · have hd : decide (at' G j < at' G p) = false := decide_eq_false hlt
        have RR := Lib.hid (fun n => R.out (wr.drewN n) (Far.of_ext (ext_drewN _ _)) (hi.drewN n) (hu.done (.inr (by rw [← hpe.out]; omega))))
        clear hp hu hi hf hlen R
        go_wp2_with (go_at_call 116; refine LS.out.mono ?_; rintro e w2 ⟨n, rfl, rfl⟩; have ks' := ks.out n)
        go_end0
        exact ⟨rfl, RR.out _⟩
end
end Go.Proofs.YtceiipcdkonnlaaGreat.Ids
