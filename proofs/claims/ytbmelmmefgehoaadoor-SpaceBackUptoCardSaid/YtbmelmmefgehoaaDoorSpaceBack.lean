/-
  SpaceBack: FOR EVERY INPUT the law returns true and leaves its arguments as they were; the package's tables are laid (a card).
-/
import Derived.Test.YtbmelmmefgehoaaDoorWl
import Derived.Test.YtbmelmmefgehoaaDoorTb
import Derived.Test.YtbmelmmefgehoaaDoorCards
import Derived.Test.YtbmelmmefgehoaaDoorTie
import Derived.Test.YtbmelmmefgehoaaDoorBulk
import Derived.JoinedCond
import Derived.WalkKit
import Derived.Deep.RegionHeld3
import Derived.ProofKit
import Derived.OpenShut
import Derived.ChangeOld
import Derived.Below
import Derived.SizedLaws
import Derived.Lib.SmallJoins
import Derived.Deep.DeepHandedRow
import Derived.Lib.LaidTab
namespace Go.Proofs.YtbmelmmefgehoaaDoor.spaceBack
open Go.ChangeShapes Go.WideShapes Go.ChangeAt Go.RowKit
open Go.ChangeMaps (open_string shut_string)
set_option linter.unusedVariables false

theorem own : ownKnob Tryd.prog.godebug = none := by kernel_rfl
theorem laidOut : laidOutB Tryd.prog = true := by kernel_rfl

theorem keepS {w1 W W' : World} {b : Nat} {K : Int} {G N D : ByteArray} (h : W.cell? ⟨b, 0, none⟩ = some (.int .i64 K) ∧ W.cell? ⟨b, 1, none⟩ = some (.string G) ∧ W.cell? ⟨b, 2, none⟩ = some (.string N) ∧ W.cell? ⟨b, 3, none⟩ = some (.string D) ∧ Tabs W ∧ Below w1.heap.size w1 W) (hb : Below W.heap.size W W') :
    W'.cell? ⟨b, 0, none⟩ = some (.int .i64 K) ∧ W'.cell? ⟨b, 1, none⟩ = some (.string G) ∧ W'.cell? ⟨b, 2, none⟩ = some (.string N) ∧ W'.cell? ⟨b, 3, none⟩ = some (.string D) ∧ Tabs W' ∧ Below w1.heap.size w1 W' := by
  obtain ⟨h0, h1, h2, h3, h4, h5⟩ := h
  have hl := World.block_lt_of_cell? W _ h0
  have c : ∀ j, W'.cell? ⟨b, j, none⟩ = W.cell? ⟨b, j, none⟩ := fun j => hb.cell (by simpa using hl)
  exact ⟨(c 0).trans h0, (c 1).trans h1, (c 2).trans h2, (c 3).trans h3, h4.keep hb, ext_trans h5 hb⟩
theorem size_of_ok {t : ByteArray} (h : nameB t = true) : t.size ≤ 1048576 := Nat.le_trans (name_small h) (by decide)
set_option maxHeartbeats 4000000 in
set_option maxRecDepth 100000 in
theorem walk_oz (K : Int) (G N D t : ByteArray) (w : World) (ht : Tabs w) (hG : G.size ≤ 1048576) (hN : N.size ≤ 1048576) (hD : D.size ≤ 1048576) (hs : t.size ≤ 1048576) (k : Nat) (hkk : K = k) (tt : ByteArray) (hp : putB K G N D = (tt, 0)) (ho : ofB tt = ⟨k, G, N, D⟩) (hn : nameB tt = true) (hx : ofB t = Sp.zero) : Calls Tryd.prog 3 #[.agg #[.int .i64 (K : Int), .string G, .string N, .string D], .string t] w (Yes w) := by
  subst hkk
  have PU := fun w h => put_all (k : Int) G N D w h hG hN hD
  rw [hp] at PU
  have OT := fun w h => of_any t w h hs
  rw [hx] at OT
  have AW := Lib.hid fun w h => awake_any w h
  change ∀ w, Tabs w → Calls Tryd.prog 8 #[.string t] w (OfIs ⟨0, ⟨#[]⟩, ⟨#[]⟩, ⟨#[]⟩⟩ w) at OT
  have OF := fun w h => of_any tt w h (size_of_ok hn)
  rw [ho] at OF
  have NM := fun w => nam_any tt w (size_of_ok hn)
  rw [hn] at NM
  replace OF := Lib.hid OF
  replace NM := Lib.hid NM
  replace PU := Lib.hid PU
  replace OT := Lib.hid OT
  replace hp := Lib.hid hp
  replace hx := Lib.hid hx
  replace ho := Lib.hid ho
  replace hn := Lib.hid hn
  have b0 := ext_alloc w (.cells #[.int .i64 (k : Int), .string G, .string N, .string D] 23)
  have t0 := Lib.hid (ht.keep b0)
  have s0 : SpotAt (w.alloc (.cells #[.int .i64 (k : Int), .string G, .string N, .string D] 23)) w.heap.size (k : Int) G N D := ⟨by rw [World.cell?_alloc_at _ _ _ _ rfl]; rfl, by rw [World.cell?_alloc_at _ _ _ _ rfl]; rfl, by rw [World.cell?_alloc_at _ _ _ _ rfl]; rfl, by rw [World.cell?_alloc_at _ _ _ _ rfl]; rfl⟩
  replace s0 := Lib.hid s0
  replace b0 := Lib.hid b0
  clear ht hG hN hD hs
  go_enter Tryd.func3, Tryd.ntmps3
  go_wp2_with fail
  refine (PU.out _ t0.out).mono ?_
  rintro e w1 ⟨rfl, b1⟩
  obtain ⟨d0, d1, d2, d3⟩ := s0.out.keep b1 (by simp)
  have t1 := t0.out.keep b1
  have B1 := Lib.hid (ext_trans b0.out b1)
  clear b1 s0 b0 t0
  go_wp2_with fail
  refine wp_region_held_drew (S := fun W => W.cell? ⟨w.heap.size, 0, none⟩ = some (.int .i64 (k : Int)) ∧ W.cell? ⟨w.heap.size, 1, none⟩ = some (.string G) ∧ W.cell? ⟨w.heap.size, 2, none⟩ = some (.string N) ∧ W.cell? ⟨w.heap.size, 3, none⟩ = some (.string D) ∧ Tabs W ∧ Below w1.heap.size w1 W) (by kernel_rfl) ⟨d0, d1, d2, d3, t1, ext_drew _⟩ (fun hS => ?_)
  (refine wpAnyH_take (i := 0) (v := ?_) rfl (by kernel_rfl) (by kernel_rfl) (by kernel_rfl) (fun _ _ _ h => h) (Or.inl ⟨by rfl, ?_⟩) hS ?_; rotate_left; focus (intro W hW; go_simp; try with_reducible rfl))
  go_simp
  (refine wpAnyH_take (i := 1) (v := ?_) rfl (by kernel_rfl) (by kernel_rfl) (by kernel_rfl) (fun _ _ _ h => h) (Or.inl ⟨by rfl, ?_⟩) hS ?_; rotate_left; focus (intro W hW; go_simp; try with_reducible rfl))
  go_simp
  (refine wpAnyH_take (i := 2) (v := ?_) rfl (by kernel_rfl) (by kernel_rfl) (by kernel_rfl) (fun _ _ _ h => h) (Or.inl ⟨by rfl, ?_⟩) hS ?_; rotate_left; focus (intro W hW; go_simp; try with_reducible rfl))
  go_simp
  (refine wpAnyH_take (i := 3) (v := ?_) rfl (by kernel_rfl) (by kernel_rfl) (by kernel_rfl) (fun _ _ _ h => h) (Or.inl ⟨by rfl, ?_⟩) hS ?_; rotate_left; focus (intro W hW; go_simp; try with_reducible rfl))
  go_simp
  (refine wpAnyH_take (i := 5) (v := ?_) rfl (by kernel_rfl) (by kernel_rfl) (by kernel_rfl) (fun _ _ _ h => h) (Or.inl ⟨by rfl, ?_⟩) hS ?_; rotate_left; focus (intro W hW; obtain ⟨hW0, hW1, hW2, hW3, hW4, hW5⟩ := hW; go_simp; try with_reducible rfl))
  go_simp
  refine wpAnyH_ready (rs := [4]) (by kernel_rfl) (by simp) ?_
  refine AllReadyH.cons rfl (fun K hK => ?_) AllReadyH.nil
  go_simp
  go_wp2_with (go_at_call 8; refine (OF.out _ hS.2.2.2.2.1).mono ?_; rintro e wA ⟨rfl, bA⟩)
  refine hK.out _ _ (keepS hS bA) (fun hS => ?_)
  clear hK K
  rename_i hS0
  clear hS0 bA
  go_simp
  (refine wpAnyH_take (i := 6) (v := ?_) rfl (by kernel_rfl) (by kernel_rfl) (by kernel_rfl) (fun _ _ _ h => h) (Or.inl ⟨by rfl, ?_⟩) hS ?_; rotate_left; focus (intro W hW; go_simp; try with_reducible rfl))
  go_simp
  (refine wpAnyH_take (i := 7) (v := ?_) rfl (by kernel_rfl) (by kernel_rfl) (by kernel_rfl) (fun _ _ _ h => h) (Or.inl ⟨by rfl, ?_⟩) hS ?_; rotate_left; focus (intro W hW; go_simp; try with_reducible rfl))
  go_simp
  (refine wpAnyH_take (i := 8) (v := ?_) rfl (by kernel_rfl) (by kernel_rfl) (by kernel_rfl) (fun _ _ _ h => h) (Or.inl ⟨by rfl, ?_⟩) hS ?_; rotate_left; focus (intro W hW; go_simp; try with_reducible rfl))
  go_simp
  refine wpAnyH_ready (rs := [9]) (by kernel_rfl) (by simp) ?_
  refine AllReadyH.cons rfl (fun K hK => ?_) AllReadyH.nil
  go_simp
  go_wp2_with (go_at_call 9; refine (NM.out _).mono ?_; rintro e wA ⟨rfl, bA⟩)
  refine hK.out _ _ (keepS hS bA) (fun hS => ?_)
  clear hK K
  rename_i hS0
  clear hS0 bA
  go_simp
  (refine wpAnyH_take (i := 10) (v := ?_) rfl (by kernel_rfl) (by kernel_rfl) (by kernel_rfl) (fun _ _ _ h => h) (Or.inl ⟨by rfl, ?_⟩) hS ?_; rotate_left; focus (intro W hW; go_simp; try with_reducible rfl))
  go_simp
  (refine wpAnyH_take (i := 11) (v := ?_) rfl (by kernel_rfl) (by kernel_rfl) (by kernel_rfl) (fun _ _ _ h => h) (Or.inl ⟨by rfl, ?_⟩) hS ?_; rotate_left; focus (intro W hW; go_simp; try with_reducible rfl))
  go_simp
  (refine wpAnyH_take (i := 12) (v := ?_) rfl (by kernel_rfl) (by kernel_rfl) (by kernel_rfl) (fun _ _ _ h => h) (Or.inl ⟨by rfl, ?_⟩) hS ?_; rotate_left; focus (intro W hW; go_simp; try with_reducible rfl))
  go_simp
  (refine wpAnyH_take (i := 13) (v := ?_) rfl (by kernel_rfl) (by kernel_rfl) (by kernel_rfl) (fun _ _ _ h => h) (Or.inl ⟨by rfl, ?_⟩) hS ?_; rotate_left; focus (intro W hW; go_simp; try with_reducible rfl))
  go_simp
  (refine wpAnyH_take (i := 14) (v := ?_) rfl (by kernel_rfl) (by kernel_rfl) (by kernel_rfl) (fun _ _ _ h => h) (Or.inl ⟨by rfl, ?_⟩) hS ?_; rotate_left; focus (intro W hW; go_simp; try with_reducible rfl))
  go_simp
  (refine wpAnyH_take (i := 15) (v := ?_) rfl (by kernel_rfl) (by kernel_rfl) (by kernel_rfl) (fun _ _ _ h => h) (Or.inl ⟨by rfl, ?_⟩) hS ?_; rotate_left; focus (intro W hW; go_simp; try with_reducible rfl))
  go_simp
  (refine wpAnyH_take (i := 16) (v := ?_) rfl (by kernel_rfl) (by kernel_rfl) (by kernel_rfl) (fun _ _ _ h => h) (Or.inl ⟨by rfl, ?_⟩) hS ?_; rotate_left; focus (intro W hW; go_simp; try with_reducible rfl))
  go_simp
  (refine wpAnyH_take (i := 17) (v := undef) rfl (by kernel_rfl) (by kernel_rfl) (by kernel_rfl) (fun _ _ _ h => h) (Or.inr ⟨by rfl, rfl⟩) hS ?_)
  go_simp
  (refine wpAnyH_take (i := 18) (v := undef) rfl (by kernel_rfl) (by kernel_rfl) (by kernel_rfl) (fun _ _ _ h => h) (Or.inr ⟨by rfl, rfl⟩) hS ?_)
  go_simp
  (refine wpAnyH_take (i := 19) (v := ?_) rfl (by kernel_rfl) (by kernel_rfl) (by kernel_rfl) (fun _ _ _ h => h) (Or.inl ⟨by rfl, ?_⟩) hS ?_; rotate_left; focus (intro W hW; go_simp; try with_reducible rfl))
  go_simp
  (refine wpAnyH_take (i := 20) (v := ?_) rfl (by kernel_rfl) (by kernel_rfl) (by kernel_rfl) (fun _ _ _ h => h) (Or.inl ⟨by rfl, ?_⟩) hS ?_; rotate_left; focus (intro W hW; go_simp; try with_reducible rfl))
  go_simp
  refine wpAnyH_done (by kernel_rfl) ?_ _
  go_wp2_with fail
  refine (OT.out _ hS.2.2.2.2.1).mono ?_
  rintro e w3 ⟨rfl, b3⟩
  have t3 := Lib.hid (hS.2.2.2.2.1.keep b3)
  have B3 := Lib.hid (ext_trans (ext_trans B1.out hS.2.2.2.2.2) b3)
  clear hS b3 B1 t1 d0 d1 d2 d3
  go_wp2_with fail
  refine (AW.out _ (t3.out.keep (ext_alloc _ _))).mono ?_
  rintro e w5 ⟨rfl, b5⟩
  go_wp2_with fail
  go_ret
  exact ⟨rfl, ext_trans (ext_trans B3.out (ext_alloc _ _)) b5⟩
set_option maxHeartbeats 4000000 in
set_option maxRecDepth 100000 in
theorem walk_ox (K : Int) (G N D t : ByteArray) (w : World) (ht : Tabs w) (hG : G.size ≤ 1048576) (hN : N.size ≤ 1048576) (hD : D.size ≤ 1048576) (hs : t.size ≤ 1048576) (k : Nat) (hkk : K = k) (tt : ByteArray) (hp : putB K G N D = (tt, 0)) (ho : ofB tt = ⟨k, G, N, D⟩) (hn : nameB tt = true) (x : Sp) (hx : ofB t = x) (hx0 : x.K ≠ 0) (hxp : putB x.K x.G x.N x.D = (t, 0)) : Calls Tryd.prog 3 #[.agg #[.int .i64 (K : Int), .string G, .string N, .string D], .string t] w (Yes w) := by
  subst hkk
  have PU := fun w h => put_all (k : Int) G N D w h hG hN hD
  rw [hp] at PU
  have OT := fun w h => of_any t w h hs
  rw [hx] at OT
  have AW := Lib.hid fun w h => awake_any w h
  have OF := fun w h => of_any tt w h (size_of_ok hn)
  rw [ho] at OF
  have NM := fun w => nam_any tt w (size_of_ok hn)
  rw [hn] at NM
  replace OF := Lib.hid OF
  replace NM := Lib.hid NM
  have hsz : x.G.size ≤ 1048576 ∧ x.N.size ≤ 1048576 ∧ x.D.size ≤ 1048576 := by rw [← hx]; exact of_size t hs
  have PX := fun w h => put_all x.K x.G x.N x.D w h hsz.1 hsz.2.1 hsz.2.2
  rw [hxp] at PX
  replace PX := Lib.hid PX
  have hx1 : ((x.K : Int) == 0) = false := by rw [beq_eq_false_iff_ne]; omega
  obtain ⟨xk, xg, xn, xd⟩ := x
  simp only at *
  replace hxp := Lib.hid hxp
  replace hx0 := Lib.hid hx0
  replace PU := Lib.hid PU
  replace OT := Lib.hid OT
  replace hp := Lib.hid hp
  replace hx := Lib.hid hx
  replace ho := Lib.hid ho
  replace hn := Lib.hid hn
  have b0 := ext_alloc w (.cells #[.int .i64 (k : Int), .string G, .string N, .string D] 23)
  have t0 := Lib.hid (ht.keep b0)
  have s0 : SpotAt (w.alloc (.cells #[.int .i64 (k : Int), .string G, .string N, .string D] 23)) w.heap.size (k : Int) G N D := ⟨by rw [World.cell?_alloc_at _ _ _ _ rfl]; rfl, by rw [World.cell?_alloc_at _ _ _ _ rfl]; rfl, by rw [World.cell?_alloc_at _ _ _ _ rfl]; rfl, by rw [World.cell?_alloc_at _ _ _ _ rfl]; rfl⟩
  replace s0 := Lib.hid s0
  replace b0 := Lib.hid b0
  clear ht hG hN hD hs hsz
  go_enter Tryd.func3, Tryd.ntmps3
  go_wp2_with fail
  refine (PU.out _ t0.out).mono ?_
  rintro e w1 ⟨rfl, b1⟩
  obtain ⟨d0, d1, d2, d3⟩ := s0.out.keep b1 (by simp)
  have t1 := t0.out.keep b1
  have B1 := Lib.hid (ext_trans b0.out b1)
  clear b1 s0 b0 t0
  go_wp2_with fail
  refine wp_region_held_drew (S := fun W => W.cell? ⟨w.heap.size, 0, none⟩ = some (.int .i64 (k : Int)) ∧ W.cell? ⟨w.heap.size, 1, none⟩ = some (.string G) ∧ W.cell? ⟨w.heap.size, 2, none⟩ = some (.string N) ∧ W.cell? ⟨w.heap.size, 3, none⟩ = some (.string D) ∧ Tabs W ∧ Below w1.heap.size w1 W) (by kernel_rfl) ⟨d0, d1, d2, d3, t1, ext_drew _⟩ (fun hS => ?_)
  (refine wpAnyH_take (i := 0) (v := ?_) rfl (by kernel_rfl) (by kernel_rfl) (by kernel_rfl) (fun _ _ _ h => h) (Or.inl ⟨by rfl, ?_⟩) hS ?_; rotate_left; focus (intro W hW; go_simp; try with_reducible rfl))
  go_simp
  (refine wpAnyH_take (i := 1) (v := ?_) rfl (by kernel_rfl) (by kernel_rfl) (by kernel_rfl) (fun _ _ _ h => h) (Or.inl ⟨by rfl, ?_⟩) hS ?_; rotate_left; focus (intro W hW; go_simp; try with_reducible rfl))
  go_simp
  (refine wpAnyH_take (i := 2) (v := ?_) rfl (by kernel_rfl) (by kernel_rfl) (by kernel_rfl) (fun _ _ _ h => h) (Or.inl ⟨by rfl, ?_⟩) hS ?_; rotate_left; focus (intro W hW; go_simp; try with_reducible rfl))
  go_simp
  (refine wpAnyH_take (i := 3) (v := ?_) rfl (by kernel_rfl) (by kernel_rfl) (by kernel_rfl) (fun _ _ _ h => h) (Or.inl ⟨by rfl, ?_⟩) hS ?_; rotate_left; focus (intro W hW; go_simp; try with_reducible rfl))
  go_simp
  (refine wpAnyH_take (i := 5) (v := ?_) rfl (by kernel_rfl) (by kernel_rfl) (by kernel_rfl) (fun _ _ _ h => h) (Or.inl ⟨by rfl, ?_⟩) hS ?_; rotate_left; focus (intro W hW; obtain ⟨hW0, hW1, hW2, hW3, hW4, hW5⟩ := hW; go_simp; try with_reducible rfl))
  go_simp
  refine wpAnyH_ready (rs := [4]) (by kernel_rfl) (by simp) ?_
  refine AllReadyH.cons rfl (fun K hK => ?_) AllReadyH.nil
  go_simp
  go_wp2_with (go_at_call 8; refine (OF.out _ hS.2.2.2.2.1).mono ?_; rintro e wA ⟨rfl, bA⟩)
  refine hK.out _ _ (keepS hS bA) (fun hS => ?_)
  clear hK K
  rename_i hS0
  clear hS0 bA
  go_simp
  (refine wpAnyH_take (i := 6) (v := ?_) rfl (by kernel_rfl) (by kernel_rfl) (by kernel_rfl) (fun _ _ _ h => h) (Or.inl ⟨by rfl, ?_⟩) hS ?_; rotate_left; focus (intro W hW; go_simp; try with_reducible rfl))
  go_simp
  (refine wpAnyH_take (i := 7) (v := ?_) rfl (by kernel_rfl) (by kernel_rfl) (by kernel_rfl) (fun _ _ _ h => h) (Or.inl ⟨by rfl, ?_⟩) hS ?_; rotate_left; focus (intro W hW; go_simp; try with_reducible rfl))
  go_simp
  (refine wpAnyH_take (i := 8) (v := ?_) rfl (by kernel_rfl) (by kernel_rfl) (by kernel_rfl) (fun _ _ _ h => h) (Or.inl ⟨by rfl, ?_⟩) hS ?_; rotate_left; focus (intro W hW; go_simp; try with_reducible rfl))
  go_simp
  refine wpAnyH_ready (rs := [9]) (by kernel_rfl) (by simp) ?_
  refine AllReadyH.cons rfl (fun K hK => ?_) AllReadyH.nil
  go_simp
  go_wp2_with (go_at_call 9; refine (NM.out _).mono ?_; rintro e wA ⟨rfl, bA⟩)
  refine hK.out _ _ (keepS hS bA) (fun hS => ?_)
  clear hK K
  rename_i hS0
  clear hS0 bA
  go_simp
  (refine wpAnyH_take (i := 10) (v := ?_) rfl (by kernel_rfl) (by kernel_rfl) (by kernel_rfl) (fun _ _ _ h => h) (Or.inl ⟨by rfl, ?_⟩) hS ?_; rotate_left; focus (intro W hW; go_simp; try with_reducible rfl))
  go_simp
  (refine wpAnyH_take (i := 11) (v := ?_) rfl (by kernel_rfl) (by kernel_rfl) (by kernel_rfl) (fun _ _ _ h => h) (Or.inl ⟨by rfl, ?_⟩) hS ?_; rotate_left; focus (intro W hW; go_simp; try with_reducible rfl))
  go_simp
  (refine wpAnyH_take (i := 12) (v := ?_) rfl (by kernel_rfl) (by kernel_rfl) (by kernel_rfl) (fun _ _ _ h => h) (Or.inl ⟨by rfl, ?_⟩) hS ?_; rotate_left; focus (intro W hW; go_simp; try with_reducible rfl))
  go_simp
  (refine wpAnyH_take (i := 13) (v := ?_) rfl (by kernel_rfl) (by kernel_rfl) (by kernel_rfl) (fun _ _ _ h => h) (Or.inl ⟨by rfl, ?_⟩) hS ?_; rotate_left; focus (intro W hW; go_simp; try with_reducible rfl))
  go_simp
  (refine wpAnyH_take (i := 14) (v := ?_) rfl (by kernel_rfl) (by kernel_rfl) (by kernel_rfl) (fun _ _ _ h => h) (Or.inl ⟨by rfl, ?_⟩) hS ?_; rotate_left; focus (intro W hW; go_simp; try with_reducible rfl))
  go_simp
  (refine wpAnyH_take (i := 15) (v := ?_) rfl (by kernel_rfl) (by kernel_rfl) (by kernel_rfl) (fun _ _ _ h => h) (Or.inl ⟨by rfl, ?_⟩) hS ?_; rotate_left; focus (intro W hW; go_simp; try with_reducible rfl))
  go_simp
  (refine wpAnyH_take (i := 16) (v := ?_) rfl (by kernel_rfl) (by kernel_rfl) (by kernel_rfl) (fun _ _ _ h => h) (Or.inl ⟨by rfl, ?_⟩) hS ?_; rotate_left; focus (intro W hW; go_simp; try with_reducible rfl))
  go_simp
  (refine wpAnyH_take (i := 17) (v := undef) rfl (by kernel_rfl) (by kernel_rfl) (by kernel_rfl) (fun _ _ _ h => h) (Or.inr ⟨by rfl, rfl⟩) hS ?_)
  go_simp
  (refine wpAnyH_take (i := 18) (v := undef) rfl (by kernel_rfl) (by kernel_rfl) (by kernel_rfl) (fun _ _ _ h => h) (Or.inr ⟨by rfl, rfl⟩) hS ?_)
  go_simp
  (refine wpAnyH_take (i := 19) (v := ?_) rfl (by kernel_rfl) (by kernel_rfl) (by kernel_rfl) (fun _ _ _ h => h) (Or.inl ⟨by rfl, ?_⟩) hS ?_; rotate_left; focus (intro W hW; go_simp; try with_reducible rfl))
  go_simp
  (refine wpAnyH_take (i := 20) (v := ?_) rfl (by kernel_rfl) (by kernel_rfl) (by kernel_rfl) (fun _ _ _ h => h) (Or.inl ⟨by rfl, ?_⟩) hS ?_; rotate_left; focus (intro W hW; go_simp; try with_reducible rfl))
  go_simp
  refine wpAnyH_done (by kernel_rfl) ?_ _
  go_wp2_with fail
  refine (OT.out _ hS.2.2.2.2.1).mono ?_
  rintro e w3 ⟨rfl, b3⟩
  have t3 := Lib.hid (hS.2.2.2.2.1.keep b3)
  have B3 := Lib.hid (ext_trans (ext_trans B1.out hS.2.2.2.2.2) b3)
  clear hS b3 B1 t1 d0 d1 d2 d3
  go_wp2_with fail
  refine (PX.out _ (t3.out.keep (ext_alloc _ _))).mono ?_
  rintro e w4 ⟨rfl, b4⟩
  have t4 := Lib.hid ((t3.out.keep (ext_alloc _ _)).keep b4)
  have B4 := Lib.hid (ext_trans (ext_trans B3.out (ext_alloc _ _)) b4)
  clear b4
  go_wp2_with fail
  refine (AW.out _ t4.out).mono ?_
  rintro e w5 ⟨rfl, b5⟩
  go_wp2_with fail
  go_ret
  exact ⟨rfl, ext_trans B4.out b5⟩
set_option maxHeartbeats 4000000 in
set_option maxRecDepth 100000 in
theorem walk_ez (K : Int) (G N D t : ByteArray) (w : World) (ht : Tabs w) (hG : G.size ≤ 1048576) (hN : N.size ≤ 1048576) (hD : D.size ≤ 1048576) (hs : t.size ≤ 1048576) (er : Int) (he : er ≠ 0) (hp : putB K G N D = (⟨#[]⟩, er)) (hx : ofB t = Sp.zero) : Calls Tryd.prog 3 #[.agg #[.int .i64 (K : Int), .string G, .string N, .string D], .string t] w (Yes w) := by
  have PU := fun w h => put_all K G N D w h hG hN hD
  rw [hp] at PU
  have OT := fun w h => of_any t w h hs
  rw [hx] at OT
  have AW := Lib.hid fun w h => awake_any w h
  change ∀ w, Tabs w → Calls Tryd.prog 8 #[.string t] w (OfIs ⟨0, ⟨#[]⟩, ⟨#[]⟩, ⟨#[]⟩⟩ w) at OT
  have he0 : (er == 0) = false := by rw [beq_eq_false_iff_ne]; exact he
  have he1 : (er != 0) = true := by unfold bne; rw [he0]; rfl
  replace he := Lib.hid he
  replace PU := Lib.hid PU
  replace OT := Lib.hid OT
  replace hp := Lib.hid hp
  replace hx := Lib.hid hx
  have b0 := ext_alloc w (.cells #[.int .i64 K, .string G, .string N, .string D] 23)
  have t0 := Lib.hid (ht.keep b0)
  have s0 : SpotAt (w.alloc (.cells #[.int .i64 K, .string G, .string N, .string D] 23)) w.heap.size K G N D := ⟨by rw [World.cell?_alloc_at _ _ _ _ rfl]; rfl, by rw [World.cell?_alloc_at _ _ _ _ rfl]; rfl, by rw [World.cell?_alloc_at _ _ _ _ rfl]; rfl, by rw [World.cell?_alloc_at _ _ _ _ rfl]; rfl⟩
  replace s0 := Lib.hid s0
  replace b0 := Lib.hid b0
  clear ht hG hN hD hs
  go_enter Tryd.func3, Tryd.ntmps3
  go_wp2_with fail
  refine (PU.out _ t0.out).mono ?_
  rintro e w1 ⟨rfl, b1⟩
  obtain ⟨d0, d1, d2, d3⟩ := s0.out.keep b1 (by simp)
  have t1 := t0.out.keep b1
  have B1 := Lib.hid (ext_trans b0.out b1)
  clear b1 s0 b0 t0
  go_wp2_with fail
  refine wp_region_held_drew (S := fun W => W.cell? ⟨w.heap.size, 0, none⟩ = some (.int .i64 K) ∧ W.cell? ⟨w.heap.size, 1, none⟩ = some (.string G) ∧ W.cell? ⟨w.heap.size, 2, none⟩ = some (.string N) ∧ W.cell? ⟨w.heap.size, 3, none⟩ = some (.string D) ∧ Tabs W ∧ Below w1.heap.size w1 W) (by kernel_rfl) ⟨d0, d1, d2, d3, t1, ext_drew _⟩ (fun hS => ?_)
  (refine wpAnyH_take (i := 0) (v := ?_) rfl (by kernel_rfl) (by kernel_rfl) (by kernel_rfl) (fun _ _ _ h => h) (Or.inl ⟨by rfl, ?_⟩) hS ?_; rotate_left; focus (intro W hW; go_simp; try with_reducible rfl))
  go_simp
  (refine wpAnyH_take (i := 1) (v := ?_) rfl (by kernel_rfl) (by kernel_rfl) (by kernel_rfl) (fun _ _ _ h => h) (Or.inl ⟨by rfl, ?_⟩) hS ?_; rotate_left; focus (intro W hW; go_simp; try with_reducible rfl))
  go_simp
  (refine wpAnyH_take (i := 2) (v := ?_) rfl (by kernel_rfl) (by kernel_rfl) (by kernel_rfl) (fun _ _ _ h => h) (Or.inl ⟨by rfl, ?_⟩) hS ?_; rotate_left; focus (intro W hW; go_simp; try with_reducible rfl))
  go_simp
  (refine wpAnyH_take (i := 3) (v := undef) rfl (by kernel_rfl) (by kernel_rfl) (by kernel_rfl) (fun _ _ _ h => h) (Or.inr ⟨by rfl, rfl⟩) hS ?_)
  go_simp
  (refine wpAnyH_take (i := 4) (v := undef) rfl (by kernel_rfl) (by kernel_rfl) (by kernel_rfl) (fun _ _ _ h => h) (Or.inr ⟨by rfl, rfl⟩) hS ?_)
  go_simp
  (refine wpAnyH_take (i := 5) (v := undef) rfl (by kernel_rfl) (by kernel_rfl) (by kernel_rfl) (fun _ _ _ h => h) (Or.inr ⟨by rfl, rfl⟩) hS ?_)
  go_simp
  (refine wpAnyH_take (i := 6) (v := undef) rfl (by kernel_rfl) (by kernel_rfl) (by kernel_rfl) (fun _ _ _ h => h) (Or.inr ⟨by rfl, rfl⟩) hS ?_)
  go_simp
  (refine wpAnyH_take (i := 7) (v := undef) rfl (by kernel_rfl) (by kernel_rfl) (by kernel_rfl) (fun _ _ _ h => h) (Or.inr ⟨by rfl, rfl⟩) hS ?_)
  go_simp
  (refine wpAnyH_take (i := 8) (v := undef) rfl (by kernel_rfl) (by kernel_rfl) (by kernel_rfl) (fun _ _ _ h => h) (Or.inr ⟨by rfl, rfl⟩) hS ?_)
  go_simp
  (refine wpAnyH_take (i := 9) (v := undef) rfl (by kernel_rfl) (by kernel_rfl) (by kernel_rfl) (fun _ _ _ h => h) (Or.inr ⟨by rfl, rfl⟩) hS ?_)
  go_simp
  (refine wpAnyH_take (i := 10) (v := undef) rfl (by kernel_rfl) (by kernel_rfl) (by kernel_rfl) (fun _ _ _ h => h) (Or.inr ⟨by rfl, rfl⟩) hS ?_)
  go_simp
  (refine wpAnyH_take (i := 11) (v := undef) rfl (by kernel_rfl) (by kernel_rfl) (by kernel_rfl) (fun _ _ _ h => h) (Or.inr ⟨by rfl, rfl⟩) hS ?_)
  go_simp
  (refine wpAnyH_take (i := 12) (v := ?_) rfl (by kernel_rfl) (by kernel_rfl) (by kernel_rfl) (fun _ _ _ h => h) (Or.inl ⟨by rfl, ?_⟩) hS ?_; rotate_left; focus (intro W hW; go_simp; try with_reducible rfl))
  go_simp
  (refine wpAnyH_take (i := 13) (v := ?_) rfl (by kernel_rfl) (by kernel_rfl) (by kernel_rfl) (fun _ _ _ h => h) (Or.inl ⟨by rfl, ?_⟩) hS ?_; rotate_left; focus (intro W hW; go_simp; try with_reducible rfl))
  go_simp
  (refine wpAnyH_take (i := 14) (v := ?_) rfl (by kernel_rfl) (by kernel_rfl) (by kernel_rfl) (fun _ _ _ h => h) (Or.inl ⟨by rfl, ?_⟩) hS ?_; rotate_left; focus (intro W hW; go_simp; try with_reducible rfl))
  go_simp
  (refine wpAnyH_take (i := 15) (v := ?_) rfl (by kernel_rfl) (by kernel_rfl) (by kernel_rfl) (fun _ _ _ h => h) (Or.inl ⟨by rfl, ?_⟩) hS ?_; rotate_left; focus (intro W hW; go_simp; try with_reducible rfl))
  go_simp
  (refine wpAnyH_take (i := 16) (v := ?_) rfl (by kernel_rfl) (by kernel_rfl) (by kernel_rfl) (fun _ _ _ h => h) (Or.inl ⟨by rfl, ?_⟩) hS ?_; rotate_left; focus (intro W hW; go_simp; try with_reducible rfl))
  go_simp
  (refine wpAnyH_take (i := 17) (v := ?_) rfl (by kernel_rfl) (by kernel_rfl) (by kernel_rfl) (fun _ _ _ h => h) (Or.inl ⟨by rfl, ?_⟩) hS ?_; rotate_left; focus (intro W hW; go_simp; try with_reducible rfl))
  go_simp
  (refine wpAnyH_take (i := 18) (v := ?_) rfl (by kernel_rfl) (by kernel_rfl) (by kernel_rfl) (fun _ _ _ h => h) (Or.inl ⟨by rfl, ?_⟩) hS ?_; rotate_left; focus (intro W hW; go_simp; try with_reducible rfl))
  go_simp
  (refine wpAnyH_take (i := 19) (v := ?_) rfl (by kernel_rfl) (by kernel_rfl) (by kernel_rfl) (fun _ _ _ h => h) (Or.inl ⟨by rfl, ?_⟩) hS ?_; rotate_left; focus (intro W hW; go_simp; try with_reducible rfl))
  go_simp
  (refine wpAnyH_take (i := 20) (v := ?_) rfl (by kernel_rfl) (by kernel_rfl) (by kernel_rfl) (fun _ _ _ h => h) (Or.inl ⟨by rfl, ?_⟩) hS ?_; rotate_left; focus (intro W hW; go_simp; try with_reducible rfl))
  go_simp
  refine wpAnyH_done (by kernel_rfl) ?_ _
  go_wp2_with fail
  refine (OT.out _ hS.2.2.2.2.1).mono ?_
  rintro e w3 ⟨rfl, b3⟩
  have t3 := Lib.hid (hS.2.2.2.2.1.keep b3)
  have B3 := Lib.hid (ext_trans (ext_trans B1.out hS.2.2.2.2.2) b3)
  clear hS b3 B1 t1 d0 d1 d2 d3
  go_wp2_with fail
  refine (AW.out _ (t3.out.keep (ext_alloc _ _))).mono ?_
  rintro e w5 ⟨rfl, b5⟩
  go_wp2_with fail
  go_ret
  exact ⟨rfl, ext_trans (ext_trans B3.out (ext_alloc _ _)) b5⟩
set_option maxHeartbeats 4000000 in
set_option maxRecDepth 100000 in
theorem walk_ex (K : Int) (G N D t : ByteArray) (w : World) (ht : Tabs w) (hG : G.size ≤ 1048576) (hN : N.size ≤ 1048576) (hD : D.size ≤ 1048576) (hs : t.size ≤ 1048576) (er : Int) (he : er ≠ 0) (hp : putB K G N D = (⟨#[]⟩, er)) (x : Sp) (hx : ofB t = x) (hx0 : x.K ≠ 0) (hxp : putB x.K x.G x.N x.D = (t, 0)) : Calls Tryd.prog 3 #[.agg #[.int .i64 (K : Int), .string G, .string N, .string D], .string t] w (Yes w) := by
  have PU := fun w h => put_all K G N D w h hG hN hD
  rw [hp] at PU
  have OT := fun w h => of_any t w h hs
  rw [hx] at OT
  have AW := Lib.hid fun w h => awake_any w h
  have he0 : (er == 0) = false := by rw [beq_eq_false_iff_ne]; exact he
  have he1 : (er != 0) = true := by unfold bne; rw [he0]; rfl
  replace he := Lib.hid he
  have hsz : x.G.size ≤ 1048576 ∧ x.N.size ≤ 1048576 ∧ x.D.size ≤ 1048576 := by rw [← hx]; exact of_size t hs
  have PX := fun w h => put_all x.K x.G x.N x.D w h hsz.1 hsz.2.1 hsz.2.2
  rw [hxp] at PX
  replace PX := Lib.hid PX
  have hx1 : ((x.K : Int) == 0) = false := by rw [beq_eq_false_iff_ne]; omega
  obtain ⟨xk, xg, xn, xd⟩ := x
  simp only at *
  replace hxp := Lib.hid hxp
  replace hx0 := Lib.hid hx0
  replace PU := Lib.hid PU
  replace OT := Lib.hid OT
  replace hp := Lib.hid hp
  replace hx := Lib.hid hx
  have b0 := ext_alloc w (.cells #[.int .i64 K, .string G, .string N, .string D] 23)
  have t0 := Lib.hid (ht.keep b0)
  have s0 : SpotAt (w.alloc (.cells #[.int .i64 K, .string G, .string N, .string D] 23)) w.heap.size K G N D := ⟨by rw [World.cell?_alloc_at _ _ _ _ rfl]; rfl, by rw [World.cell?_alloc_at _ _ _ _ rfl]; rfl, by rw [World.cell?_alloc_at _ _ _ _ rfl]; rfl, by rw [World.cell?_alloc_at _ _ _ _ rfl]; rfl⟩
  replace s0 := Lib.hid s0
  replace b0 := Lib.hid b0
  clear ht hG hN hD hs hsz
  go_enter Tryd.func3, Tryd.ntmps3
  go_wp2_with fail
  refine (PU.out _ t0.out).mono ?_
  rintro e w1 ⟨rfl, b1⟩
  obtain ⟨d0, d1, d2, d3⟩ := s0.out.keep b1 (by simp)
  have t1 := t0.out.keep b1
  have B1 := Lib.hid (ext_trans b0.out b1)
  clear b1 s0 b0 t0
  go_wp2_with fail
  refine wp_region_held_drew (S := fun W => W.cell? ⟨w.heap.size, 0, none⟩ = some (.int .i64 K) ∧ W.cell? ⟨w.heap.size, 1, none⟩ = some (.string G) ∧ W.cell? ⟨w.heap.size, 2, none⟩ = some (.string N) ∧ W.cell? ⟨w.heap.size, 3, none⟩ = some (.string D) ∧ Tabs W ∧ Below w1.heap.size w1 W) (by kernel_rfl) ⟨d0, d1, d2, d3, t1, ext_drew _⟩ (fun hS => ?_)
  (refine wpAnyH_take (i := 0) (v := ?_) rfl (by kernel_rfl) (by kernel_rfl) (by kernel_rfl) (fun _ _ _ h => h) (Or.inl ⟨by rfl, ?_⟩) hS ?_; rotate_left; focus (intro W hW; go_simp; try with_reducible rfl))
  go_simp
  (refine wpAnyH_take (i := 1) (v := ?_) rfl (by kernel_rfl) (by kernel_rfl) (by kernel_rfl) (fun _ _ _ h => h) (Or.inl ⟨by rfl, ?_⟩) hS ?_; rotate_left; focus (intro W hW; go_simp; try with_reducible rfl))
  go_simp
  (refine wpAnyH_take (i := 2) (v := ?_) rfl (by kernel_rfl) (by kernel_rfl) (by kernel_rfl) (fun _ _ _ h => h) (Or.inl ⟨by rfl, ?_⟩) hS ?_; rotate_left; focus (intro W hW; go_simp; try with_reducible rfl))
  go_simp
  (refine wpAnyH_take (i := 3) (v := undef) rfl (by kernel_rfl) (by kernel_rfl) (by kernel_rfl) (fun _ _ _ h => h) (Or.inr ⟨by rfl, rfl⟩) hS ?_)
  go_simp
  (refine wpAnyH_take (i := 4) (v := undef) rfl (by kernel_rfl) (by kernel_rfl) (by kernel_rfl) (fun _ _ _ h => h) (Or.inr ⟨by rfl, rfl⟩) hS ?_)
  go_simp
  (refine wpAnyH_take (i := 5) (v := undef) rfl (by kernel_rfl) (by kernel_rfl) (by kernel_rfl) (fun _ _ _ h => h) (Or.inr ⟨by rfl, rfl⟩) hS ?_)
  go_simp
  (refine wpAnyH_take (i := 6) (v := undef) rfl (by kernel_rfl) (by kernel_rfl) (by kernel_rfl) (fun _ _ _ h => h) (Or.inr ⟨by rfl, rfl⟩) hS ?_)
  go_simp
  (refine wpAnyH_take (i := 7) (v := undef) rfl (by kernel_rfl) (by kernel_rfl) (by kernel_rfl) (fun _ _ _ h => h) (Or.inr ⟨by rfl, rfl⟩) hS ?_)
  go_simp
  (refine wpAnyH_take (i := 8) (v := undef) rfl (by kernel_rfl) (by kernel_rfl) (by kernel_rfl) (fun _ _ _ h => h) (Or.inr ⟨by rfl, rfl⟩) hS ?_)
  go_simp
  (refine wpAnyH_take (i := 9) (v := undef) rfl (by kernel_rfl) (by kernel_rfl) (by kernel_rfl) (fun _ _ _ h => h) (Or.inr ⟨by rfl, rfl⟩) hS ?_)
  go_simp
  (refine wpAnyH_take (i := 10) (v := undef) rfl (by kernel_rfl) (by kernel_rfl) (by kernel_rfl) (fun _ _ _ h => h) (Or.inr ⟨by rfl, rfl⟩) hS ?_)
  go_simp
  (refine wpAnyH_take (i := 11) (v := undef) rfl (by kernel_rfl) (by kernel_rfl) (by kernel_rfl) (fun _ _ _ h => h) (Or.inr ⟨by rfl, rfl⟩) hS ?_)
  go_simp
  (refine wpAnyH_take (i := 12) (v := ?_) rfl (by kernel_rfl) (by kernel_rfl) (by kernel_rfl) (fun _ _ _ h => h) (Or.inl ⟨by rfl, ?_⟩) hS ?_; rotate_left; focus (intro W hW; go_simp; try with_reducible rfl))
  go_simp
  (refine wpAnyH_take (i := 13) (v := ?_) rfl (by kernel_rfl) (by kernel_rfl) (by kernel_rfl) (fun _ _ _ h => h) (Or.inl ⟨by rfl, ?_⟩) hS ?_; rotate_left; focus (intro W hW; go_simp; try with_reducible rfl))
  go_simp
  (refine wpAnyH_take (i := 14) (v := ?_) rfl (by kernel_rfl) (by kernel_rfl) (by kernel_rfl) (fun _ _ _ h => h) (Or.inl ⟨by rfl, ?_⟩) hS ?_; rotate_left; focus (intro W hW; go_simp; try with_reducible rfl))
  go_simp
  (refine wpAnyH_take (i := 15) (v := ?_) rfl (by kernel_rfl) (by kernel_rfl) (by kernel_rfl) (fun _ _ _ h => h) (Or.inl ⟨by rfl, ?_⟩) hS ?_; rotate_left; focus (intro W hW; go_simp; try with_reducible rfl))
  go_simp
  (refine wpAnyH_take (i := 16) (v := ?_) rfl (by kernel_rfl) (by kernel_rfl) (by kernel_rfl) (fun _ _ _ h => h) (Or.inl ⟨by rfl, ?_⟩) hS ?_; rotate_left; focus (intro W hW; go_simp; try with_reducible rfl))
  go_simp
  (refine wpAnyH_take (i := 17) (v := ?_) rfl (by kernel_rfl) (by kernel_rfl) (by kernel_rfl) (fun _ _ _ h => h) (Or.inl ⟨by rfl, ?_⟩) hS ?_; rotate_left; focus (intro W hW; go_simp; try with_reducible rfl))
  go_simp
  (refine wpAnyH_take (i := 18) (v := ?_) rfl (by kernel_rfl) (by kernel_rfl) (by kernel_rfl) (fun _ _ _ h => h) (Or.inl ⟨by rfl, ?_⟩) hS ?_; rotate_left; focus (intro W hW; go_simp; try with_reducible rfl))
  go_simp
  (refine wpAnyH_take (i := 19) (v := ?_) rfl (by kernel_rfl) (by kernel_rfl) (by kernel_rfl) (fun _ _ _ h => h) (Or.inl ⟨by rfl, ?_⟩) hS ?_; rotate_left; focus (intro W hW; go_simp; try with_reducible rfl))
  go_simp
  (refine wpAnyH_take (i := 20) (v := ?_) rfl (by kernel_rfl) (by kernel_rfl) (by kernel_rfl) (fun _ _ _ h => h) (Or.inl ⟨by rfl, ?_⟩) hS ?_; rotate_left; focus (intro W hW; go_simp; try with_reducible rfl))
  go_simp
  refine wpAnyH_done (by kernel_rfl) ?_ _
  go_wp2_with fail
  refine (OT.out _ hS.2.2.2.2.1).mono ?_
  rintro e w3 ⟨rfl, b3⟩
  have t3 := Lib.hid (hS.2.2.2.2.1.keep b3)
  have B3 := Lib.hid (ext_trans (ext_trans B1.out hS.2.2.2.2.2) b3)
  clear hS b3 B1 t1 d0 d1 d2 d3
  go_wp2_with fail
  refine (PX.out _ (t3.out.keep (ext_alloc _ _))).mono ?_
  rintro e w4 ⟨rfl, b4⟩
  have t4 := Lib.hid ((t3.out.keep (ext_alloc _ _)).keep b4)
  have B4 := Lib.hid (ext_trans (ext_trans B3.out (ext_alloc _ _)) b4)
  clear b4
  go_wp2_with fail
  refine (AW.out _ t4.out).mono ?_
  rintro e w5 ⟨rfl, b5⟩
  go_wp2_with fail
  go_ret
  exact ⟨rfl, ext_trans B4.out b5⟩
theorem walk (K : Int) (G N D t : ByteArray) (w : World) (ht : Tabs w) (bk : -9223372036854775808 ≤ K ∧ K ≤ 9223372036854775807) (hG : G.size ≤ 1048576) (hN : N.size ≤ 1048576) (hD : D.size ≤ 1048576) (hs : t.size ≤ 1048576) : Calls Tryd.prog 3 #[.agg #[.int .i64 K, .string G, .string N, .string D], .string t] w (Yes w) := by
  by_cases he : (putB K G N D).2 = 0
  · have hp : putB K G N D = ((putB K G N D).1, 0) := by rw [← he]
    obtain ⟨k, hkk, ho⟩ := of_put hp
    obtain ⟨-, -, -, -, -, -, -, hn, -⟩ := put_inv hp
    rcases put_of t with hx | ⟨hx0, hxp⟩
    · exact walk_oz K G N D t w ht hG hN hD hs k hkk _ hp ho hn hx
    · exact walk_ox K G N D t w ht hG hN hD hs k hkk _ hp ho hn (ofB t) rfl hx0 hxp
  · have hp : putB K G N D = (⟨#[]⟩, (putB K G N D).2) := by rw [← put_err he]
    rcases put_of t with hx | ⟨hx0, hxp⟩
    · exact walk_ez K G N D t w ht hG hN hD hs _ he hp hx
    · exact walk_ex K G N D t w ht hG hN hD hs _ he hp (ofB t) rfl hx0 hxp

theorem contract (F : Stop.Interp) (H : Type) (enc : TypeId × Value → H) (W : World) (base : Nat) (args : Array Value) (ds gs : List (DataW H)) (before : List MemPlace)
    (hval : ∀ (j : Nat) t v, Tryd.f3.params[j]? = some t → args[j]? = some v → Value.okWide Tryd.prog W .any base t v)
    (hW : DataW.Whole enc Tryd.prog Tryd.f3.params.toList Rows.spaceBackSpec.vars false W args.toList ds gs before)
    (hk : Rows.uptoSmall H (ds ++ gs) = true)
    (hsz : (DataW.weightsEach Tryd.prog (Tryd.f3.params.toList ++ (Rows.OpenSpec.upto Rows.spaceBackSpec).bare.plain.varTypes Tryd.prog) (ds ++ gs)).all (· ≤ reachBytes) = true) (hL : laidMetH Tryd.prog Rows.spaceBackUptoRow.laid W) :
    Calls Tryd.prog 3 args W fun e W' => ∃ v, e = .returned v ∧ ((Rows.OpenSpec.upto Rows.spaceBackSpec).at F).post enc Tryd.prog Tryd.f3 false true false false W args v W' := by
  have hW' := hW
  obtain ⟨p, q, hA0, hV, rfl, hfz, hnd⟩ := hW
  have hA : DataW.TrodAll enc Tryd.prog W 0 (fun _ => true) true Tryd.f3.params.toList args.toList ds p := hA0
  rw [Tryd.params3] at hA hval hsz
  obtain ⟨v0, vs0, d0, ds0, p0, q0, hargs, rfl, rfl, h0, r0⟩ := trodAll_cons hA
  obtain ⟨v1, vs1, d1, ds1, p1, q1, rfl, rfl, rfl, h1, r1⟩ := trodAll_cons r0
  obtain ⟨rfl, rfl, rfl⟩ := trodAll_nil r1
  obtain rfl : args = #[v0, v1] := by cases args; simp_all
  obtain ⟨rfl, rfl⟩ := trodVars_none hV
  have hb0 : Rows.uptoBulk d0 ≤ 1048576 := bulks.le hk (by simp)
  have hb1 : Rows.uptoBulk d1 ≤ 1048576 := bulks.le hk (by simp)
  have k0 := h0
  have lt0 : ∀ x ∈ p0, x.block < W.heap.size := by obtain ⟨m, hm⟩ := k0; exact DataW.trod_lt m _ _ _ hm
  have k1 := h1
  have lt1 : ∀ x ∈ p1, x.block < W.heap.size := by obtain ⟨m, hm⟩ := k1; exact DataW.trod_lt m _ _ _ hm
  obtain ⟨x0_0, x0_1, x0_2, x0_3, y0_0, y0_1, y0_2, y0_3, n0, rfl, rfl, rfl, t0_0, t0_1, t0_2, t0_3⟩ := Joins.open_agg4 Tryd.underlying23 (by kernel_rfl) (by kernel_rfl) (hval 0 23 _ rfl rfl) h0
  obtain ⟨a0_0, q0_0, z0_0, w0_0⟩ := DataW.trod_int Tryd.underlying3 t0_0
  obtain rfl : x0_0 = .int .i64 a0_0 := by simpa using q0_0
  have b0_0 := wf_i64 w0_0
  obtain ⟨a0_1, q0_1, z0_1, w0_1⟩ := DataW.trod_string Tryd.underlying9 t0_1
  obtain rfl : x0_1 = .string a0_1 := by simpa using q0_1
  obtain ⟨a0_2, q0_2, z0_2, w0_2⟩ := DataW.trod_string Tryd.underlying9 t0_2
  obtain rfl : x0_2 = .string a0_2 := by simpa using q0_2
  obtain ⟨a0_3, q0_3, z0_3, w0_3⟩ := DataW.trod_string Tryd.underlying9 t0_3
  obtain rfl : x0_3 = .string a0_3 := by simpa using q0_3
  have s0_1 : a0_1.size ≤ 1048576 := by
    have h1 := hb0
    simp only [z0_0, z0_1, z0_2, z0_3, Rows.uptoBulk, Rows.uptoBulkAll, Array.length_toList] at h1
    show a0_1.data.size ≤ 1048576
    omega
  have s0_2 : a0_2.size ≤ 1048576 := by
    have h1 := hb0
    simp only [z0_0, z0_1, z0_2, z0_3, Rows.uptoBulk, Rows.uptoBulkAll, Array.length_toList] at h1
    show a0_2.data.size ≤ 1048576
    omega
  have s0_3 : a0_3.size ≤ 1048576 := by
    have h1 := hb0
    simp only [z0_0, z0_1, z0_2, z0_3, Rows.uptoBulk, Rows.uptoBulkAll, Array.length_toList] at h1
    show a0_3.data.size ≤ 1048576
    omega
  obtain ⟨a1, rfl, rfl, rfl, w1⟩ := open_string Tryd.underlying9 (hval 1 9 v1 rfl rfl) h1
  have s1 : a1.size ≤ 1048576 := by
    have := bulks.string_len hb1
    simp only [Array.length_toList] at this
    exact this
  clear hA0
  refine (walk a0_0 a0_1 a0_2 a0_3 a1 W (tabs_of hL) b0_0 s0_1 s0_2 s0_3 s1).mono fun e W' ⟨he, bel⟩ => ?_
  subst he
  exact ⟨_, rfl, _, _, _, [], _, [], hW', trodAll_mk1 (shut_bool Tryd.underlying4 _), (trodAll_cons_mk (Below.trod laidOut (by kernel_rfl) (of_decide_eq_true (by kernel_rfl)) k0 bel lt0) (trodAll_cons_mk (Below.trod laidOut (by kernel_rfl) (of_decide_eq_true (by kernel_rfl)) k1 bel lt1) trodAll_mk0)), rfl, bel.frame _, fun h => by cases h⟩

/-- A world for the witness: the settled one, the tables holding what their initialisers lay. -/
noncomputable def laidWorld (os : Os) : World :=
  { World.holding Tryd.prog os ⟨#[], #[], []⟩ with heap := ((World.holding Tryd.prog os ⟨#[], #[], []⟩).heap.modify 0 (fun
      | .cells _ t frozen => .cells #[.string ⟨#[]⟩, .int .i64 0, .string ⟨#[78, 66, 73, 82, 84, 72]⟩, .int .i64 1, .string ⟨#[78, 68, 69, 65, 84, 72]⟩, .int .i64 1, .string ⟨#[78, 68, 65, 84, 65]⟩, .int .i64 1, .string ⟨#[78, 67, 77, 68]⟩, .int .i64 1, .string ⟨#[68, 66, 73, 82, 84, 72]⟩, .int .i64 3, .string ⟨#[68, 68, 69, 65, 84, 72]⟩, .int .i64 3, .string ⟨#[68, 68, 65, 84, 65]⟩, .int .i64 3, .string ⟨#[68, 67, 77, 68]⟩, .int .i64 3, .string ⟨#[83, 84, 65, 84, 69]⟩, .int .i64 0] t frozen
      | o => o)) }
theorem laid_met (os : Os) : laidMet Tryd.prog Rows.spaceBackUptoRow.laid ((laidWorld os).forCall (fun _ _ => 0) ⟨#[], #[.agg #[.int .i64 0, .string ByteArray.empty, .string ByteArray.empty, .string ByteArray.empty], .string ByteArray.empty], []⟩).memory :=
  laidMet_of_run' 8 (by kernel_rfl) (by kernel_rfl)
theorem reads (os : Os) {H : Type} (enc : TypeId × Value → H) : ∃ places, DataW.whole enc Tryd.prog ((laidWorld os).forCall (fun _ _ => 0) ⟨#[], #[.agg #[.int .i64 0, .string ByteArray.empty, .string ByteArray.empty, .string ByteArray.empty], .string ByteArray.empty], []⟩).memory Tryd.f3.params.toList Rows.spaceBackSpec.vars false #[Value.agg #[.int .i64 0, .string ByteArray.empty, .string ByteArray.empty, .string ByteArray.empty], .string ByteArray.empty].toList 8 = some ([.agg [.lit (.int .i64 0), .lit (.string []), .lit (.string []), .lit (.string [])], .lit (.string [])], [], places) :=
  ⟨[], by kernel_rfl⟩

set_option maxRecDepth 100000 in
theorem lifted (os : Os) (started : os.Started) (H : Type) (enc : TypeId × Value → H) (F : Stop.Interp) :
    ReturnsInHanded {} Tryd.checked os 3 .any ((Rows.OpenSpec.upto Rows.spaceBackSpec).preRow enc Tryd.prog Tryd.f3 Rows.spaceBackUptoRow.domain false Rows.spaceBackUptoRow.laid) (((Rows.OpenSpec.upto Rows.spaceBackSpec).at F).post enc Tryd.prog Tryd.f3 false true false false) := by
  obtain ⟨places, hx⟩ := reads os enc
  refine returnsInHanded_of_row (C := Tryd.checked) (s := (Rows.OpenSpec.upto Rows.spaceBackSpec)) own started (by kernel_rfl) Tryd.func3
    (witness_row_at (enc := enc) (C := Tryd.checked) false (laidWorld os) #[.agg #[.int .i64 0, .string ByteArray.empty, .string ByteArray.empty, .string ByteArray.empty], .string ByteArray.empty] rfl (by kernel_rfl) (by kernel_rfl) (by kernel_rfl)
      (OpenSpec.preRow_of_cond 8 hx (by kernel_rfl) (fun k hk => by cases hk; kernel_rfl) (by kernel_rfl) (laid_met os))) ?_
  intro W base args ds gs before hval hW _ hcnd hsz hL _ _
  exact contract F H enc W base args ds gs before hval hW (hcnd _ rfl) hsz hL

theorem said : Rows.SpaceBackUptoSaid :=
  OpenClaim.holds_of_cond 3 Tryd.f3 rfl rfl rfl rfl rfl rfl rfl ⟨rfl, rfl, rfl, rfl, rfl⟩ rfl rfl rfl rfl rfl (by kernel_rfl) Tryd.func3 (by kernel_rfl)
    (of_decide_eq_true (by kernel_rfl)) (by unfold Func.isWrapper; first | (rw [if_pos (by decide +kernel)]; kernel_rfl) | (rw [if_neg (by decide +kernel)]; exact ⟨rfl, rfl⟩))
    (fun os started H enc _ F => by rw [OpenClaim.pre_eq_preRow]; exact lifted os started H enc F)

theorem plain (f : FuncId) (fn : Func) (hf : Tryd.pinned.checked.prog.funcNamed "crier/crierlaw20.SpaceBack" = some f) (hfn : Tryd.pinned.checked.prog.funcs[f]? = some fn) :
    false = Tryd.pinned.checked.prog.looks [] ∧ ∀ (j : Nat) t, fn.params[j]? = some t → Tryd.pinned.checked.prog.wantsStandIn t = false := by
  obtain rfl : f = 3 := Option.some.inj ((show Tryd.prog.funcNamed "crier/crierlaw20.SpaceBack" = some 3 by kernel_rfl).symm.trans hf) |>.symm
  obtain rfl : fn = Tryd.f3 := (Option.some.inj (Tryd.func3.symm.trans hfn)).symm
  refine ⟨by kernel_rfl, fun j t ht => ?_⟩
  rw [Tryd.params3] at ht
  have : t = 9 ∨ t = 23 := by have := Array.mem_of_getElem? ht; simp at this; first | exact this | omega | grind
  rcases this with rfl | rfl
  · exact (show Tryd.prog.wantsStandIn 9 = false by kernel_rfl)
  · exact (show Tryd.prog.wantsStandIn 23 = false by kernel_rfl)

/-- THE CARD. -/
theorem proved : Rows.SpaceBackUptoCardSaid :=
  Claim7.holds_tied_plain_at .later [] _ _ _ _ said (fun _ h => by cases h) (by kernel_rfl) (fun _ h => by cases h) spaceBackUpto_row_tie rfl ⟨rfl, rfl⟩ (by kernel_rfl) rfl plain (by kernel_rfl)
end Go.Proofs.YtbmelmmefgehoaaDoor.spaceBack
