/-
  LAYER 1: Get's contract.
-/
import Derived.Test.YtoglgdkeknojkaaGm
import Derived.BigRegionIn
namespace Go.Proofs.Ytoglgdkeknojkaa
open Go.RowKit Go.Shelf

attribute [local go_sem] Oper.semAt_some

theorem finish {F : Fence} {n B D : Nat} {R : Ending → World → Prop} {X : World} {tmps : Array Value} {t1 t2 t3 : TypeId} {v1 v2 v3 : Int} (hK : X.heap[D]? = some (.deferred (some [])))
    (b1 : Boxed X (B + 1) t1 (.int .u64 v1)) (b2 : Boxed X (B + 1 + 1) t2 (.int .i64 v2)) (b3 : Boxed X (B + 1 + 1 + 1) t3 (.int .i64 v3))
    (hR : R (.returned (.tuple #[.int .u64 v1, .int .i64 v2, .int .i64 v3])) (X.putObj D (.deferred none)))
    (h4 : tmps.getD 4 undef = .pointer (some ⟨B + 1, 0, none⟩) := by rfl) (h5 : tmps.getD 5 undef = .pointer (some ⟨B + 1 + 1, 0, none⟩) := by rfl) (h6 : tmps.getD 6 undef = .pointer (some ⟨B + 1 + 1 + 1, 0, none⟩) := by rfl) :
    bodyPostM F n Try.prog Try.f63 R .ret { tmps := tmps, defers := [{ target := .collected D, args := #[] }] } X := by
  have k := fun {b : Nat} {t : TypeId} {v : Value} (hb : Boxed X b t v) => cell_kept hb.cell (grownBy_putObj' X D (.deferred none)) (fun r e => by cases e; exact ⟨_, hK, rfl⟩)
  have c1 := k b1
  have c2 := k b2
  have c3 := k b3
  refine ⟨by simp, .inl ⟨_, _, rfl, run_takeDeferred hK, ?_⟩⟩
  refine ⟨.tuple #[.int .u64 v1, .int .i64 v2, .int .i64 v3], ?_, hR⟩
  simp only [Array.getD_eq_getD_getElem?] at h4 h5 h6
  simp [results, Try.results63, go_sem, c1, c2, c3, h4, h5, h6]

set_option maxRecDepth 100000 in
set_option maxHeartbeats 4000000 in
theorem get_in (F : Fence) (n : Nat) (h12 : F.fn 63) (h33 : F.fn 67) (h41 : F.fn 70) (hro : F.round = none) (hn : 3 ≤ n) (v : Value) (l : List Nat) (k0 : Nat) (w : World) (hS : Src w v l) (h : ∀ x ∈ l, x < 256) (hl : l.length ≤ 140737488355328) (hk : k0 ≤ l.length) :
    CallsIn F n Try.prog 63 #[v, .int .i64 (k0 : Int)] w (GetPost l k0 w) := by
  have h1 : 1 ≤ n := by omega
  have HS := Lib.hid hS
  obtain ⟨a, cap, rfl, hc1, hc2, hc3, _⟩ := hS
  refine callsIn_of_wp_marks Try.func63 rfl h12 ?_ hro
  simp only [Try.ntmps63, List.size_toArray, List.length_cons, List.length_nil, Nat.reduceAdd, Nat.reduceSub, Array.replicate_succ, Array.replicate_zero, List.push_toArray, List.append_toArray, List.nil_append, List.cons_append]
  have b0 : (0 : Int) ≤ k0 := by omega
  have b1 : (k0 : Int) ≤ l.length := by omega
  have bd : decide ((k0 : Int) < 0) = false := by simp
  gi_wp2
  refine wpIn_scope_straight ?_
  gi_wp2
  refine wpIn_label ?_
  gi_wp2_with (gi_at_call 67; refine (from_in F (n - 1) h33 hro _ _ _ _ _).mono ?_; rintro e w' ⟨rfl, rfl⟩)
  rename_i _ _ K hK
  generalize hW0 : ((((((((w.alloc _).alloc _).alloc _).alloc _).alloc _).alloc _).alloc _).alloc _) = W0
  obtain ⟨⟨x0, x1, x2, x3, x4, x5, x6, x7⟩, hsz, hB0⟩ := boxes8 w _ _ _ _ _ _ _ _ _ _ _ _ _ _ _ _ W0 hW0.symm
  clear hW0
  have HK := Lib.hid hK
  clear hK
  refine wpIn_rangeFunc_ownG hro h1 (gf := 70) (lb := #[.pointer (some ⟨w.heap.size + 1 + 1 + 1 + 1 + 1 + 1, 0, none⟩), .pointer (some ⟨w.heap.size + 1 + 1 + 1 + 1 + 1 + 1 + 1, 0, none⟩)]) rfl h41 (enters_of Try.func70 (by kernel_rfl) rfl)
    (from_stops F (n - 1) h41 hro (by omega) (w.heap.size + 1 + 1 + 1 + 1 + 1 + 1) (w.heap.size + 1 + 1 + 1 + 1 + 1 + 1 + 1) w.heap.size k0 _ l h hl hk W0 w HS.out (Nat.le_refl _) hB0 (by omega) (by omega) (by omega) x6.cell x7.cell) belowK_t (belowK_b (by omega)) (Below.refl _ _) (fun _ => rfl)
    (fun pre W => GetI w k0 pre W ∧ Below w.heap.size w W)
    (fun c pre W => GetX w k0 c pre W ∧ Below w.heap.size w W)
    (OwnFrom.and (Own.from (getI_own w k0) _) (ownFrom_below (Nat.le_refl _) (by omega)))
    (fun c => OwnFrom.and (Own.from (getX_own w k0 c) _) (ownFrom_below (Nat.le_refl _) (by omega)))
    ⟨⟨by simp, x0, x1, x2, x3, x4, x5⟩, hB0⟩
    ?a1 ?assign ?body ?done ?stop
  case assign =>
    intro l x W K hK
    gi_wp2
    exact hK
  case body =>
    rintro l1 pre ⟨⟨i, c⟩, hx1, hx2⟩ W ⟨⟨hG, y0, y1, y2, y3, y4, y5⟩, hB⟩ _
    have hx1' : i ≤ 140737488355328 := hx1
    have hx2' : c < 256 := hx2
    have c0 := y0.cell
    have c4 := y4.cell
    have c5 := y5.cell
    have f1 := y1.frozen
    have f2 := y2.frozen
    have f3 := y3.frozen
    have f4 := y4.frozen
    have f5 := y5.frozen
    have c1 := y1.cell
    have c2 := y2.cell
    have c3 := y3.cell
    have k7 : IntKind.i64.wrap (7 * (i : Int)) = 7 * (i : Int) := IntWalk.i64_in _ (by omega)
    have k70 : (0 : Int) ≤ 7 * (i : Int) := by omega
    have k7n : (7 * (i : Int)).toNat = 7 * i := by omega
    have kc : IntKind.u64.wrap (c : Int) = (c : Int) := by rw [IntKind.wrap_u64]; omega
    have ks : IntKind.i64.wrap ((k0 : Int) + (i : Int)) = (k0 : Int) + (i : Int) := IntWalk.i64_in _ (by omega)
    have ks1 : IntKind.i64.wrap ((k0 : Int) + (i : Int) + 1) = (k0 : Int) + (i : Int) + 1 := IntWalk.i64_in _ (by omega)
    have Y0 := Lib.hid y0
    have Y1 := Lib.hid y1
    have Y2 := Lib.hid y2
    have Y3 := Lib.hid y3
    have Y4 := Lib.hid y4
    have Y5 := Lib.hid y5
    have HG := Lib.hid hG
    clear y0 y1 y2 y3 y4 y5 hG
    have hmx : Try.prog.follows .mixedOrders = true := by kernel_rfl
    by_cases hlow : c < 128
    · have hl1 : decide ((c : Int) < 128) = true := by simp; omega
      by_cases h9 : i = 9
      · have b9 : ((i : Int) == 9) = true := by simp; omega
        by_cases h91 : 1 < c
        · have hl2 : decide (1 < (c : Int)) = true := by simp; omega
          have E9 := Lib.hid h9
          have E1 := Lib.hid h91
          clear h9 h91
          gi_wp2
          exact ⟨(KeepsOthers.setCell _ _ _).from _, ⟨pre, ⟨(i, c), hx1, hx2⟩, rfl, HG.out, .inr ⟨rfl, E9.out, E1.out, Y1.out.other (by omega) _, Y2.out.other (by omega) _, Y3.out.other (by omega) _, Y5.out.set _⟩⟩, hB.setCell (by simp <;> omega) _⟩
        · have hl2 : decide (1 < (c : Int)) = false := by simp; omega
          have HN9 : Hid (¬ (i = 9 ∧ 1 < c)) := Lib.hid fun hh => h91 hh.2
          have E9 := Lib.hid h9
          have hv : bits .or .u64 (accF pre) (IntKind.u64.wrap ((c : Int) * 2 ^ (7 * i))) = bits .or .u64 (accF pre) (shl7 i c) := by rw [shl7, Nat.min_eq_left (by omega)]
          have HV := Lib.hid hv
          clear hv
          have E1 := Lib.hid h91
          clear h9 h91
          gi_wp2
          refine blind ?_
          refine wpIn_region_any (by kernel_rfl) ?_
          refine any_inRound hro (noDefer_spec (by kernel_rfl)) _ _ _ _ ?_
          change wpAnyIn _ _ _ _ _ _ _ _ _ (World.drew _)
          (refine wpAnyIn_take (i := 1) (v := ?_) hro rfl (by kernel_rfl) (by kernel_rfl) (by kernel_rfl) (fun _ _ _ h => h) ⟨Or.inl ⟨by rfl, ?_⟩, fun _ => rfl⟩ ?_; rotate_left; focus (intro w; go_simp; try with_reducible rfl))
          (refine wpAnyIn_take (i := 3) (v := ?_) hro rfl (by kernel_rfl) (by kernel_rfl) (by kernel_rfl) (fun _ _ _ h => h) ⟨Or.inl ⟨by rfl, ?_⟩, fun _ => rfl⟩ ?_; rotate_left; focus (intro w; go_simp; try with_reducible rfl))
          (refine wpAnyIn_take (i := 8) (v := ?_) hro rfl (by kernel_rfl) (by kernel_rfl) (by kernel_rfl) (fun _ _ _ h => h) ⟨Or.inl ⟨by rfl, ?_⟩, fun _ => rfl⟩ ?_; rotate_left; focus (intro w; go_simp; try with_reducible rfl))
          (refine wpAnyIn_take (i := 2) (v := ?_) hro rfl (by kernel_rfl) (by kernel_rfl) (by kernel_rfl) (fun _ _ _ h => h) ⟨Or.inl ⟨by rfl, ?_⟩, fun _ => rfl⟩ ?_; rotate_left; focus (intro w; go_simp; try with_reducible rfl))
          (refine wpAnyIn_take (i := 4) (v := ?_) hro rfl (by kernel_rfl) (by kernel_rfl) (by kernel_rfl) (fun _ _ _ h => h) ⟨Or.inl ⟨by rfl, ?_⟩, fun _ => rfl⟩ ?_; rotate_left; focus (intro w; go_simp; try with_reducible rfl))
          (refine wpAnyIn_take (i := 5) (v := ?_) hro rfl (by kernel_rfl) (by kernel_rfl) (by kernel_rfl) (fun _ _ _ h => h) ⟨Or.inl ⟨by rfl, ?_⟩, fun _ => rfl⟩ ?_; rotate_left; focus (intro w; go_simp; try with_reducible rfl))
          refine wpAnyIn_ready (rs := [0, 7]) (by kernel_rfl) (by simp) ?_
          refine AllReadyIn.cons rfl (fun K hK => ?_) (AllReadyIn.cons rfl (fun K hK => ?_) AllReadyIn.nil)
          · go_simp; refine hK _ _ ?_; clear hK K
            (refine wpAnyIn_take (i := 6) (v := ?_) hro rfl (by kernel_rfl) (by kernel_rfl) (by kernel_rfl) (fun _ _ _ h => h) ⟨Or.inl ⟨by rfl, ?_⟩, fun _ => rfl⟩ ?_; rotate_left; focus (intro w; go_simp; try with_reducible rfl))
            refine wpAnyIn_ready (rs := [7, 11]) (by kernel_rfl) (by simp) ?_
            refine AllReadyIn.cons rfl (fun K hK => ?_) (AllReadyIn.cons rfl (fun K hK => ?_) AllReadyIn.nil)
            · go_simp; refine hK _ _ ?_; clear hK K
              (refine wpAnyIn_take (i := 9) (v := ?_) hro rfl (by kernel_rfl) (by kernel_rfl) (by kernel_rfl) (fun _ _ _ h => h) ⟨Or.inl ⟨by rfl, ?_⟩, fun _ => rfl⟩ ?_; rotate_left; focus (intro w; go_simp; try with_reducible rfl))
              (refine wpAnyIn_take (i := 10) (v := ?_) hro rfl (by kernel_rfl) (by kernel_rfl) (by kernel_rfl) (fun _ _ _ h => h) ⟨Or.inl ⟨by rfl, ?_⟩, fun _ => rfl⟩ ?_; rotate_left; focus (intro w; go_simp; try with_reducible rfl))
              (refine wpAnyIn_ready (rs := [11]) (by kernel_rfl) (by simp) ?_; refine AllReadyIn.cons rfl (fun K hK => ?_) AllReadyIn.nil; go_simp; refine hK _ _ ?_; clear hK K)
              (refine wpAnyIn_ready (rs := [12]) (by kernel_rfl) (by simp) ?_; refine AllReadyIn.cons rfl (fun K hK => ?_) AllReadyIn.nil; go_simp; refine hK _ _ ?_; clear hK K)
              (refine wpAnyIn_ready (rs := [13]) (by kernel_rfl) (by simp) ?_; refine AllReadyIn.cons rfl (fun K hK => ?_) AllReadyIn.nil; go_simp; refine hK _ _ ?_; clear hK K)
              refine wpAnyIn_done (by kernel_rfl) ?_ _
              gi_wp2
              (rw [HV.out]; exact ⟨((((KeepsOthers.setCell _ _ _).trans (KeepsOthers.setCell _ _ _)).trans (KeepsOthers.setCell _ _ _)).trans (KeepsOthers.drew _)).from _, ⟨pre, ⟨(i, c), hx1, hx2⟩, rfl, HG.out, .inl ⟨rfl, hlow, HN9.out, ((Y1.out.set _).other (by omega) _).other (by omega) _, ((Y2.out.other (by omega) _).set _).other (by omega) _, ((Y3.out.other (by omega) _).other (by omega) _).set _⟩⟩, (((hB.setCell (by simp <;> omega) _).setCell (by simp <;> omega) _).setCell (by simp <;> omega) _).drew⟩)
            · go_simp; refine hK _ _ ?_; clear hK K
              (refine wpAnyIn_ready (rs := [7]) (by kernel_rfl) (by simp) ?_; refine AllReadyIn.cons rfl (fun K hK => ?_) AllReadyIn.nil; go_simp; refine hK _ _ ?_; clear hK K)
              (refine wpAnyIn_take (i := 9) (v := ?_) hro rfl (by kernel_rfl) (by kernel_rfl) (by kernel_rfl) (fun _ _ _ h => h) ⟨Or.inl ⟨by rfl, ?_⟩, fun _ => rfl⟩ ?_; rotate_left; focus (intro w; go_simp; try with_reducible rfl))
              (refine wpAnyIn_take (i := 10) (v := ?_) hro rfl (by kernel_rfl) (by kernel_rfl) (by kernel_rfl) (fun _ _ _ h => h) ⟨Or.inl ⟨by rfl, ?_⟩, fun _ => rfl⟩ ?_; rotate_left; focus (intro w; go_simp; try with_reducible rfl))
              (refine wpAnyIn_ready (rs := [12]) (by kernel_rfl) (by simp) ?_; refine AllReadyIn.cons rfl (fun K hK => ?_) AllReadyIn.nil; go_simp; refine hK _ _ ?_; clear hK K)
              (refine wpAnyIn_ready (rs := [13]) (by kernel_rfl) (by simp) ?_; refine AllReadyIn.cons rfl (fun K hK => ?_) AllReadyIn.nil; go_simp; refine hK _ _ ?_; clear hK K)
              refine wpAnyIn_done (by kernel_rfl) ?_ _
              gi_wp2
              (rw [HV.out]; exact ⟨((((KeepsOthers.setCell _ _ _).trans (KeepsOthers.setCell _ _ _)).trans (KeepsOthers.setCell _ _ _)).trans (KeepsOthers.drew _)).from _, ⟨pre, ⟨(i, c), hx1, hx2⟩, rfl, HG.out, .inl ⟨rfl, hlow, HN9.out, ((Y1.out.set _).other (by omega) _).other (by omega) _, ((Y2.out.other (by omega) _).set _).other (by omega) _, ((Y3.out.other (by omega) _).other (by omega) _).set _⟩⟩, (((hB.setCell (by simp <;> omega) _).setCell (by simp <;> omega) _).setCell (by simp <;> omega) _).drew⟩)
          · go_simp; refine hK _ _ ?_; clear hK K
            (refine wpAnyIn_take (i := 9) (v := ?_) hro rfl (by kernel_rfl) (by kernel_rfl) (by kernel_rfl) (fun _ _ _ h => h) ⟨Or.inl ⟨by rfl, ?_⟩, fun _ => rfl⟩ ?_; rotate_left; focus (intro w; go_simp; try with_reducible rfl))
            (refine wpAnyIn_take (i := 10) (v := ?_) hro rfl (by kernel_rfl) (by kernel_rfl) (by kernel_rfl) (fun _ _ _ h => h) ⟨Or.inl ⟨by rfl, ?_⟩, fun _ => rfl⟩ ?_; rotate_left; focus (intro w; go_simp; try with_reducible rfl))
            (refine wpAnyIn_ready (rs := [0]) (by kernel_rfl) (by simp) ?_; refine AllReadyIn.cons rfl (fun K hK => ?_) AllReadyIn.nil; go_simp; refine hK _ _ ?_; clear hK K)
            (refine wpAnyIn_take (i := 6) (v := ?_) hro rfl (by kernel_rfl) (by kernel_rfl) (by kernel_rfl) (fun _ _ _ h => h) ⟨Or.inl ⟨by rfl, ?_⟩, fun _ => rfl⟩ ?_; rotate_left; focus (intro w; go_simp; try with_reducible rfl))
            (refine wpAnyIn_ready (rs := [11]) (by kernel_rfl) (by simp) ?_; refine AllReadyIn.cons rfl (fun K hK => ?_) AllReadyIn.nil; go_simp; refine hK _ _ ?_; clear hK K)
            (refine wpAnyIn_ready (rs := [12]) (by kernel_rfl) (by simp) ?_; refine AllReadyIn.cons rfl (fun K hK => ?_) AllReadyIn.nil; go_simp; refine hK _ _ ?_; clear hK K)
            (refine wpAnyIn_ready (rs := [13]) (by kernel_rfl) (by simp) ?_; refine AllReadyIn.cons rfl (fun K hK => ?_) AllReadyIn.nil; go_simp; refine hK _ _ ?_; clear hK K)
            refine wpAnyIn_done (by kernel_rfl) ?_ _
            gi_wp2
            (rw [HV.out]; exact ⟨((((KeepsOthers.setCell _ _ _).trans (KeepsOthers.setCell _ _ _)).trans (KeepsOthers.setCell _ _ _)).trans (KeepsOthers.drew _)).from _, ⟨pre, ⟨(i, c), hx1, hx2⟩, rfl, HG.out, .inl ⟨rfl, hlow, HN9.out, ((Y1.out.set _).other (by omega) _).other (by omega) _, ((Y2.out.other (by omega) _).set _).other (by omega) _, ((Y3.out.other (by omega) _).other (by omega) _).set _⟩⟩, (((hB.setCell (by simp <;> omega) _).setCell (by simp <;> omega) _).setCell (by simp <;> omega) _).drew⟩)
      · have b9 : ((i : Int) == 9) = false := by simp; omega
        have HN9 : Hid (¬ (i = 9 ∧ 1 < c)) := Lib.hid fun hh => h9 hh.1
        have E9 := Lib.hid h9
        clear h9
        gi_wp2
        refine blind ?_
        refine wpIn_region_any (by kernel_rfl) ?_
        refine any_inRound hro (noDefer_spec (by kernel_rfl)) _ _ _ _ ?_
        change wpAnyIn _ _ _ _ _ _ _ _ _ (World.drew _)
        (refine wpAnyIn_take (i := 1) (v := ?_) hro rfl (by kernel_rfl) (by kernel_rfl) (by kernel_rfl) (fun _ _ _ h => h) ⟨Or.inl ⟨by rfl, ?_⟩, fun _ => rfl⟩ ?_; rotate_left; focus (intro w; go_simp; try with_reducible rfl))
        (refine wpAnyIn_take (i := 3) (v := ?_) hro rfl (by kernel_rfl) (by kernel_rfl) (by kernel_rfl) (fun _ _ _ h => h) ⟨Or.inl ⟨by rfl, ?_⟩, fun _ => rfl⟩ ?_; rotate_left; focus (intro w; go_simp; try with_reducible rfl))
        (refine wpAnyIn_take (i := 8) (v := ?_) hro rfl (by kernel_rfl) (by kernel_rfl) (by kernel_rfl) (fun _ _ _ h => h) ⟨Or.inl ⟨by rfl, ?_⟩, fun _ => rfl⟩ ?_; rotate_left; focus (intro w; go_simp; try with_reducible rfl))
        (refine wpAnyIn_take (i := 2) (v := ?_) hro rfl (by kernel_rfl) (by kernel_rfl) (by kernel_rfl) (fun _ _ _ h => h) ⟨Or.inl ⟨by rfl, ?_⟩, fun _ => rfl⟩ ?_; rotate_left; focus (intro w; go_simp; try with_reducible rfl))
        (refine wpAnyIn_take (i := 4) (v := ?_) hro rfl (by kernel_rfl) (by kernel_rfl) (by kernel_rfl) (fun _ _ _ h => h) ⟨Or.inl ⟨by rfl, ?_⟩, fun _ => rfl⟩ ?_; rotate_left; focus (intro w; go_simp; try with_reducible rfl))
        (refine wpAnyIn_take (i := 5) (v := ?_) hro rfl (by kernel_rfl) (by kernel_rfl) (by kernel_rfl) (fun _ _ _ h => h) ⟨Or.inl ⟨by rfl, ?_⟩, fun _ => rfl⟩ ?_; rotate_left; focus (intro w; go_simp; try with_reducible rfl))
        refine wpAnyIn_ready (rs := [0, 7]) (by kernel_rfl) (by simp) ?_
        refine AllReadyIn.cons rfl (fun K hK => ?_) (AllReadyIn.cons rfl (fun K hK => ?_) AllReadyIn.nil)
        · go_simp; refine hK _ _ ?_; clear hK K
          (refine wpAnyIn_take (i := 6) (v := ?_) hro rfl (by kernel_rfl) (by kernel_rfl) (by kernel_rfl) (fun _ _ _ h => h) ⟨Or.inl ⟨by rfl, ?_⟩, fun _ => rfl⟩ ?_; rotate_left; focus (intro w; go_simp; try with_reducible rfl))
          refine wpAnyIn_ready (rs := [7, 11]) (by kernel_rfl) (by simp) ?_
          refine AllReadyIn.cons rfl (fun K hK => ?_) (AllReadyIn.cons rfl (fun K hK => ?_) AllReadyIn.nil)
          · go_simp; refine hK _ _ ?_; clear hK K
            (refine wpAnyIn_take (i := 9) (v := ?_) hro rfl (by kernel_rfl) (by kernel_rfl) (by kernel_rfl) (fun _ _ _ h => h) ⟨Or.inl ⟨by rfl, ?_⟩, fun _ => rfl⟩ ?_; rotate_left; focus (intro w; go_simp; try with_reducible rfl))
            (refine wpAnyIn_take (i := 10) (v := ?_) hro rfl (by kernel_rfl) (by kernel_rfl) (by kernel_rfl) (fun _ _ _ h => h) ⟨Or.inl ⟨by rfl, ?_⟩, fun _ => rfl⟩ ?_; rotate_left; focus (intro w; go_simp; try with_reducible rfl))
            (refine wpAnyIn_ready (rs := [11]) (by kernel_rfl) (by simp) ?_; refine AllReadyIn.cons rfl (fun K hK => ?_) AllReadyIn.nil; go_simp; refine hK _ _ ?_; clear hK K)
            (refine wpAnyIn_ready (rs := [12]) (by kernel_rfl) (by simp) ?_; refine AllReadyIn.cons rfl (fun K hK => ?_) AllReadyIn.nil; go_simp; refine hK _ _ ?_; clear hK K)
            (refine wpAnyIn_ready (rs := [13]) (by kernel_rfl) (by simp) ?_; refine AllReadyIn.cons rfl (fun K hK => ?_) AllReadyIn.nil; go_simp; refine hK _ _ ?_; clear hK K)
            refine wpAnyIn_done (by kernel_rfl) ?_ _
            gi_wp2
            exact ⟨((((KeepsOthers.setCell _ _ _).trans (KeepsOthers.setCell _ _ _)).trans (KeepsOthers.setCell _ _ _)).trans (KeepsOthers.drew _)).from _, ⟨pre, ⟨(i, c), hx1, hx2⟩, rfl, HG.out, .inl ⟨rfl, hlow, HN9.out, ((Y1.out.set _).other (by omega) _).other (by omega) _, ((Y2.out.other (by omega) _).set _).other (by omega) _, ((Y3.out.other (by omega) _).other (by omega) _).set _⟩⟩, (((hB.setCell (by simp <;> omega) _).setCell (by simp <;> omega) _).setCell (by simp <;> omega) _).drew⟩
          · go_simp; refine hK _ _ ?_; clear hK K
            (refine wpAnyIn_ready (rs := [7]) (by kernel_rfl) (by simp) ?_; refine AllReadyIn.cons rfl (fun K hK => ?_) AllReadyIn.nil; go_simp; refine hK _ _ ?_; clear hK K)
            (refine wpAnyIn_take (i := 9) (v := ?_) hro rfl (by kernel_rfl) (by kernel_rfl) (by kernel_rfl) (fun _ _ _ h => h) ⟨Or.inl ⟨by rfl, ?_⟩, fun _ => rfl⟩ ?_; rotate_left; focus (intro w; go_simp; try with_reducible rfl))
            (refine wpAnyIn_take (i := 10) (v := ?_) hro rfl (by kernel_rfl) (by kernel_rfl) (by kernel_rfl) (fun _ _ _ h => h) ⟨Or.inl ⟨by rfl, ?_⟩, fun _ => rfl⟩ ?_; rotate_left; focus (intro w; go_simp; try with_reducible rfl))
            (refine wpAnyIn_ready (rs := [12]) (by kernel_rfl) (by simp) ?_; refine AllReadyIn.cons rfl (fun K hK => ?_) AllReadyIn.nil; go_simp; refine hK _ _ ?_; clear hK K)
            (refine wpAnyIn_ready (rs := [13]) (by kernel_rfl) (by simp) ?_; refine AllReadyIn.cons rfl (fun K hK => ?_) AllReadyIn.nil; go_simp; refine hK _ _ ?_; clear hK K)
            refine wpAnyIn_done (by kernel_rfl) ?_ _
            gi_wp2
            exact ⟨((((KeepsOthers.setCell _ _ _).trans (KeepsOthers.setCell _ _ _)).trans (KeepsOthers.setCell _ _ _)).trans (KeepsOthers.drew _)).from _, ⟨pre, ⟨(i, c), hx1, hx2⟩, rfl, HG.out, .inl ⟨rfl, hlow, HN9.out, ((Y1.out.set _).other (by omega) _).other (by omega) _, ((Y2.out.other (by omega) _).set _).other (by omega) _, ((Y3.out.other (by omega) _).other (by omega) _).set _⟩⟩, (((hB.setCell (by simp <;> omega) _).setCell (by simp <;> omega) _).setCell (by simp <;> omega) _).drew⟩
        · go_simp; refine hK _ _ ?_; clear hK K
          (refine wpAnyIn_take (i := 9) (v := ?_) hro rfl (by kernel_rfl) (by kernel_rfl) (by kernel_rfl) (fun _ _ _ h => h) ⟨Or.inl ⟨by rfl, ?_⟩, fun _ => rfl⟩ ?_; rotate_left; focus (intro w; go_simp; try with_reducible rfl))
          (refine wpAnyIn_take (i := 10) (v := ?_) hro rfl (by kernel_rfl) (by kernel_rfl) (by kernel_rfl) (fun _ _ _ h => h) ⟨Or.inl ⟨by rfl, ?_⟩, fun _ => rfl⟩ ?_; rotate_left; focus (intro w; go_simp; try with_reducible rfl))
          (refine wpAnyIn_ready (rs := [0]) (by kernel_rfl) (by simp) ?_; refine AllReadyIn.cons rfl (fun K hK => ?_) AllReadyIn.nil; go_simp; refine hK _ _ ?_; clear hK K)
          (refine wpAnyIn_take (i := 6) (v := ?_) hro rfl (by kernel_rfl) (by kernel_rfl) (by kernel_rfl) (fun _ _ _ h => h) ⟨Or.inl ⟨by rfl, ?_⟩, fun _ => rfl⟩ ?_; rotate_left; focus (intro w; go_simp; try with_reducible rfl))
          (refine wpAnyIn_ready (rs := [11]) (by kernel_rfl) (by simp) ?_; refine AllReadyIn.cons rfl (fun K hK => ?_) AllReadyIn.nil; go_simp; refine hK _ _ ?_; clear hK K)
          (refine wpAnyIn_ready (rs := [12]) (by kernel_rfl) (by simp) ?_; refine AllReadyIn.cons rfl (fun K hK => ?_) AllReadyIn.nil; go_simp; refine hK _ _ ?_; clear hK K)
          (refine wpAnyIn_ready (rs := [13]) (by kernel_rfl) (by simp) ?_; refine AllReadyIn.cons rfl (fun K hK => ?_) AllReadyIn.nil; go_simp; refine hK _ _ ?_; clear hK K)
          refine wpAnyIn_done (by kernel_rfl) ?_ _
          gi_wp2
          exact ⟨((((KeepsOthers.setCell _ _ _).trans (KeepsOthers.setCell _ _ _)).trans (KeepsOthers.setCell _ _ _)).trans (KeepsOthers.drew _)).from _, ⟨pre, ⟨(i, c), hx1, hx2⟩, rfl, HG.out, .inl ⟨rfl, hlow, HN9.out, ((Y1.out.set _).other (by omega) _).other (by omega) _, ((Y2.out.other (by omega) _).set _).other (by omega) _, ((Y3.out.other (by omega) _).other (by omega) _).set _⟩⟩, (((hB.setCell (by simp <;> omega) _).setCell (by simp <;> omega) _).setCell (by simp <;> omega) _).drew⟩
    · have hl1 : decide ((c : Int) < 128) = false := by simp; omega
      have kand : bits .and .u8 (c : Int) 127 = ((c % 128 : Nat) : Int) := by
        rw [show (127 : Int) = ((127 : Nat) : Int) from rfl, u8_and_nat _ _ hx2' (by decide), nat_mask7]
      have kc2 : IntKind.u64.wrap ((c % 128 : Nat) : Int) = ((c % 128 : Nat) : Int) := by rw [IntKind.wrap_u64]; omega
      by_cases h9 : i = 9
      · have hl2 : decide (1 < (c : Int)) = true := by simp; omega
        have b9 : ((i : Int) == 9) = true := by simp; omega
        have E9 := Lib.hid h9
        clear h9
        gi_wp2
        exact ⟨(KeepsOthers.setCell _ _ _).from _, ⟨pre, ⟨(i, c), hx1, hx2⟩, rfl, HG.out, .inr ⟨rfl, E9.out, by show 1 < c; omega, Y1.out.other (by omega) _, Y2.out.other (by omega) _, Y3.out.other (by omega) _, Y5.out.set _⟩⟩, hB.setCell (by simp <;> omega) _⟩
      · have b9 : ((i : Int) == 9) = false := by simp; omega
        have E9 := Lib.hid h9
        clear h9
        gi_wp2
        refine blind ?_
        refine wpIn_region_any (by kernel_rfl) ?_
        refine any_inRound hro (noDefer_spec (by kernel_rfl)) _ _ _ _ ?_
        change wpAnyIn _ _ _ _ _ _ _ _ _ (World.drew _)
        (refine wpAnyIn_take (i := 1) (v := ?_) hro rfl (by kernel_rfl) (by kernel_rfl) (by kernel_rfl) (fun _ _ _ h => h) ⟨Or.inl ⟨by rfl, ?_⟩, fun _ => rfl⟩ ?_; rotate_left; focus (intro w; go_simp; try with_reducible rfl))
        (refine wpAnyIn_take (i := 4) (v := ?_) hro rfl (by kernel_rfl) (by kernel_rfl) (by kernel_rfl) (fun _ _ _ h => h) ⟨Or.inl ⟨by rfl, ?_⟩, fun _ => rfl⟩ ?_; rotate_left; focus (intro w; go_simp; try with_reducible rfl))
        (refine wpAnyIn_take (i := 2) (v := ?_) hro rfl (by kernel_rfl) (by kernel_rfl) (by kernel_rfl) (fun _ _ _ h => h) ⟨Or.inl ⟨by rfl, ?_⟩, fun _ => rfl⟩ ?_; rotate_left; focus (intro w; go_simp; try with_reducible rfl))
        (refine wpAnyIn_take (i := 3) (v := ?_) hro rfl (by kernel_rfl) (by kernel_rfl) (by kernel_rfl) (fun _ _ _ h => h) ⟨Or.inl ⟨by rfl, ?_⟩, fun _ => rfl⟩ ?_; rotate_left; focus (intro w; go_simp; try with_reducible rfl))
        (refine wpAnyIn_take (i := 5) (v := ?_) hro rfl (by kernel_rfl) (by kernel_rfl) (by kernel_rfl) (fun _ _ _ h => h) ⟨Or.inl ⟨by rfl, ?_⟩, fun _ => rfl⟩ ?_; rotate_left; focus (intro w; go_simp; try with_reducible rfl))
        (refine wpAnyIn_take (i := 6) (v := ?_) hro rfl (by kernel_rfl) (by kernel_rfl) (by kernel_rfl) (fun _ _ _ h => h) ⟨Or.inl ⟨by rfl, ?_⟩, fun _ => rfl⟩ ?_; rotate_left; focus (intro w; go_simp; try with_reducible rfl))
        (refine wpAnyIn_ready (rs := [0]) (by kernel_rfl) (by simp) ?_; refine AllReadyIn.cons rfl (fun K hK => ?_) AllReadyIn.nil; go_simp; refine hK _ _ ?_; clear hK K)
        (refine wpAnyIn_take (i := 7) (v := ?_) hro rfl (by kernel_rfl) (by kernel_rfl) (by kernel_rfl) (fun _ _ _ h => h) ⟨Or.inl ⟨by rfl, ?_⟩, fun _ => rfl⟩ ?_; rotate_left; focus (intro w; go_simp; try with_reducible rfl))
        (refine wpAnyIn_ready (rs := [8]) (by kernel_rfl) (by simp) ?_; refine AllReadyIn.cons rfl (fun K hK => ?_) AllReadyIn.nil; go_simp; refine hK _ _ ?_; clear hK K)
        refine wpAnyIn_done (by kernel_rfl) ?_ _
        gi_wp2
        have hgo : ∀ x ∈ pre ++ [(⟨(i, c), hx1, hx2⟩ : IB)], Goes x := fun x hx => by
          rcases List.mem_append.1 hx with hx | hx
          · exact HG.out x hx
          · simp only [List.mem_singleton] at hx
            subst hx
            exact ⟨by show 128 ≤ c; omega, fun hh => E9.out hh.1⟩
        have hv : bits BinOp.or IntKind.u64 (accF pre) (IntKind.u64.wrap (IntKind.u64.wrap (↑c % 128) * 2 ^ min (7 * i) 64)) = accF (pre ++ [(⟨(i, c), hx1, hx2⟩ : IB)]) := by
          rw [accF_snoc, show IntKind.u64.wrap ((c : Int) % 128) = ((c % 128 : Nat) : Int) from kc2]
          rfl
        rw [hv]
        exact ⟨((KeepsOthers.setCell _ _ _).trans (KeepsOthers.drew _)).from _, ((Below.refl _ _).setCell (by simp <;> omega) _).drew, ⟨hgo, Y0.out.other (by omega) _, Y1.out.other (by omega) _, Y2.out.other (by omega) _, Y3.out.other (by omega) _, Y4.out.set _, Y5.out.other (by omega) _⟩, (hB.setCell (by simp <;> omega) _).drew⟩
  case done =>
    rintro D ys W hD rfl ⟨⟨hG, y0, y1, y2, y3, y4, y5⟩, hB⟩ hKD
    have hV : getV l k0 = .tuple #[.int .u64 0, .int .i64 0, .int .i64 2] := by
      unfold getV
      rw [get_short l h hl k0 hk hG]
      rfl
    have c1 := y1.cell
    have c2 := y2.cell
    have c3 := y3.cell
    have c5 := y5.cell
    have f1 := y1.frozen
    have f2 := y2.frozen
    have f3 := y3.frozen
    have hK2 := HK.out
    clear HK hG
    gi_wp2
    gi_region
    all_goals gi_wp2
    all_goals
      have hKX := (((KeepsOthers.setCell W ⟨w.heap.size + 1, 0, none⟩ (.int .u64 0)).trans (KeepsOthers.setCell _ ⟨w.heap.size + 1 + 1, 0, none⟩ (.int .i64 0))).trans (KeepsOthers.setCell _ ⟨w.heap.size + 1 + 1 + 1, 0, none⟩ (.int .i64 2))).same D _ hKD rfl
      exact finish hKX (((y1.set _).other (by omega) _).other (by omega) _) (((y2.other (by omega) _).set _).other (by omega) _) (((y3.other (by omega) _).other (by omega) _).set _) ⟨congrArg Ending.returned hV.symm, ((((hB.setCell (by simp <;> omega) _).setCell (by simp <;> omega) _).setCell (by simp <;> omega) _).drew).trans (belowK_b (w := w) (Nat.le_refl _) _ D _ _ (by omega) hKX rfl rfl)⟩
  case stop =>
    rintro D c pre W hD ⟨k, hk2, rfl⟩ ⟨hx, hB⟩ hKD
    have hx' := hx
    obtain ⟨ini, last, e1, e2, e3⟩ := hx
    obtain ⟨k', rfl⟩ : ∃ k', k = k' + 1 := by
      cases k with
      | zero => simp [upto] at e1
      | succ k' => exact ⟨k', rfl⟩
    rw [upto_succ] at e1
    obtain ⟨rfl, e5⟩ := List.append_inj' e1 rfl
    obtain rfl : ib l h hl k0 k' = last := by simpa using e5
    obtain ⟨h9, eacc, hlt, hget⟩ := get_at l h hl k0 hk (show k' < l.length - k0 by omega) e2
    have ek : (ib l h hl k0 k').1.1 = k' := Nat.min_eq_left (by omega)
    have ec : (ib l h hl k0 k').1.2 = l.getD (k0 + k') 0 := rfl
    rw [ek, ec, eacc] at e3
    rcases e3 with ⟨rfl, g1, g2, y1, y2, y3⟩ | ⟨rfl, g1, g2, y1, y2, y3, y5⟩
    · rw [if_neg g2, if_pos g1] at hget
      have hcm : l.getD (k0 + k') 0 * 128 ^ k' ≤ 18446744073709551615 := by
        by_cases e9 : k' = 9
        · subst e9
          have : ¬ 1 < l.getD (k0 + 9) 0 := fun hh => g2 ⟨rfl, hh⟩
          have : l.getD (k0 + 9) 0 * 128 ^ 9 ≤ 1 * 128 ^ 9 := Nat.mul_le_mul_right _ (by omega)
          omega
        · have hp : (128 : Nat) ^ k' ≤ 128 ^ 8 := Nat.pow_le_pow_right (by decide) (by omega)
          have : l.getD (k0 + k') 0 * 128 ^ k' ≤ 128 * 128 ^ 8 := Nat.mul_le_mul (by omega) hp
          omega
      rw [or_shift _ _ _ h9 hlt hcm] at y1
      have hV : getV l k0 = .tuple #[.int .u64 ((accK l k0 k' + l.getD (k0 + k') 0 * 128 ^ k' : Nat) : Int), .int .i64 ((k0 : Int) + (k' : Int) + 1), .int .i64 0] := by
        unfold getV
        rw [hget]
        simp only [if_true]
        rw [show ((k0 : Int) + ((k' + 1 : Nat) : Int)) = (k0 : Int) + (k' : Int) + 1 from by omega]
        rfl
      have Y1 := Lib.hid y1
      have Y2 := Lib.hid y2
      have Y3 := Lib.hid y3
      have HV := Lib.hid hV
      clear HK e2 hx' y1 y2 y3 hV hget eacc hcm
      gi_wp2
      exact finish hKD Y1.out Y2.out Y3.out ⟨congrArg Ending.returned HV.out.symm, hB.trans (belowK_b (w := w) (Nat.le_refl _) _ D _ _ (by omega) hKD rfl rfl)⟩
    · rw [if_pos ⟨g1, g2⟩] at hget
      have hV : getV l k0 = .tuple #[.int .u64 0, .int .i64 0, .int .i64 3] := by
        unfold getV
        rw [hget]
        rfl
      have c1 := y1.cell
      have c2 := y2.cell
      have c3 := y3.cell
      have c5 := y5.cell
      have f1 := y1.frozen
      have f2 := y2.frozen
      have f3 := y3.frozen
      have hK2 := HK.out
      clear HK e2
      gi_wp2
      gi_region
      all_goals gi_wp2
      all_goals
        have hKX := (((KeepsOthers.setCell W ⟨w.heap.size + 1, 0, none⟩ (.int .u64 0)).trans (KeepsOthers.setCell _ ⟨w.heap.size + 1 + 1, 0, none⟩ (.int .i64 0))).trans (KeepsOthers.setCell _ ⟨w.heap.size + 1 + 1 + 1, 0, none⟩ (.int .i64 3))).same D _ hKD rfl
        exact finish hKX (((y1.set _).other (by omega) _).other (by omega) _) (((y2.other (by omega) _).set _).other (by omega) _) (((y3.other (by omega) _).other (by omega) _).set _) ⟨congrArg Ending.returned hV.symm, ((((hB.setCell (by simp <;> omega) _).setCell (by simp <;> omega) _).setCell (by simp <;> omega) _).drew).trans (belowK_b (w := w) (Nat.le_refl _) _ D _ _ (by omega) hKX rfl rfl)⟩
theorem get_any (v : Value) (l : List Nat) (k0 : Nat) (w : World) (hS : Src w v l) (h : ∀ x ∈ l, x < 256) (hl : l.length ≤ 140737488355328) (hk : k0 ≤ l.length) :
    Calls Try.prog 63 #[v, .int .i64 (k0 : Int)] w (GetPost l k0 w) :=
  callsIn_wide.1 (get_in Fence.wide 3 trivial trivial trivial rfl (Nat.le_refl _) v l k0 w hS h hl hk)
end Go.Proofs.Ytoglgdkeknojkaa
