/-
  PacketBack: FOR EVERY INPUT the law returns true and leaves its arguments as they were; the package's tables are laid (a card).
-/
import Derived.Test.YtmpklaokgogigaaDoorWc
import Derived.Test.YtmpklaokgogigaaDoorNd
import Derived.Test.YtmpklaokgogigaaDoorLj
import Derived.Test.YtmpklaokgogigaaDoorLi
import Derived.Test.YtmpklaokgogigaaDoorTb
import Derived.Test.YtmpklaokgogigaaDoorCards
import Derived.Test.YtmpklaokgogigaaDoorTie
import Derived.WalkKit
import Derived.ProofKit
import Derived.OpenShut
import Derived.ChangeOld
import Derived.Below
import Derived.SizedLaws
import Derived.Lib.SmallJoins
import Derived.Deep.DeepHandedRow
import Derived.Lib.LaidTab
namespace Go.Proofs.YtmpklaokgogigaaDoor.packetBack
set_option linter.unusedSimpArgs false
open Go.ChangeShapes Go.WideShapes Go.ChangeAt Go.RowKit
open Go.ChangeMaps (open_string shut_string)
set_option linter.unusedVariables false

theorem own : ownKnob Tryd.prog.godebug = none := by kernel_rfl
theorem laidOut : laidOutB Tryd.prog = true := by kernel_rfl

set_option maxHeartbeats 16000000 in
set_option maxRecDepth 100000 in
theorem walk (a0 : Option Addr) (len0 cap0 : Nat) (l : List Pac.Pt) (w : World) (ht : Tabs w) (hs : Pac.PtsAt w (.slice a0 len0 cap0) l) (hok : ∀ f ∈ l, f.ok) : Calls Tryd.prog 5 #[.slice a0 len0 cap0] w (Pac.YesW w) := by
  obtain ⟨a, cap, e, hlm, hc⟩ := hs
  simp only [Value.slice.injEq] at e
  obtain ⟨rfl, rfl, rfl⟩ := e
  have HT := Lib.hid ht
  have HC := Lib.hid hc
  have HO := Lib.hid hok
  have hm : (l.length : Int) ≤ 9223372036854775807 := by omega
  clear ht hc hok
  go_enter Tryd.func5, Tryd.ntmps5
  go_wp2
  go_loopw [3, 4, 5] (fun s c i wr => ∃ (k : Nat) (S : List (List Nat × Pac.Pk)) (L : List Pac.Pt), i = .int .i64 (k : Int) ∧ k ≤ l.length ∧ k ≤ 12 ∧ s = .string (strB (Pac.segB S)) ∧ (∀ x ∈ S, Pac.Laid x.1 x.2) ∧ S.length ≤ k ∧ L.map Pac.Pt.p = Pac.segP S ∧ Pac.Pks w.heap.size c L wr ∧ Below w.heap.size w wr) (fun _ _ i _ => l.length - (intOf i).toNat)
  case atStart => exact ⟨0, [], [], rfl, by omega, by omega, rfl, by simp, by simp, rfl, Pac.Pks.nil _ _, Below.refl _ _⟩
  case round =>
    obtain ⟨k, S, L, rfl, hk, hk12, rfl, hS, hSk, hLS, hP, hB⟩ := hrel
    have hLk : L.length ≤ k := by have := congrArg List.length hLS; simp [Pac.segP] at this; omega
    obtain ⟨va, vc, rfl⟩ := own_slice hP.o
    have hsl := Pac.segB_len hS
    have hsz : (strB (Pac.segB S)).size = (Pac.segB S).length := strB_size _
    by_cases hend : ¬ (k < l.length ∧ k < 12)
    · have H1 := Pac.all_p (strB (Pac.segB S)) wr (HT.out.keep hB) (by omega)
      rw [Pac.all_of_put wr (HT.out.keep hB) S hS, ← hsz] at H1
      have hz2 : (strB (Pac.segB S)).size ≤ 100000 := by omega
      have hend2 : k = l.length ∨ (k < l.length ∧ k = 12) := by omega
      clear hsl hS HO HC hsz hend
      generalize strB (Pac.segB S) = sb at *
      have hzz : (sb.size : Int) ≤ 100000 := by omega
      replace H1 := Lib.hid H1
      replace hLS := Lib.hid hLS
      replace hP := Lib.hid hP
      replace hB := Lib.hid hB
      clear hSk
      have hLi : (L.length : Int) ≤ 12 := by omega
      rcases hend2 with rfl | ⟨klt, rfl⟩
      rotate_left
      · have klt' : (12 : Int) < (l.length : Int) := by omega
        go_wp2_with fail
        refine (H1.out).mono ?_
        rintro e w1 ⟨v1, M, rfl, P1, e1, b1⟩
        obtain ⟨ma, mc, rfl⟩ := own_slice P1.o
        have hlen : M.length = L.length := by rw [← List.length_map (f := Pac.Pt.p), e1, ← hLS.out, List.length_map]
        have hsame : ∀ (k : Nat) (x y : Pac.Pt), M[k]? = some x → L[k]? = some y → y.p = x.p := by
          intro k x y hx hy
          have h1 : (M.map Pac.Pt.p)[k]? = some x.p := by rw [List.getElem?_map, hx]; rfl
          have h2 : (L.map Pac.Pt.p)[k]? = some y.p := by rw [List.getElem?_map, hy]; rfl
          rw [e1] at h1
          rw [hLS.out] at h2
          have := h1.symm.trans h2
          simpa using this.symm
        have Q1 := Lib.hid P1
        have Q2 := Lib.hid (hP.out.ext b1)
        rw [hlen] at Q1 ⊢
        have BB := Lib.hid (hB.out.trans (b1.mono hB.out.size))
        replace hsame := Lib.hid hsame
        replace hlen := Lib.hid hlen
        clear P1 b1 e1 H1 hLS hP hB
        go_wp2_with fail
        go_loopw [11] (fun i wr => ∃ k : Nat, i = .int .i64 k ∧ k ≤ L.length ∧ Below w1.heap.size w1 wr) (fun i _ => L.length - (intOf i).toNat)
        case atStart => exact ⟨0, rfl, by omega, Below.refl _ _⟩
        case round =>
          obtain ⟨k, rfl, hk, hb⟩ := hrel
          replace hb := Lib.hid hb
          by_cases hend : k = L.length
          · subst hend
            have BE := Lib.hid (BB.out.trans (hb.out.mono BB.out.size))
            have TE := Lib.hid (HT.out.keep BE.out)
            clear Q1 Q2 hsame hlen
            go_wp2_with fail
            refine (Pac.awake16_any _ TE.out).mono ?_
            rintro e w6 ⟨rfl, b6⟩
            have BF := Lib.hid (BE.out.trans (b6.mono BE.out.size))
            clear b6
            go_wp2_with fail
            go_ret
            exact ⟨rfl, BF.out⟩
          have klt : k < L.length := by omega
          obtain ⟨x, hx⟩ : ∃ x, M[k]? = some x := ⟨_, List.getElem?_eq_getElem (by rw [hlen.out]; exact klt)⟩
          obtain ⟨y, hy⟩ : ∃ y, L[k]? = some y := ⟨_, List.getElem?_eq_getElem klt⟩
          have hp := hsame.out k x y hx hy
          have Q1' := Q1.out
          rw [← hlen.out] at Q1'
          have R1 := Q1'.r x (List.mem_of_getElem? hx)
          have R2 := Q2.out.r y (List.mem_of_getElem? hy)
          obtain ⟨g1, q1, hv1, hg1, -, hr1⟩ := Q1'.at hx
          obtain ⟨g2, q2, hv2, hg2, -, hr2⟩ := Q2.out.at hy
          obtain ⟨px, fx, cx⟩ := x
          obtain ⟨py, fy, cy⟩ := y
          simp only at hp
          subst hp
          simp only [Value.slice.injEq] at hv1 hv2
          obtain ⟨rfl, -, rfl⟩ := hv1
          obtain ⟨rfl, -, rfl⟩ := hv2
          have SM := Lib.hid (fun W (hW : Below w1.heap.size w1 W) => Pac.same_p py py fx cx fy cy W (R1.f.keep hW (Nat.le_refl _)) (R1.c.keep hW (Nat.le_refl _)) (R2.f.keep hW (Nat.le_refl _)) (R2.c.keep hW (Nat.le_refl _)))
          have SD := Lib.hid (fun W (hW : Below w1.heap.size w1 W) => Pac.same_d py py fx cx fy cy W (R1.f.keep hW (Nat.le_refl _)) (R1.c.keep hW (Nat.le_refl _)) (R2.f.keep hW (Nat.le_refl _)) (R2.c.keep hW (Nat.le_refl _)))
          have KS : Hid (∀ W, Below w1.heap.size w1 W → W.rangeAt g1 (k * 24) (py.v fx cx).toList ∧ W.rangeAt g2 (k * 24) (py.v fy cy).toList) := Lib.hid fun W hW =>
            ⟨fun j u hj => (hW.cell (by simpa using hg1)).trans (hr1 j u hj), fun j u hj => (hW.cell (by simpa using hg2)).trans (hr2 j u hj)⟩
          have sz1 : Hid ((Tryd.prog.info? 33).map (·.size) = some (py.v fx cx).toList.length) := Lib.hid (by kernel_rfl)
          have sz2 : Hid ((Tryd.prog.info? 33).map (·.size) = some (py.v fy cy).toList.length) := Lib.hid (by kernel_rfl)
          generalize py.v fx cx = cs1 at *
          generalize py.v fy cy = cs2 at *
          have klt' : (k : Int) < L.length := by omega
          have B0 := Lib.hid (hb.out.trans ((ext_drew wr).mono hb.out.size))
          clear R1 R2 hr1 hr2 hx hy Q1'
          go_wp2_with fail
          refine wp_region_held_drew (S := fun W => W.rangeAt g1 (k * 24) cs1.toList ∧ W.rangeAt g2 (k * 24) cs2.toList) (by kernel_rfl) (KS.out _ B0.out) (fun hHeld => ?_)
          refine wpAnyH_take (i := 0) (oi := _) (v := ?qv0) rfl (by kernel_rfl) (by kernel_rfl) (by kernel_rfl) (fun _ _ _ h => h) (Or.inl ⟨by rfl, ?qy0⟩) (by assumption) ?qr0
          case qy0 => (intro w hSw; go_simp <;> with_reducible rfl)
          try simp only [Act.put, List.getElem_toArray, List.getElem_cons_zero, List.getElem_cons_succ, List.setIfInBounds_toArray, List.set_cons_zero, List.set_cons_succ]
          refine wpAnyH_take (i := 1) (oi := _) (v := ?qv1) rfl (by kernel_rfl) (by kernel_rfl) (by kernel_rfl) (fun _ _ _ h => h) (Or.inl ⟨by rfl, ?qy1⟩) (by assumption) ?qr1
          case qy1 => (intro w hSw; go_simp <;> with_reducible rfl)
          try simp only [Act.put, List.getElem_toArray, List.getElem_cons_zero, List.getElem_cons_succ, List.setIfInBounds_toArray, List.set_cons_zero, List.set_cons_succ]
          refine wpAnyH_take (i := 2) (oi := _) (v := ?qv2) rfl (by kernel_rfl) (by kernel_rfl) (by kernel_rfl) (fun _ _ _ h => h) (Or.inl ⟨by rfl, ?qy2⟩) (by assumption) ?qr2
          case qy2 => (intro w hSw; go_simp <;> with_reducible rfl)
          try simp only [Act.put, List.getElem_toArray, List.getElem_cons_zero, List.getElem_cons_succ, List.setIfInBounds_toArray, List.set_cons_zero, List.set_cons_succ]
          refine wpAnyH_take (i := 3) (oi := _) (v := .agg cs1) rfl (by kernel_rfl) (by kernel_rfl) (by kernel_rfl) (fun _ _ _ h => h) (yieldsIf_load_mid (by rfl) 33 _ rfl g1 (k * 24) (by rfl) cs1.toList _ (fun w hSw => hSw.1) Tryd.underlying33 rfl sz1.out) (by assumption) ?qr3
          try simp only [Act.put, List.getElem_toArray, List.getElem_cons_zero, List.getElem_cons_succ, List.setIfInBounds_toArray, List.set_cons_zero, List.set_cons_succ]
          refine wpAnyH_take (i := 4) (oi := _) (v := ?qv4) rfl (by kernel_rfl) (by kernel_rfl) (by kernel_rfl) (fun _ _ _ h => h) (Or.inl ⟨by rfl, ?qy4⟩) (by assumption) ?qr4
          case qy4 => (intro w hSw; go_simp <;> with_reducible rfl)
          try simp only [Act.put, List.getElem_toArray, List.getElem_cons_zero, List.getElem_cons_succ, List.setIfInBounds_toArray, List.set_cons_zero, List.set_cons_succ]
          refine wpAnyH_take (i := 5) (oi := _) (v := ?qv5) rfl (by kernel_rfl) (by kernel_rfl) (by kernel_rfl) (fun _ _ _ h => h) (Or.inl ⟨by rfl, ?qy5⟩) (by assumption) ?qr5
          case qy5 => (intro w hSw; go_simp <;> with_reducible rfl)
          try simp only [Act.put, List.getElem_toArray, List.getElem_cons_zero, List.getElem_cons_succ, List.setIfInBounds_toArray, List.set_cons_zero, List.set_cons_succ]
          refine wpAnyH_take (i := 6) (oi := _) (v := ?qv6) rfl (by kernel_rfl) (by kernel_rfl) (by kernel_rfl) (fun _ _ _ h => h) (Or.inl ⟨by rfl, ?qy6⟩) (by assumption) ?qr6
          case qy6 => (intro w hSw; go_simp <;> with_reducible rfl)
          try simp only [Act.put, List.getElem_toArray, List.getElem_cons_zero, List.getElem_cons_succ, List.setIfInBounds_toArray, List.set_cons_zero, List.set_cons_succ]
          refine wpAnyH_take (i := 7) (oi := _) (v := .agg cs2) rfl (by kernel_rfl) (by kernel_rfl) (by kernel_rfl) (fun _ _ _ h => h) (yieldsIf_load_mid (by rfl) 33 _ rfl g2 (k * 24) (by rfl) cs2.toList _ (fun w hSw => hSw.2) Tryd.underlying33 rfl sz2.out) (by assumption) ?qr7
          try simp only [Act.put, List.getElem_toArray, List.getElem_cons_zero, List.getElem_cons_succ, List.setIfInBounds_toArray, List.set_cons_zero, List.set_cons_succ]
          refine wpAnyH_ready (rs := [8]) (by kernel_rfl) (by simp) ?_
          refine AllReadyH.cons (o := _) rfl (fun K hK => ?_) AllReadyH.nil
          go_simp
          refine (SM.out _ B0.out).mono ?_
          rintro e W1 ⟨v1, rfl, hv1, b1⟩
          obtain rfl : v1 = true := by simpa using hv1
          go_wp2_with fail
          have B1 := Lib.hid (B0.out.trans (b1.mono B0.out.size))
          refine hK _ _ (KS.out _ B1.out) (fun hHeld1 => ?_)
          clear hK K b1 hv1
          try simp only [Act.put, List.getElem_toArray, List.getElem_cons_zero, List.getElem_cons_succ, List.setIfInBounds_toArray, List.set_cons_zero, List.set_cons_succ]
          refine wpAnyH_take (i := 9) (oi := _) (v := ?qv9) rfl (by kernel_rfl) (by kernel_rfl) (by kernel_rfl) (fun _ _ _ h => h) (Or.inl ⟨by rfl, ?qy9⟩) (by assumption) ?qr9
          case qy9 => (intro w hSw; go_simp <;> with_reducible rfl)
          try simp only [Act.put, List.getElem_toArray, List.getElem_cons_zero, List.getElem_cons_succ, List.setIfInBounds_toArray, List.set_cons_zero, List.set_cons_succ]
          refine wpAnyH_take (i := 10) (oi := _) (v := ?qv10) rfl (by kernel_rfl) (by kernel_rfl) (by kernel_rfl) (fun _ _ _ h => h) (Or.inl ⟨by rfl, ?qy10⟩) (by assumption) ?qr10
          case qy10 => (intro w hSw; go_simp <;> with_reducible rfl)
          try simp only [Act.put, List.getElem_toArray, List.getElem_cons_zero, List.getElem_cons_succ, List.setIfInBounds_toArray, List.set_cons_zero, List.set_cons_succ]
          refine wpAnyH_take (i := 11) (oi := _) (v := ?qv11) rfl (by kernel_rfl) (by kernel_rfl) (by kernel_rfl) (fun _ _ _ h => h) (Or.inl ⟨by rfl, ?qy11⟩) (by assumption) ?qr11
          case qy11 => (intro w hSw; go_simp <;> with_reducible rfl)
          try simp only [Act.put, List.getElem_toArray, List.getElem_cons_zero, List.getElem_cons_succ, List.setIfInBounds_toArray, List.set_cons_zero, List.set_cons_succ]
          refine wpAnyH_take (i := 12) (oi := _) (v := ?qv12) rfl (by kernel_rfl) (by kernel_rfl) (by kernel_rfl) (fun _ _ _ h => h) (Or.inl ⟨by rfl, ?qy12⟩) (by assumption) ?qr12
          case qy12 => (intro w hSw; go_simp <;> with_reducible rfl)
          try simp only [Act.put, List.getElem_toArray, List.getElem_cons_zero, List.getElem_cons_succ, List.setIfInBounds_toArray, List.set_cons_zero, List.set_cons_succ]
          refine wpAnyH_take (i := 13) (oi := _) (v := ?qv13) rfl (by kernel_rfl) (by kernel_rfl) (by kernel_rfl) (fun _ _ _ h => h) (Or.inl ⟨by rfl, ?qy13⟩) (by assumption) ?qr13
          case qy13 => (intro w hSw; go_simp <;> with_reducible rfl)
          try simp only [Act.put, List.getElem_toArray, List.getElem_cons_zero, List.getElem_cons_succ, List.setIfInBounds_toArray, List.set_cons_zero, List.set_cons_succ]
          refine wpAnyH_take (i := 14) (oi := _) (v := .agg cs1) rfl (by kernel_rfl) (by kernel_rfl) (by kernel_rfl) (fun _ _ _ h => h) (yieldsIf_load_mid (by rfl) 33 _ rfl g1 (k * 24) (by rfl) cs1.toList _ (fun w hSw => hSw.1) Tryd.underlying33 rfl sz1.out) (by assumption) ?qr14
          try simp only [Act.put, List.getElem_toArray, List.getElem_cons_zero, List.getElem_cons_succ, List.setIfInBounds_toArray, List.set_cons_zero, List.set_cons_succ]
          refine wpAnyH_take (i := 15) (oi := _) (v := ?qv15) rfl (by kernel_rfl) (by kernel_rfl) (by kernel_rfl) (fun _ _ _ h => h) (Or.inl ⟨by rfl, ?qy15⟩) (by assumption) ?qr15
          case qy15 => (intro w hSw; go_simp <;> with_reducible rfl)
          try simp only [Act.put, List.getElem_toArray, List.getElem_cons_zero, List.getElem_cons_succ, List.setIfInBounds_toArray, List.set_cons_zero, List.set_cons_succ]
          refine wpAnyH_take (i := 16) (oi := _) (v := ?qv16) rfl (by kernel_rfl) (by kernel_rfl) (by kernel_rfl) (fun _ _ _ h => h) (Or.inl ⟨by rfl, ?qy16⟩) (by assumption) ?qr16
          case qy16 => (intro w hSw; go_simp <;> with_reducible rfl)
          try simp only [Act.put, List.getElem_toArray, List.getElem_cons_zero, List.getElem_cons_succ, List.setIfInBounds_toArray, List.set_cons_zero, List.set_cons_succ]
          refine wpAnyH_take (i := 17) (oi := _) (v := ?qv17) rfl (by kernel_rfl) (by kernel_rfl) (by kernel_rfl) (fun _ _ _ h => h) (Or.inl ⟨by rfl, ?qy17⟩) (by assumption) ?qr17
          case qy17 => (intro w hSw; go_simp <;> with_reducible rfl)
          try simp only [Act.put, List.getElem_toArray, List.getElem_cons_zero, List.getElem_cons_succ, List.setIfInBounds_toArray, List.set_cons_zero, List.set_cons_succ]
          refine wpAnyH_take (i := 18) (oi := _) (v := .agg cs2) rfl (by kernel_rfl) (by kernel_rfl) (by kernel_rfl) (fun _ _ _ h => h) (yieldsIf_load_mid (by rfl) 33 _ rfl g2 (k * 24) (by rfl) cs2.toList _ (fun w hSw => hSw.2) Tryd.underlying33 rfl sz2.out) (by assumption) ?qr18
          try simp only [Act.put, List.getElem_toArray, List.getElem_cons_zero, List.getElem_cons_succ, List.setIfInBounds_toArray, List.set_cons_zero, List.set_cons_succ]
          refine wpAnyH_ready (rs := [19]) (by kernel_rfl) (by simp) ?_
          refine AllReadyH.cons (o := _) rfl (fun K hK => ?_) AllReadyH.nil
          go_simp
          refine (SD.out _ B1.out).mono ?_
          rintro e W2 ⟨v2, rfl, hv2, b2⟩
          obtain rfl : v2 = true := by simpa using hv2
          go_wp2_with fail
          have B2 := Lib.hid (B1.out.trans (b2.mono B1.out.size))
          refine hK _ _ (KS.out _ B2.out) (fun hHeld2 => ?_)
          clear hK K b2 hv2
          try simp only [Act.put, List.getElem_toArray, List.getElem_cons_zero, List.getElem_cons_succ, List.setIfInBounds_toArray, List.set_cons_zero, List.set_cons_succ]
          refine wpAnyH_take (i := 20) (oi := _) (v := ?qv20) rfl (by kernel_rfl) (by kernel_rfl) (by kernel_rfl) (fun _ _ _ h => h) (Or.inl ⟨by rfl, ?qy20⟩) (by assumption) ?qr20
          case qy20 => (intro w hSw; go_simp <;> with_reducible rfl)
          try simp only [Act.put, List.getElem_toArray, List.getElem_cons_zero, List.getElem_cons_succ, List.setIfInBounds_toArray, List.set_cons_zero, List.set_cons_succ]
          refine wpAnyH_take (i := 21) (oi := _) (v := ?qv21) rfl (by kernel_rfl) (by kernel_rfl) (by kernel_rfl) (fun _ _ _ h => h) (Or.inl ⟨by rfl, ?qy21⟩) (by assumption) ?qr21
          case qy21 => (intro w hSw; go_simp <;> with_reducible rfl)
          try simp only [Act.put, List.getElem_toArray, List.getElem_cons_zero, List.getElem_cons_succ, List.setIfInBounds_toArray, List.set_cons_zero, List.set_cons_succ]
          refine wpAnyH_done (by kernel_rfl) ?_ _
          clear KS SM SD
          go_wp2_with fail
          go_roundw
          case rel => exact ⟨k + 1, by simp, by omega, B2.out⟩
          case measure => simp [intOf]; omega
      · go_wp2_with fail
        refine (H1.out).mono ?_
        rintro e w1 ⟨v1, M, rfl, P1, e1, b1⟩
        obtain ⟨ma, mc, rfl⟩ := own_slice P1.o
        have hlen : M.length = L.length := by rw [← List.length_map (f := Pac.Pt.p), e1, ← hLS.out, List.length_map]
        have hsame : ∀ (k : Nat) (x y : Pac.Pt), M[k]? = some x → L[k]? = some y → y.p = x.p := by
          intro k x y hx hy
          have h1 : (M.map Pac.Pt.p)[k]? = some x.p := by rw [List.getElem?_map, hx]; rfl
          have h2 : (L.map Pac.Pt.p)[k]? = some y.p := by rw [List.getElem?_map, hy]; rfl
          rw [e1] at h1
          rw [hLS.out] at h2
          have := h1.symm.trans h2
          simpa using this.symm
        have Q1 := Lib.hid P1
        have Q2 := Lib.hid (hP.out.ext b1)
        rw [hlen] at Q1 ⊢
        have BB := Lib.hid (hB.out.trans (b1.mono hB.out.size))
        replace hsame := Lib.hid hsame
        replace hlen := Lib.hid hlen
        clear P1 b1 e1 H1 hLS hP hB
        go_wp2_with fail
        go_loopw [11] (fun i wr => ∃ k : Nat, i = .int .i64 k ∧ k ≤ L.length ∧ Below w1.heap.size w1 wr) (fun i _ => L.length - (intOf i).toNat)
        case atStart => exact ⟨0, rfl, by omega, Below.refl _ _⟩
        case round =>
          obtain ⟨k, rfl, hk, hb⟩ := hrel
          replace hb := Lib.hid hb
          by_cases hend : k = L.length
          · subst hend
            have BE := Lib.hid (BB.out.trans (hb.out.mono BB.out.size))
            have TE := Lib.hid (HT.out.keep BE.out)
            clear Q1 Q2 hsame hlen
            go_wp2_with fail
            refine (Pac.awake16_any _ TE.out).mono ?_
            rintro e w6 ⟨rfl, b6⟩
            have BF := Lib.hid (BE.out.trans (b6.mono BE.out.size))
            clear b6
            go_wp2_with fail
            go_ret
            exact ⟨rfl, BF.out⟩
          have klt : k < L.length := by omega
          obtain ⟨x, hx⟩ : ∃ x, M[k]? = some x := ⟨_, List.getElem?_eq_getElem (by rw [hlen.out]; exact klt)⟩
          obtain ⟨y, hy⟩ : ∃ y, L[k]? = some y := ⟨_, List.getElem?_eq_getElem klt⟩
          have hp := hsame.out k x y hx hy
          have Q1' := Q1.out
          rw [← hlen.out] at Q1'
          have R1 := Q1'.r x (List.mem_of_getElem? hx)
          have R2 := Q2.out.r y (List.mem_of_getElem? hy)
          obtain ⟨g1, q1, hv1, hg1, -, hr1⟩ := Q1'.at hx
          obtain ⟨g2, q2, hv2, hg2, -, hr2⟩ := Q2.out.at hy
          obtain ⟨px, fx, cx⟩ := x
          obtain ⟨py, fy, cy⟩ := y
          simp only at hp
          subst hp
          simp only [Value.slice.injEq] at hv1 hv2
          obtain ⟨rfl, -, rfl⟩ := hv1
          obtain ⟨rfl, -, rfl⟩ := hv2
          have SM := Lib.hid (fun W (hW : Below w1.heap.size w1 W) => Pac.same_p py py fx cx fy cy W (R1.f.keep hW (Nat.le_refl _)) (R1.c.keep hW (Nat.le_refl _)) (R2.f.keep hW (Nat.le_refl _)) (R2.c.keep hW (Nat.le_refl _)))
          have SD := Lib.hid (fun W (hW : Below w1.heap.size w1 W) => Pac.same_d py py fx cx fy cy W (R1.f.keep hW (Nat.le_refl _)) (R1.c.keep hW (Nat.le_refl _)) (R2.f.keep hW (Nat.le_refl _)) (R2.c.keep hW (Nat.le_refl _)))
          have KS : Hid (∀ W, Below w1.heap.size w1 W → W.rangeAt g1 (k * 24) (py.v fx cx).toList ∧ W.rangeAt g2 (k * 24) (py.v fy cy).toList) := Lib.hid fun W hW =>
            ⟨fun j u hj => (hW.cell (by simpa using hg1)).trans (hr1 j u hj), fun j u hj => (hW.cell (by simpa using hg2)).trans (hr2 j u hj)⟩
          have sz1 : Hid ((Tryd.prog.info? 33).map (·.size) = some (py.v fx cx).toList.length) := Lib.hid (by kernel_rfl)
          have sz2 : Hid ((Tryd.prog.info? 33).map (·.size) = some (py.v fy cy).toList.length) := Lib.hid (by kernel_rfl)
          generalize py.v fx cx = cs1 at *
          generalize py.v fy cy = cs2 at *
          have klt' : (k : Int) < L.length := by omega
          have B0 := Lib.hid (hb.out.trans ((ext_drew wr).mono hb.out.size))
          clear R1 R2 hr1 hr2 hx hy Q1'
          go_wp2_with fail
          refine wp_region_held_drew (S := fun W => W.rangeAt g1 (k * 24) cs1.toList ∧ W.rangeAt g2 (k * 24) cs2.toList) (by kernel_rfl) (KS.out _ B0.out) (fun hHeld => ?_)
          refine wpAnyH_take (i := 0) (oi := _) (v := ?zv0) rfl (by kernel_rfl) (by kernel_rfl) (by kernel_rfl) (fun _ _ _ h => h) (Or.inl ⟨by rfl, ?zy0⟩) (by assumption) ?zr0
          case zy0 => (intro w hSw; go_simp <;> with_reducible rfl)
          try simp only [Act.put, List.getElem_toArray, List.getElem_cons_zero, List.getElem_cons_succ, List.setIfInBounds_toArray, List.set_cons_zero, List.set_cons_succ]
          refine wpAnyH_take (i := 1) (oi := _) (v := ?zv1) rfl (by kernel_rfl) (by kernel_rfl) (by kernel_rfl) (fun _ _ _ h => h) (Or.inl ⟨by rfl, ?zy1⟩) (by assumption) ?zr1
          case zy1 => (intro w hSw; go_simp <;> with_reducible rfl)
          try simp only [Act.put, List.getElem_toArray, List.getElem_cons_zero, List.getElem_cons_succ, List.setIfInBounds_toArray, List.set_cons_zero, List.set_cons_succ]
          refine wpAnyH_take (i := 2) (oi := _) (v := ?zv2) rfl (by kernel_rfl) (by kernel_rfl) (by kernel_rfl) (fun _ _ _ h => h) (Or.inl ⟨by rfl, ?zy2⟩) (by assumption) ?zr2
          case zy2 => (intro w hSw; go_simp <;> with_reducible rfl)
          try simp only [Act.put, List.getElem_toArray, List.getElem_cons_zero, List.getElem_cons_succ, List.setIfInBounds_toArray, List.set_cons_zero, List.set_cons_succ]
          refine wpAnyH_take (i := 3) (oi := _) (v := .agg cs1) rfl (by kernel_rfl) (by kernel_rfl) (by kernel_rfl) (fun _ _ _ h => h) (yieldsIf_load_mid (by rfl) 33 _ rfl g1 (k * 24) (by rfl) cs1.toList _ (fun w hSw => hSw.1) Tryd.underlying33 rfl sz1.out) (by assumption) ?zr3
          try simp only [Act.put, List.getElem_toArray, List.getElem_cons_zero, List.getElem_cons_succ, List.setIfInBounds_toArray, List.set_cons_zero, List.set_cons_succ]
          refine wpAnyH_take (i := 4) (oi := _) (v := ?zv4) rfl (by kernel_rfl) (by kernel_rfl) (by kernel_rfl) (fun _ _ _ h => h) (Or.inl ⟨by rfl, ?zy4⟩) (by assumption) ?zr4
          case zy4 => (intro w hSw; go_simp <;> with_reducible rfl)
          try simp only [Act.put, List.getElem_toArray, List.getElem_cons_zero, List.getElem_cons_succ, List.setIfInBounds_toArray, List.set_cons_zero, List.set_cons_succ]
          refine wpAnyH_take (i := 5) (oi := _) (v := ?zv5) rfl (by kernel_rfl) (by kernel_rfl) (by kernel_rfl) (fun _ _ _ h => h) (Or.inl ⟨by rfl, ?zy5⟩) (by assumption) ?zr5
          case zy5 => (intro w hSw; go_simp <;> with_reducible rfl)
          try simp only [Act.put, List.getElem_toArray, List.getElem_cons_zero, List.getElem_cons_succ, List.setIfInBounds_toArray, List.set_cons_zero, List.set_cons_succ]
          refine wpAnyH_take (i := 6) (oi := _) (v := ?zv6) rfl (by kernel_rfl) (by kernel_rfl) (by kernel_rfl) (fun _ _ _ h => h) (Or.inl ⟨by rfl, ?zy6⟩) (by assumption) ?zr6
          case zy6 => (intro w hSw; go_simp <;> with_reducible rfl)
          try simp only [Act.put, List.getElem_toArray, List.getElem_cons_zero, List.getElem_cons_succ, List.setIfInBounds_toArray, List.set_cons_zero, List.set_cons_succ]
          refine wpAnyH_take (i := 7) (oi := _) (v := .agg cs2) rfl (by kernel_rfl) (by kernel_rfl) (by kernel_rfl) (fun _ _ _ h => h) (yieldsIf_load_mid (by rfl) 33 _ rfl g2 (k * 24) (by rfl) cs2.toList _ (fun w hSw => hSw.2) Tryd.underlying33 rfl sz2.out) (by assumption) ?zr7
          try simp only [Act.put, List.getElem_toArray, List.getElem_cons_zero, List.getElem_cons_succ, List.setIfInBounds_toArray, List.set_cons_zero, List.set_cons_succ]
          refine wpAnyH_ready (rs := [8]) (by kernel_rfl) (by simp) ?_
          refine AllReadyH.cons (o := _) rfl (fun K hK => ?_) AllReadyH.nil
          go_simp
          refine (SM.out _ B0.out).mono ?_
          rintro e W1 ⟨v1, rfl, hv1, b1⟩
          obtain rfl : v1 = true := by simpa using hv1
          go_wp2_with fail
          have B1 := Lib.hid (B0.out.trans (b1.mono B0.out.size))
          refine hK _ _ (KS.out _ B1.out) (fun hHeld1 => ?_)
          clear hK K b1 hv1
          try simp only [Act.put, List.getElem_toArray, List.getElem_cons_zero, List.getElem_cons_succ, List.setIfInBounds_toArray, List.set_cons_zero, List.set_cons_succ]
          refine wpAnyH_take (i := 9) (oi := _) (v := ?zv9) rfl (by kernel_rfl) (by kernel_rfl) (by kernel_rfl) (fun _ _ _ h => h) (Or.inl ⟨by rfl, ?zy9⟩) (by assumption) ?zr9
          case zy9 => (intro w hSw; go_simp <;> with_reducible rfl)
          try simp only [Act.put, List.getElem_toArray, List.getElem_cons_zero, List.getElem_cons_succ, List.setIfInBounds_toArray, List.set_cons_zero, List.set_cons_succ]
          refine wpAnyH_take (i := 10) (oi := _) (v := ?zv10) rfl (by kernel_rfl) (by kernel_rfl) (by kernel_rfl) (fun _ _ _ h => h) (Or.inl ⟨by rfl, ?zy10⟩) (by assumption) ?zr10
          case zy10 => (intro w hSw; go_simp <;> with_reducible rfl)
          try simp only [Act.put, List.getElem_toArray, List.getElem_cons_zero, List.getElem_cons_succ, List.setIfInBounds_toArray, List.set_cons_zero, List.set_cons_succ]
          refine wpAnyH_take (i := 11) (oi := _) (v := ?zv11) rfl (by kernel_rfl) (by kernel_rfl) (by kernel_rfl) (fun _ _ _ h => h) (Or.inl ⟨by rfl, ?zy11⟩) (by assumption) ?zr11
          case zy11 => (intro w hSw; go_simp <;> with_reducible rfl)
          try simp only [Act.put, List.getElem_toArray, List.getElem_cons_zero, List.getElem_cons_succ, List.setIfInBounds_toArray, List.set_cons_zero, List.set_cons_succ]
          refine wpAnyH_take (i := 12) (oi := _) (v := ?zv12) rfl (by kernel_rfl) (by kernel_rfl) (by kernel_rfl) (fun _ _ _ h => h) (Or.inl ⟨by rfl, ?zy12⟩) (by assumption) ?zr12
          case zy12 => (intro w hSw; go_simp <;> with_reducible rfl)
          try simp only [Act.put, List.getElem_toArray, List.getElem_cons_zero, List.getElem_cons_succ, List.setIfInBounds_toArray, List.set_cons_zero, List.set_cons_succ]
          refine wpAnyH_take (i := 13) (oi := _) (v := ?zv13) rfl (by kernel_rfl) (by kernel_rfl) (by kernel_rfl) (fun _ _ _ h => h) (Or.inl ⟨by rfl, ?zy13⟩) (by assumption) ?zr13
          case zy13 => (intro w hSw; go_simp <;> with_reducible rfl)
          try simp only [Act.put, List.getElem_toArray, List.getElem_cons_zero, List.getElem_cons_succ, List.setIfInBounds_toArray, List.set_cons_zero, List.set_cons_succ]
          refine wpAnyH_take (i := 14) (oi := _) (v := .agg cs1) rfl (by kernel_rfl) (by kernel_rfl) (by kernel_rfl) (fun _ _ _ h => h) (yieldsIf_load_mid (by rfl) 33 _ rfl g1 (k * 24) (by rfl) cs1.toList _ (fun w hSw => hSw.1) Tryd.underlying33 rfl sz1.out) (by assumption) ?zr14
          try simp only [Act.put, List.getElem_toArray, List.getElem_cons_zero, List.getElem_cons_succ, List.setIfInBounds_toArray, List.set_cons_zero, List.set_cons_succ]
          refine wpAnyH_take (i := 15) (oi := _) (v := ?zv15) rfl (by kernel_rfl) (by kernel_rfl) (by kernel_rfl) (fun _ _ _ h => h) (Or.inl ⟨by rfl, ?zy15⟩) (by assumption) ?zr15
          case zy15 => (intro w hSw; go_simp <;> with_reducible rfl)
          try simp only [Act.put, List.getElem_toArray, List.getElem_cons_zero, List.getElem_cons_succ, List.setIfInBounds_toArray, List.set_cons_zero, List.set_cons_succ]
          refine wpAnyH_take (i := 16) (oi := _) (v := ?zv16) rfl (by kernel_rfl) (by kernel_rfl) (by kernel_rfl) (fun _ _ _ h => h) (Or.inl ⟨by rfl, ?zy16⟩) (by assumption) ?zr16
          case zy16 => (intro w hSw; go_simp <;> with_reducible rfl)
          try simp only [Act.put, List.getElem_toArray, List.getElem_cons_zero, List.getElem_cons_succ, List.setIfInBounds_toArray, List.set_cons_zero, List.set_cons_succ]
          refine wpAnyH_take (i := 17) (oi := _) (v := ?zv17) rfl (by kernel_rfl) (by kernel_rfl) (by kernel_rfl) (fun _ _ _ h => h) (Or.inl ⟨by rfl, ?zy17⟩) (by assumption) ?zr17
          case zy17 => (intro w hSw; go_simp <;> with_reducible rfl)
          try simp only [Act.put, List.getElem_toArray, List.getElem_cons_zero, List.getElem_cons_succ, List.setIfInBounds_toArray, List.set_cons_zero, List.set_cons_succ]
          refine wpAnyH_take (i := 18) (oi := _) (v := .agg cs2) rfl (by kernel_rfl) (by kernel_rfl) (by kernel_rfl) (fun _ _ _ h => h) (yieldsIf_load_mid (by rfl) 33 _ rfl g2 (k * 24) (by rfl) cs2.toList _ (fun w hSw => hSw.2) Tryd.underlying33 rfl sz2.out) (by assumption) ?zr18
          try simp only [Act.put, List.getElem_toArray, List.getElem_cons_zero, List.getElem_cons_succ, List.setIfInBounds_toArray, List.set_cons_zero, List.set_cons_succ]
          refine wpAnyH_ready (rs := [19]) (by kernel_rfl) (by simp) ?_
          refine AllReadyH.cons (o := _) rfl (fun K hK => ?_) AllReadyH.nil
          go_simp
          refine (SD.out _ B1.out).mono ?_
          rintro e W2 ⟨v2, rfl, hv2, b2⟩
          obtain rfl : v2 = true := by simpa using hv2
          go_wp2_with fail
          have B2 := Lib.hid (B1.out.trans (b2.mono B1.out.size))
          refine hK _ _ (KS.out _ B2.out) (fun hHeld2 => ?_)
          clear hK K b2 hv2
          try simp only [Act.put, List.getElem_toArray, List.getElem_cons_zero, List.getElem_cons_succ, List.setIfInBounds_toArray, List.set_cons_zero, List.set_cons_succ]
          refine wpAnyH_take (i := 20) (oi := _) (v := ?zv20) rfl (by kernel_rfl) (by kernel_rfl) (by kernel_rfl) (fun _ _ _ h => h) (Or.inl ⟨by rfl, ?zy20⟩) (by assumption) ?zr20
          case zy20 => (intro w hSw; go_simp <;> with_reducible rfl)
          try simp only [Act.put, List.getElem_toArray, List.getElem_cons_zero, List.getElem_cons_succ, List.setIfInBounds_toArray, List.set_cons_zero, List.set_cons_succ]
          refine wpAnyH_take (i := 21) (oi := _) (v := ?zv21) rfl (by kernel_rfl) (by kernel_rfl) (by kernel_rfl) (fun _ _ _ h => h) (Or.inl ⟨by rfl, ?zy21⟩) (by assumption) ?zr21
          case zy21 => (intro w hSw; go_simp <;> with_reducible rfl)
          try simp only [Act.put, List.getElem_toArray, List.getElem_cons_zero, List.getElem_cons_succ, List.setIfInBounds_toArray, List.set_cons_zero, List.set_cons_succ]
          refine wpAnyH_done (by kernel_rfl) ?_ _
          clear KS SM SD
          go_wp2_with fail
          go_roundw
          case rel => exact ⟨k + 1, by simp, by omega, B2.out⟩
          case measure => simp [intOf]; omega
    have hk1 : k < l.length := by omega
    have hk2 : k < 12 := by omega
    have klt : (k : Int) < (l.length : Int) := by omega
    have kl2 : (k : Int) < 12 := by omega
    clear hend
    rcases HC.out with rfl | ⟨b, o, rfl, hb, hx⟩
    · exact absurd hk1 (by simp)
    obtain ⟨x, hx0⟩ : ∃ x, l[k]? = some x := ⟨_, List.getElem?_eq_getElem hk1⟩
    obtain ⟨hr, hf, hcs⟩ := hx k x hx0
    have ok := HO.out x (List.mem_of_getElem? hx0)
    obtain ⟨P, fs, cs⟩ := x
    have okp : P.ok := ok
    obtain ⟨Lb, m, hput⟩ := Pac.putA_any P okp
    have CP := Lib.hid (fun W (hW : Below w.heap.size w W) => hput.1 fs cs W (HT.out.keep hW) (hf.keep hW (Nat.le_refl _)) (hcs.keep hW (Nat.le_refl _)))
    have CC := Lib.hid (fun W (hW : Below w.heap.size w W) => Pac.clean_any P fs cs W (hf.keep hW (Nat.le_refl _)) (hcs.keep hW (Nat.le_refl _)) (by have := okp.nf; omega) (by have := okp.nc; omega))
    have KS : Hid (∀ W, Below w.heap.size w W → W.rangeAt b (o + k * 24) (P.v fs cs).toList) := Lib.hid fun W hW j u hj => (hW.cell (by simpa using hb)).trans (hr j u hj)
    have hLd := Lib.hid hput.2
    have sz1 : Hid ((Tryd.prog.info? 33).map (·.size) = some (P.v fs cs).toList.length) := Lib.hid (by kernel_rfl)
    have hszz := Lib.hid (show (strB (Pac.segB S)).size ≤ 100000 by omega)
    generalize P.v fs cs = cs1 at *
    have RX := Lib.hid (KS.out wr hB)
    have HB := Lib.hid hB
    have HP := Lib.hid hP
    replace hS := Lib.hid hS
    replace hLS := Lib.hid hLS
    replace hsl := Lib.hid hsl
    clear hx hx0 hr hf hcs ok hput hP hB HC HO hsz
    generalize hsb : strB (Pac.segB S) = sb at *
    replace hsb := Lib.hid hsb
    go_wp2_with (refine wpList_load_mid rfl 33 (.tmp 25) rfl b (o + k * 24) rfl cs1.toList _ RX.out Tryd.underlying33 rfl sz1.out ?_)
    refine (CP.out _ HB.out).mono ?_
    rintro e w2 ⟨v, rfl, hv, b2⟩
    have B2 := Lib.hid (HB.out.trans (b2.mono HB.out.size))
    have P2 := Lib.hid (HP.out.ext b2)
    have kc := hv.conv (P := Tryd.prog) Tryd.underlying48 Tryd.underlying5 Tryd.underlying9
    obtain ⟨vx, vn, rfl, -, -⟩ := hv
    clear b2 RX HB HP CP
    by_cases hm0 : m = 0
    rotate_left
    · have hm1 : (m == 0) = false := by simpa using hm0
      replace hm0 := Lib.hid hm0
      clear CC KS kc
      go_wp2_with fail
      go_roundw
      case rel => exact ⟨k + 1, S, L, by simp, by omega, by omega, by rw [hsb.out], hS.out, by omega, hLS.out, P2.out, B2.out⟩
      case measure => simp [intOf]; omega
    · subst hm0
      have hgood := Lib.hid (hLd.out rfl)
      have RX2 := Lib.hid (KS.out _ B2.out)
      have hlz : (strB Lb).size ≤ 4099 := by rw [strB_size]; exact (Pac.laid_pos hgood.out).2
      generalize hsl2 : strB Lb = sl at *
      have hss : ∀ W, (Op.stringOp .add sb sl).run Tryd.prog W = .ok (.string (sb ++ sl)) W := fun W => Pac.add_str sb sl (by have := hszz.out; omega) W
      replace hlz := Lib.hid hlz
      have hj : sb ++ sl = strB (Pac.segB (S ++ [(Lb, Pac.cln P)])) := by rw [← hsb.out, ← hsl2, Pac.strB_app, Pac.segB_snoc]
      replace hj := Lib.hid hj
      replace hsl2 := Lib.hid hsl2
      clear hLd KS
      go_wp2_with (refine wpList_load_mid rfl 33 (.tmp 39) rfl b (o + k * 24) rfl cs1.toList _ RX2.out Tryd.underlying33 rfl sz1.out ?_)
      refine (CC.out _ B2.out).mono ?_
      rintro e w4 ⟨fa, ca, rfl, hfa, hca, b4⟩
      have B4 := Lib.hid (B2.out.trans (b4.mono B2.out.size))
      have hn := Lib.hid (ext_alloc w4 (.cells ((Pac.cln P).v fa ca) 33))
      have PC := Lib.hid ((P2.out.ext b4).ext hn.out)
      have RC := Lib.hid ((Pac.Rest.new (b := (Value.slice va L.length vc).ownBlock) hfa hca (fun g hg => P2.out.lt g hg)).ext hn.out)
      have NC := Lib.hid (Blk.new w4 33 ((Pac.cln P).v fa ca))
      have o12 := Lib.hid (And.intro (Pac.fis_one hfa.1) (Pac.ints_one hca.1))
      have hw9 := Lib.hid (Nat.le_trans B4.out.size hn.out.size)
      have hLb : L.length ≤ 4294967297 := by omega
      clear hfa hca b4 CC RX2 P2 B2
      go_wp2_with (first
        | (refine Pac.build_pk rfl 41 rfl (Pac.cln P) fa ca rfl ?_)
        | (at_builtin; refine Pac.append_pk rfl 36 42 rfl w.heap.size (.slice va L.length vc) L ⟨Pac.cln P, fa, ca⟩ w4.heap.size rfl rfl PC.out RC.out NC.out hLb hw9.out o12.out ?_; intro v5 w5 p5 g5; have P5 := Lib.hid p5; have B5 := Lib.hid (B4.out.trans ((hn.out.mono B4.out.size).trans ((Below.refl _ _).grown g5 hw9.out (fun k hk => (PC.out.o.lt k hk).1)))); clear p5 g5))
      go_roundw
      case rel => exact ⟨k + 1, S ++ [(Lb, Pac.cln P)], L ++ [⟨Pac.cln P, fa, ca⟩], by simp, by omega, by omega, by rw [hj.out], by
        intro y hy
        rcases List.mem_append.1 hy with hy | hy
        · exact hS.out y hy
        · obtain rfl := List.mem_singleton.1 hy; exact hgood.out, by simp; omega, by rw [List.map_append, Pac.segP_snoc, hLS.out]; rfl, P5.out, B5.out⟩
      case measure => simp [intOf]; omega

set_option maxRecDepth 100000 in
theorem contract (F : Stop.Interp) (H : Type) (enc : TypeId × Value → H) (W : World) (base : Nat) (args : Array Value) (ds gs : List (DataW H)) (before : List MemPlace)
    (hval : ∀ (j : Nat) t v, Tryd.f5.params[j]? = some t → args[j]? = some v → Value.okWide Tryd.prog W .any base t v)
    (hW : DataW.Whole enc Tryd.prog Tryd.f5.params.toList Rows.packetBackSpec.vars false W args.toList ds gs before)
    
    (hsz : (DataW.weightsEach Tryd.prog (Tryd.f5.params.toList ++ (OpenSpec.ofChange Rows.packetBackSpec).bare.plain.varTypes Tryd.prog) (ds ++ gs)).all (· ≤ reachBytes) = true) (hL : laidMetH Tryd.prog Rows.packetBackRow.laid W) :
    Calls Tryd.prog 5 args W fun e W' => ∃ v, e = .returned v ∧ ((OpenSpec.ofChange Rows.packetBackSpec).at F).post enc Tryd.prog Tryd.f5 false true false false W args v W' := by
  have hW' := hW
  obtain ⟨p, q, hA0, hV, rfl, hfz, hnd⟩ := hW
  have hA : DataW.TrodAll enc Tryd.prog W 0 (fun _ => true) true Tryd.f5.params.toList args.toList ds p := hA0
  rw [Tryd.params5] at hA hval hsz
  obtain ⟨v0, vs0, d0, ds0, p0, q0, hargs, rfl, rfl, h0, r0⟩ := trodAll_cons hA
  obtain ⟨rfl, rfl, rfl⟩ := trodAll_nil r0
  obtain rfl : args = #[v0] := by cases args; simp_all
  obtain ⟨rfl, rfl⟩ := trodVars_none hV
  have k0 := h0
  have lt0 : ∀ x ∈ p0, x.block < W.heap.size := by obtain ⟨m, hm⟩ := k0; exact DataW.trod_lt m _ _ _ hm
  obtain ⟨a0, len0, cap0, rfl⟩ := okWide_slice Tryd.underlying42 (hval 0 42 v0 rfl rfl)
  obtain ⟨z0, w0, s0⟩ : ∃ l : List Pac.Pt, Pac.PtsAt W (.slice a0 len0 cap0) l ∧ ∀ f ∈ l, f.ok := by
    obtain ⟨fuel, hf⟩ := h0
    exact Pac.open_pts hf (fun n hn => by
      have hm := List.all_eq_true.1 hsz n (DataW.weights_mem_each (j := 0) (t := 42) rfl rfl _ hn)
      simpa [reachBytes] using of_decide_eq_true hm)
  clear hA0
  refine (walk a0 len0 cap0 z0 W (tabs_of hL) w0 s0).mono fun e W' ⟨he, bel⟩ => ?_
  subst he
  exact ⟨_, rfl, _, _, _, [], _, [], hW', trodAll_mk1 (shut_bool Tryd.underlying4 _), (trodAll_cons_mk (Below.trod laidOut (by kernel_rfl) (of_decide_eq_true (by kernel_rfl)) k0 bel lt0) trodAll_mk0), rfl, bel.frame _, fun h => by cases h⟩

/-- A world for the witness: the settled one, the tables holding what their initialisers lay. -/
noncomputable def laidWorld (os : Os) : World :=
  { World.holding Tryd.prog os ⟨#[], #[], []⟩ with heap := ((World.holding Tryd.prog os ⟨#[], #[], []⟩).heap.modify 0 (fun
      | .cells _ t frozen => .cells #[.int .u16 1, .int .u16 4, .int .u16 15423] t frozen
      | o => o)) }
theorem laid_met (os : Os) : laidMet Tryd.prog Rows.packetBackRow.laid ((laidWorld os).forCall (fun _ _ => 0) ⟨#[], #[.slice none 0 0], []⟩).memory :=
  laidMet_of_run' 8 (by kernel_rfl) (by kernel_rfl)
theorem reads (os : Os) {H : Type} (enc : TypeId × Value → H) : ∃ places, DataW.whole enc Tryd.prog ((laidWorld os).forCall (fun _ _ => 0) ⟨#[], #[.slice none 0 0], []⟩).memory Tryd.f5.params.toList Rows.packetBackSpec.vars false #[Value.slice none 0 0].toList 8 = some ([.nil], [], places) :=
  ⟨[], by kernel_rfl⟩

set_option maxRecDepth 100000 in
theorem lifted (os : Os) (started : os.Started) (H : Type) (enc : TypeId × Value → H) (F : Stop.Interp) :
    ReturnsInHanded {} Tryd.checked os 5 .any ((OpenSpec.ofChange Rows.packetBackSpec).preRow enc Tryd.prog Tryd.f5 Rows.packetBackRow.domain false Rows.packetBackRow.laid) (((OpenSpec.ofChange Rows.packetBackSpec).at F).post enc Tryd.prog Tryd.f5 false true false false) := by
  obtain ⟨places, hx⟩ := reads os enc
  refine returnsInHanded_of_row (C := Tryd.checked) (s := (OpenSpec.ofChange Rows.packetBackSpec)) own started (by kernel_rfl) Tryd.func5
    (witness_row_at (enc := enc) (C := Tryd.checked) false (laidWorld os) #[.slice none 0 0] rfl (by kernel_rfl) (by kernel_rfl) (by kernel_rfl)
      (OpenSpec.preRow_of_cond 8 hx (by kernel_rfl) (fun k hk => by cases hk) (by kernel_rfl) (laid_met os))) ?_
  intro W base args ds gs before hval hW _ hcnd hsz hL _ _
  exact contract F H enc W base args ds gs before hval hW  hsz hL

theorem said : Rows.PacketBackSaid :=
  OpenClaim.holds_of_cond 5 Tryd.f5 rfl rfl rfl rfl rfl rfl rfl ⟨rfl, rfl, rfl, rfl, rfl⟩ rfl rfl rfl rfl rfl (by kernel_rfl) Tryd.func5 (by kernel_rfl)
    (of_decide_eq_true (by kernel_rfl)) (by unfold Func.isWrapper; first | (rw [if_pos (by decide +kernel)]; kernel_rfl) | (rw [if_neg (by decide +kernel)]; exact ⟨rfl, rfl⟩))
    (fun os started H enc _ F => by rw [OpenClaim.pre_eq_preRow]; exact lifted os started H enc F)

theorem plain (f : FuncId) (fn : Func) (hf : Tryd.pinned.checked.prog.funcNamed "crier/crierlaw16.PacketBack" = some f) (hfn : Tryd.pinned.checked.prog.funcs[f]? = some fn) :
    false = Tryd.pinned.checked.prog.looks [] ∧ ∀ (j : Nat) t, fn.params[j]? = some t → Tryd.pinned.checked.prog.wantsStandIn t = false := by
  obtain rfl : f = 5 := Option.some.inj ((show Tryd.prog.funcNamed "crier/crierlaw16.PacketBack" = some 5 by kernel_rfl).symm.trans hf) |>.symm
  obtain rfl : fn = Tryd.f5 := (Option.some.inj (Tryd.func5.symm.trans hfn)).symm
  refine ⟨by kernel_rfl, fun j t ht => ?_⟩
  rw [Tryd.params5] at ht
  obtain rfl : t = 42 := by have := Array.mem_of_getElem? ht; simpa using this
  exact (show Tryd.prog.wantsStandIn 42 = false by kernel_rfl)

/-- THE CARD. -/
theorem proved : Rows.PacketBackCardSaid :=
  Claim7.holds_tied_plain_at .later [] _ _ _ _ said (fun _ h => by cases h) (by kernel_rfl) (fun _ h => by cases h) packetBack_row_tie rfl ⟨rfl, rfl⟩ (by kernel_rfl) rfl plain (by kernel_rfl)
end Go.Proofs.YtmpklaokgogigaaDoor.packetBack
