/-
  DeviceLast: FOR EVERY INPUT the law returns true and leaves its arguments as they were.
-/
import Derived.Test.YtdljddghbkcddaaDp
import Derived.Test.YtdljddghbkcddaaRows
import Derived.WalkKit
import Derived.Deep.RegionHeld3
import Derived.ProofKit
import Derived.OpenShut
import Derived.ShutString
import Derived.ChangeOld
import Derived.Below
import Derived.SizedLaws
import Derived.Lib.SmallJoins
namespace Go.Proofs.Ytdljddghbkcddaa.deviceLast
open Go.ChangeShapes Go.WideShapes Go.ChangeAt Go.RowKit
open Go.ChangeMaps (open_string shut_string)
set_option linter.unusedVariables false

theorem own : ownKnob Try.prog.godebug = none := by kernel_rfl
theorem laidOut : laidOutB Try.prog = true := by kernel_rfl

theorem new2_any (nm : ByteArray) (w : World) (hn : nm.toList.isEmpty = false) : Calls Try.prog 8 #[.string nm] w fun e w' => NewP nm w e w' ∧ w'.heap.size = w.heap.size + 1 := by
  have hn2 := isE hn
  go_enter Try.func8, Try.ntmps8
  go_wp2
  go_ret2
  exact ⟨⟨rfl, ⟨heap_alloc_new w _, by simpa [itsAtC] using World.ownsRow_nil _ _ _ _, by simp⟩, ext_alloc w _⟩, by simp⟩
set_option maxHeartbeats 16000000 in
set_option maxRecDepth 100000 in
theorem walk (a : Option Addr) (len cap : Nat) (A : List Ac) (w : World) (hA : ActsAt w (.slice a len cap) A) (hG : ∀ f ∈ A, f.good w) :
    Calls Try.prog 4 #[.slice a len cap] w (Yes w) := by
  obtain ⟨a', cap', hv, hl, hc⟩ := hA
  simp only [Value.slice.injEq] at hv
  obtain ⟨rfl, rfl, rfl⟩ := hv
  have hl' : (A.length : Int) ≤ 9223372036854775807 := by omega
  have NW := Lib.hid (new2_any tD w tD_ne)
  obtain ⟨i0, z, hi, hz0, hz1, hz2, hzs⟩ := info49
  replace hi := Lib.hid hi
  replace hz0 := Lib.hid hz0
  replace hz1 := Lib.hid hz1
  replace hz2 := Lib.hid hz2
  replace hzs := Lib.hid hzs
  replace hc := Lib.hid hc
  replace hG := Lib.hid hG
  go_enter Try.func4, Try.ntmps4
  go_wp2_with fail
  refine (NW.out).mono ?_
  rintro e w1 ⟨⟨rfl, t1, b1⟩, z1⟩
  have T1 := Lib.hid (t1.keep (ext_alloc w1 (.cells #[.string tD, .bool false, .slice none 0 0] 31)))
  have X1 := heap_alloc_new w1 (.cells #[.string tD, .bool false, .slice none 0 0] 31)
  have B1 := Lib.hid (b1.alloc b1.size (.cells #[.string tD, .bool false, .slice none 0 0] 31))
  rw [z1] at X1
  replace X1 := Lib.hid X1
  clear t1 b1
  go_wp2_with fail
  replace z1 := Lib.hid z1
  go_loopw [5, 7] (fun ov iv wr => ∃ (k : Nat) (on : Bool) (v vb : Value) (L : List It) (n : Int), iv = .int .i64 (k : Int) ∧ ov = .bool on ∧ Ls w wr A.length k on v vb L n) (fun _ iv _ => A.length - (intOf iv).toNat)
  case atStart => exact ⟨0, false, _, _, [], 0, rfl, rfl, ⟨by omega, by omega, by omega, T1.out, X1.out, by simpa [itsAtC] using World.ownsRow_nil _ _ _ _, B1.out⟩⟩
  case round =>
    obtain ⟨k, on, v, vb, L, n, rfl, rfl, hkl, hk6, hnb, hdv, hbx, hob, hbw⟩ := hrel
    by_cases hlt : k < A.length ∧ k < 60
    · obtain ⟨hlt0, hlt1⟩ := hlt
      obtain ⟨f, hf⟩ : ∃ f, A[k]? = some f := ⟨_, List.getElem?_eq_getElem hlt0⟩
      have gf := hG.out f (List.mem_of_getElem? hf)
      obtain ⟨b0, o0, rfl, hb0, c0, c1⟩ := acts_at hf hbw hc.out
      have ACT := Lib.hid (fun W (hb : Below w.heap.size w W) => (show W.cell? ⟨b0, o0 + k * 2, none⟩ = some (.int .i64 f.k) ∧ W.cell? ⟨b0, o0 + k * 2 + 1, none⟩ = some f.v from by
        obtain ⟨b', o', e', -, d0, d1⟩ := acts_at hf hb hc.out
        simp only [Option.some.injEq, Addr.mk.injEq, and_true] at e'
        obtain ⟨rfl, rfl⟩ := e'
        exact ⟨d0, d1⟩))
      obtain ⟨fk, fv, fl⟩ := f
      obtain ⟨gits, gok, gk⟩ := gf
      simp only at c0 c1 gits gok gk ACT
      obtain ⟨fa, fc, hfv, hfl, -⟩ := id gits
      subst hfv
      have hlt0' : (k : Int) < A.length := by omega
      have hlt1' : (k : Int) < 60 := by omega
      have hfl' : (fl.length : Int) ≤ 140737488351232 := by omega
      replace gits := Lib.hid gits
      replace gok := Lib.hid gok
      replace hf := Lib.hid hf
      replace hdv := Lib.hid hdv
      replace hbx := Lib.hid hbx
      replace hob := Lib.hid hob
      replace hbw := Lib.hid hbw
      clear c0 c1
      obtain ⟨c0, c1⟩ := ACT.out _ (hbw.out.alloc hbw.out.size (.cells #[] 49))
      go_wp2_with (at_builtin; refine wpList_append_its _ rfl (.tmp 31) (.tmp 36) 29 rfl wr.heap.size 49 i0 z Try.underlying29 hi.out hz0.out hzs.out hz1.out hz2.out (.slice (some ⟨wr.heap.size, 0, none⟩) 0 0) fl rfl (World.ownsRow_made wr #[] 0 (Nat.le_refl _) (Nat.zero_le _) (by simp)) (gits.out.keep (hbw.out.alloc hbw.out.size (.cells #[] 49)) (Nat.le_refl _)) (by simp) ?_; intro v2 w2 o2 g2; have b2 : Below wr.heap.size wr w2 := ((Below.refl _ _).alloc (Nat.le_refl _) _).grown g2 (by simp) (fun k hk => (by (have : wr.heap.size = k := by simpa [Value.ownBlock] using hk); omega)); clear g2; obtain ⟨va, vc, rfl⟩ := own_slice o2; have B2 := hbw.out.trans (b2.mono hbw.out.size); obtain ⟨p0, p1⟩ := ACT.out _ B2; have e2 : wr.heap.size ≤ w2.heap.size := b2.size; have T2 := Lib.hid (Tm.start ⟨hkl, hk6, hnb, hdv.out, hbx.out, hob.out, hbw.out⟩ b2 o2); obtain ⟨q0, q1, q2, q3, q4⟩ := T2.out.cells; replace b2 := Lib.hid b2; replace o2 := Lib.hid o2; replace B2 := Lib.hid B2; clear c0 c1)
      · obtain rfl : fk = 0 := by have h := ‹(fk == 0) = true›; simpa using h
        refine (born_any T2.out.dv tD_ne _ fl (T2.out.its hfl) (by omega)).mono ?_
        rintro e w3 ht
        obtain ⟨rfl, v3, T3⟩ := T2.out.take (.inl rfl) ht
        clear ht p0 p1 q0 q1 q2 q3 q4
        obtain ⟨p0, p1⟩ := ACT.out _ (T3.bw.alloc T3.bw.size (.cells #[] 49))
        replace T3 := Lib.hid T3
        go_wp2_with (at_builtin; refine wpList_append_its _ rfl (.tmp 47) (.tmp 52) 29 rfl w3.heap.size 49 i0 z Try.underlying29 hi.out hz0.out hzs.out hz1.out hz2.out (.slice (some ⟨w3.heap.size, 0, none⟩) 0 0) fl rfl (World.ownsRow_made w3 #[] 0 (Nat.le_refl _) (Nat.zero_le _) (by simp)) (gits.out.keep (T3.out.bw.alloc T3.out.bw.size (.cells #[] 49)) (Nat.le_refl _)) (by simp) ?_; intro v4 w4 o4 g4; have b4 : Below w3.heap.size w3 w4 := ((Below.refl _ _).alloc (Nat.le_refl _) _).grown g4 (by simp) (fun k hk => (by (have : w3.heap.size = k := by simpa [Value.ownBlock] using hk); omega)); clear g4; obtain ⟨va4, vc4, rfl⟩ := own_slice o4; obtain ⟨s0, s1, s2, s3, s4⟩ := (T3.out.next b4).cells; have T4 := Lib.hid (T3.out.told b4 o4); obtain ⟨p0, p1⟩ := ACT.out _ T4.out.bw; obtain ⟨u0, u1, u2, u3, u4⟩ := T4.out.cells; replace b4 := Lib.hid b4; replace o4 := Lib.hid o4)
        have TL := Lib.hid T4.out.last
        replace T4 := Lib.hid T4
        go_loopw [9] (fun i wq => ∃ (j : Nat) (l2 : List It), i = .int .i64 (j : Int) ∧ j ≤ fl.length ∧ l2.length = fl.length ∧ (∀ i, j ≤ i → l2[i]? = fl[i]?) ∧ Tl w wq true v3 (.slice va4 fl.length vc4) (.slice va fl.length vc) fl l2 (n + 1)) (fun i _ => fl.length - (intOf i).toNat)
        case atStart => exact ⟨0, fl, rfl, by omega, rfl, fun _ _ => rfl, TL.out⟩
        case round =>
          obtain ⟨j, l2, rfl, hj, hl2, hge, hT⟩ := hrel
          clear TL T4
          by_cases hjl : j < fl.length
          · obtain ⟨x, hx⟩ : ∃ x, l2[j]? = some x := ⟨_, List.getElem?_eq_getElem (by omega)⟩
            have hxs : x.a0.size ≤ 140737488351232 := (gok.out x (List.mem_of_getElem? ((hge j (Nat.le_refl _)).symm.trans hx))).1
            obtain ⟨gl, gc, hva⟩ := own_slice' hT.ol (by omega)
            simp only [Value.slice.injEq] at hva
            obtain ⟨rfl, -, rfl⟩ := hva
            obtain ⟨n0, n1⟩ := name_at (by have := hT.ol; rw [← hl2] at this; exact this) hx rfl
            have hP := Lib.hid (hT.put (by rw [hl2]) hx (x.a0 ++ { data := #[33] }))
            have hjl' : (j : Int) < fl.length := by omega
            replace hT := Lib.hid hT
            replace hx := Lib.hid hx
            replace hge := Lib.hid hge
            replace hl2 := Lib.hid hl2
            go_wp2_with fail
            go_roundw
            case rel => exact ⟨j + 1, _, by simp, by omega, by rw [List.length_set]; exact hl2.out, fun i hi => by rw [List.getElem?_set_ne (by omega)]; exact hge.out i (by omega), hP.out⟩
            case measure => simp [intOf]; omega
          · have hjl' : (fl.length : Int) ≤ j := by omega
            have VV := Lib.hid (fun W (hb : Below wr.heap.size wr W) => view_any (hT.dv.keep hb) tD_ne)
            have IB := Lib.hid (fun W (hb : Below wr.heap.size wr W) => (ItsAt.of_own hT.ob hT.dv.len).keep hb (Nat.le_refl _))
            have HL := hT.dv.len
            have KO := Lib.hid (fun W (hb : Below wr.heap.size wr W) => (show W.cell? ⟨w.heap.size + 1, 0, none⟩ = some (.string tD) ∧ W.cell? ⟨w.heap.size + 1, 1, none⟩ = some (.bool true) ∧ W.cell? ⟨w.heap.size + 1, 2, none⟩ = some (.slice va4 fl.length vc4) ∧ Below wr.heap.size wr W from ⟨(box_cells (hT.next hb).bx).1, (box_cells (hT.next hb).bx).2.1, (box_cells (hT.next hb).bx).2.2, hb⟩))
            replace hT := Lib.hid hT
            replace hge := Lib.hid hge
            replace hl2 := Lib.hid hl2
            go_wp2_with fail
            go_region_held3 (fun W => W.cell? ⟨w.heap.size + 1, 0, none⟩ = some (.string tD) ∧ W.cell? ⟨w.heap.size + 1, 1, none⟩ = some (.bool true) ∧ W.cell? ⟨w.heap.size + 1, 2, none⟩ = some (.slice va4 fl.length vc4) ∧ Below wr.heap.size wr W)
              (exact KO.out _ (by first | exact Below.refl _ _ | exact ext_drew _ | assumption))
              (first
                | (go_at_call 19; refine (VV.out _ (‹_ ∧ _ ∧ _ ∧ Below _ _ _›).2.2.2).mono ?_; rintro e w4 ⟨v4, rfl, o4, b4⟩; obtain ⟨va5, vc5, rfl⟩ := own_slice o4; have BB := ext_trans (‹_ ∧ _ ∧ _ ∧ Below _ _ _›).2.2.2 b4; have I4 := ItsAt.of_own o4 HL; replace o4 := Lib.hid o4; replace b4 := Lib.hid b4)
                | (go_at_call 18; refine (same_eq _ _ _ _ fl _ (by first | exact I4 | exact I4.keep (ext_drew _) (Nat.le_refl _)) (IB.out _ (‹_ ∧ _ ∧ _ ∧ Below _ _ _›).2.2.2)).mono ?_; rintro e w6 ⟨rfl, b6⟩; have BB6 := ext_trans (‹_ ∧ _ ∧ _ ∧ Below _ _ _›).2.2.2 b6; clear b6))
            all_goals
              have b7 := Lib.hid (‹_ ∧ _ ∧ _ ∧ Below wr.heap.size wr _›).2.2.2
              have hN := Lib.hid (hT.out.next b7.out)
              go_wp2_with fail
              go_roundw
              case rel => exact ⟨k + 1, true, v3, (.slice va4 fl.length vc4), fl, (n + 1), by simp, rfl, ⟨by omega, by omega, by omega, hN.out.dv, hN.out.bx, hN.out.ob, hN.out.bw⟩⟩
              case measure => simp [intOf]; omega
      · obtain rfl : fk = 1 := by have h := ‹(fk == 1) = true›; simpa using h
        cases on
        · refine (told_off T2.out.dv tD_ne va fl.length vc).mono ?_
          rintro e w3 ht
          obtain ⟨rfl, v3, T3⟩ := T2.out.take (.inr rfl) ht
          clear ht p0 p1 q0 q1 q2 q3 q4
          obtain ⟨p0, p1⟩ := ACT.out _ T3.bw
          obtain ⟨u0, u1, u2, u3, u4⟩ := T3.cells
          replace T3 := Lib.hid T3
          go_wp2_with fail
          have TL := Lib.hid T3.out.last
          replace T3 := Lib.hid T3
          go_loopw [9] (fun i wq => ∃ (j : Nat) (l2 : List It), i = .int .i64 (j : Int) ∧ j ≤ fl.length ∧ l2.length = fl.length ∧ (∀ i, j ≤ i → l2[i]? = fl[i]?) ∧ Tl w wq false v3 vb (.slice va fl.length vc) L l2 n) (fun i _ => fl.length - (intOf i).toNat)
          case atStart => exact ⟨0, fl, rfl, by omega, rfl, fun _ _ => rfl, TL.out⟩
          case round =>
            obtain ⟨j, l2, rfl, hj, hl2, hge, hT⟩ := hrel
            clear TL T3
            by_cases hjl : j < fl.length
            · obtain ⟨x, hx⟩ : ∃ x, l2[j]? = some x := ⟨_, List.getElem?_eq_getElem (by omega)⟩
              have hxs : x.a0.size ≤ 140737488351232 := (gok.out x (List.mem_of_getElem? ((hge j (Nat.le_refl _)).symm.trans hx))).1
              obtain ⟨gl, gc, hva⟩ := own_slice' hT.ol (by omega)
              simp only [Value.slice.injEq] at hva
              obtain ⟨rfl, -, rfl⟩ := hva
              obtain ⟨n0, n1⟩ := name_at (by have := hT.ol; rw [← hl2] at this; exact this) hx rfl
              have hP := Lib.hid (hT.put (by rw [hl2]) hx (x.a0 ++ { data := #[33] }))
              have hjl' : (j : Int) < fl.length := by omega
              replace hT := Lib.hid hT
              replace hx := Lib.hid hx
              replace hge := Lib.hid hge
              replace hl2 := Lib.hid hl2
              go_wp2_with fail
              go_roundw
              case rel => exact ⟨j + 1, _, by simp, by omega, by rw [List.length_set]; exact hl2.out, fun i hi => by rw [List.getElem?_set_ne (by omega)]; exact hge.out i (by omega), hP.out⟩
              case measure => simp [intOf]; omega
            · have hjl' : (fl.length : Int) ≤ j := by omega
              have VV := Lib.hid (fun W (hb : Below wr.heap.size wr W) => view_any (hT.dv.keep hb) tD_ne)
              have IB := Lib.hid (fun W (hb : Below wr.heap.size wr W) => (ItsAt.of_own hT.ob hT.dv.len).keep hb (Nat.le_refl _))
              have HL := hT.dv.len
              have KO := Lib.hid (fun W (hb : Below wr.heap.size wr W) => (show W.cell? ⟨w.heap.size + 1, 0, none⟩ = some (.string tD) ∧ W.cell? ⟨w.heap.size + 1, 1, none⟩ = some (.bool false) ∧ W.cell? ⟨w.heap.size + 1, 2, none⟩ = some vb ∧ Below wr.heap.size wr W from ⟨(box_cells (hT.next hb).bx).1, (box_cells (hT.next hb).bx).2.1, (box_cells (hT.next hb).bx).2.2, hb⟩))
              replace hT := Lib.hid hT
              replace hge := Lib.hid hge
              replace hl2 := Lib.hid hl2
              go_wp2_with fail
              go_region_held3 (fun W => W.cell? ⟨w.heap.size + 1, 0, none⟩ = some (.string tD) ∧ W.cell? ⟨w.heap.size + 1, 1, none⟩ = some (.bool false) ∧ W.cell? ⟨w.heap.size + 1, 2, none⟩ = some vb ∧ Below wr.heap.size wr W)
                (exact KO.out _ (by first | exact Below.refl _ _ | exact ext_drew _ | assumption))
                (first
                  | (go_at_call 19; refine (VV.out _ (‹_ ∧ _ ∧ _ ∧ Below _ _ _›).2.2.2).mono ?_; rintro e w4 ⟨v4, rfl, o4, b4⟩; obtain ⟨va5, vc5, rfl⟩ := own_slice o4; have BB := ext_trans (‹_ ∧ _ ∧ _ ∧ Below _ _ _›).2.2.2 b4; have I4 := ItsAt.of_own o4 HL; replace o4 := Lib.hid o4; replace b4 := Lib.hid b4)
                  | (go_at_call 18; refine (same_eq _ _ _ _ L _ (by first | exact I4 | exact I4.keep (ext_drew _) (Nat.le_refl _)) (IB.out _ (‹_ ∧ _ ∧ _ ∧ Below _ _ _›).2.2.2)).mono ?_; rintro e w6 ⟨rfl, b6⟩; have BB6 := ext_trans (‹_ ∧ _ ∧ _ ∧ Below _ _ _›).2.2.2 b6; clear b6))
              all_goals
                have b7 := Lib.hid (‹_ ∧ _ ∧ _ ∧ Below wr.heap.size wr _›).2.2.2
                have hN := Lib.hid (hT.out.next b7.out)
                go_wp2_with fail
                go_roundw
                case rel => exact ⟨k + 1, false, v3, vb, L, n, by simp, rfl, ⟨by omega, by omega, by omega, hN.out.dv, hN.out.bx, hN.out.ob, hN.out.bw⟩⟩
                case measure => simp [intOf]; omega
        · refine (told_any T2.out.dv tD_ne _ fl (T2.out.its hfl)).mono ?_
          rintro e w3 ht
          obtain ⟨rfl, v3, T3⟩ := T2.out.take (.inl rfl) ht
          clear ht p0 p1 q0 q1 q2 q3 q4
          obtain ⟨p0, p1⟩ := ACT.out _ (T3.bw.alloc T3.bw.size (.cells #[] 49))
          replace T3 := Lib.hid T3
          go_wp2_with (at_builtin; refine wpList_append_its _ rfl (.tmp 65) (.tmp 70) 29 rfl w3.heap.size 49 i0 z Try.underlying29 hi.out hz0.out hzs.out hz1.out hz2.out (.slice (some ⟨w3.heap.size, 0, none⟩) 0 0) fl rfl (World.ownsRow_made w3 #[] 0 (Nat.le_refl _) (Nat.zero_le _) (by simp)) (gits.out.keep (T3.out.bw.alloc T3.out.bw.size (.cells #[] 49)) (Nat.le_refl _)) (by simp) ?_; intro v4 w4 o4 g4; have b4 : Below w3.heap.size w3 w4 := ((Below.refl _ _).alloc (Nat.le_refl _) _).grown g4 (by simp) (fun k hk => (by (have : w3.heap.size = k := by simpa [Value.ownBlock] using hk); omega)); clear g4; obtain ⟨va4, vc4, rfl⟩ := own_slice o4; obtain ⟨s0, s1, s2, s3, s4⟩ := (T3.out.next b4).cells; have T4 := Lib.hid (T3.out.told b4 o4); obtain ⟨p0, p1⟩ := ACT.out _ T4.out.bw; obtain ⟨u0, u1, u2, u3, u4⟩ := T4.out.cells; replace b4 := Lib.hid b4; replace o4 := Lib.hid o4)
          have TL := Lib.hid T4.out.last
          replace T4 := Lib.hid T4
          go_loopw [9] (fun i wq => ∃ (j : Nat) (l2 : List It), i = .int .i64 (j : Int) ∧ j ≤ fl.length ∧ l2.length = fl.length ∧ (∀ i, j ≤ i → l2[i]? = fl[i]?) ∧ Tl w wq true v3 (.slice va4 fl.length vc4) (.slice va fl.length vc) fl l2 n) (fun i _ => fl.length - (intOf i).toNat)
          case atStart => exact ⟨0, fl, rfl, by omega, rfl, fun _ _ => rfl, TL.out⟩
          case round =>
            obtain ⟨j, l2, rfl, hj, hl2, hge, hT⟩ := hrel
            clear TL T4
            by_cases hjl : j < fl.length
            · obtain ⟨x, hx⟩ : ∃ x, l2[j]? = some x := ⟨_, List.getElem?_eq_getElem (by omega)⟩
              have hxs : x.a0.size ≤ 140737488351232 := (gok.out x (List.mem_of_getElem? ((hge j (Nat.le_refl _)).symm.trans hx))).1
              obtain ⟨gl, gc, hva⟩ := own_slice' hT.ol (by omega)
              simp only [Value.slice.injEq] at hva
              obtain ⟨rfl, -, rfl⟩ := hva
              obtain ⟨n0, n1⟩ := name_at (by have := hT.ol; rw [← hl2] at this; exact this) hx rfl
              have hP := Lib.hid (hT.put (by rw [hl2]) hx (x.a0 ++ { data := #[33] }))
              have hjl' : (j : Int) < fl.length := by omega
              replace hT := Lib.hid hT
              replace hx := Lib.hid hx
              replace hge := Lib.hid hge
              replace hl2 := Lib.hid hl2
              go_wp2_with fail
              go_roundw
              case rel => exact ⟨j + 1, _, by simp, by omega, by rw [List.length_set]; exact hl2.out, fun i hi => by rw [List.getElem?_set_ne (by omega)]; exact hge.out i (by omega), hP.out⟩
              case measure => simp [intOf]; omega
            · have hjl' : (fl.length : Int) ≤ j := by omega
              have VV := Lib.hid (fun W (hb : Below wr.heap.size wr W) => view_any (hT.dv.keep hb) tD_ne)
              have IB := Lib.hid (fun W (hb : Below wr.heap.size wr W) => (ItsAt.of_own hT.ob hT.dv.len).keep hb (Nat.le_refl _))
              have HL := hT.dv.len
              have KO := Lib.hid (fun W (hb : Below wr.heap.size wr W) => (show W.cell? ⟨w.heap.size + 1, 0, none⟩ = some (.string tD) ∧ W.cell? ⟨w.heap.size + 1, 1, none⟩ = some (.bool true) ∧ W.cell? ⟨w.heap.size + 1, 2, none⟩ = some (.slice va4 fl.length vc4) ∧ Below wr.heap.size wr W from ⟨(box_cells (hT.next hb).bx).1, (box_cells (hT.next hb).bx).2.1, (box_cells (hT.next hb).bx).2.2, hb⟩))
              replace hT := Lib.hid hT
              replace hge := Lib.hid hge
              replace hl2 := Lib.hid hl2
              go_wp2_with fail
              go_region_held3 (fun W => W.cell? ⟨w.heap.size + 1, 0, none⟩ = some (.string tD) ∧ W.cell? ⟨w.heap.size + 1, 1, none⟩ = some (.bool true) ∧ W.cell? ⟨w.heap.size + 1, 2, none⟩ = some (.slice va4 fl.length vc4) ∧ Below wr.heap.size wr W)
                (exact KO.out _ (by first | exact Below.refl _ _ | exact ext_drew _ | assumption))
                (first
                  | (go_at_call 19; refine (VV.out _ (‹_ ∧ _ ∧ _ ∧ Below _ _ _›).2.2.2).mono ?_; rintro e w4 ⟨v4, rfl, o4, b4⟩; obtain ⟨va5, vc5, rfl⟩ := own_slice o4; have BB := ext_trans (‹_ ∧ _ ∧ _ ∧ Below _ _ _›).2.2.2 b4; have I4 := ItsAt.of_own o4 HL; replace o4 := Lib.hid o4; replace b4 := Lib.hid b4)
                  | (go_at_call 18; refine (same_eq _ _ _ _ fl _ (by first | exact I4 | exact I4.keep (ext_drew _) (Nat.le_refl _)) (IB.out _ (‹_ ∧ _ ∧ _ ∧ Below _ _ _›).2.2.2)).mono ?_; rintro e w6 ⟨rfl, b6⟩; have BB6 := ext_trans (‹_ ∧ _ ∧ _ ∧ Below _ _ _›).2.2.2 b6; clear b6))
              all_goals
                have b7 := Lib.hid (‹_ ∧ _ ∧ _ ∧ Below wr.heap.size wr _›).2.2.2
                have hN := Lib.hid (hT.out.next b7.out)
                go_wp2_with fail
                go_roundw
                case rel => exact ⟨k + 1, true, v3, (.slice va4 fl.length vc4), fl, n, by simp, rfl, ⟨by omega, by omega, by omega, hN.out.dv, hN.out.bx, hN.out.ob, hN.out.bw⟩⟩
                case measure => simp [intOf]; omega
      · obtain rfl : fk = 2 := by have h := ‹(fk == 2) = true›; simpa using h
        cases on
        · refine (dies_off T2.out.dv tD_ne).mono ?_
          rintro e w3 ht
          obtain ⟨rfl, v3, T3⟩ := T2.out.take (.inr rfl) ht
          clear ht p0 p1 q0 q1 q2 q3 q4
          obtain ⟨u0, u1, u2, u3, u4⟩ := T3.cells
          replace T3 := Lib.hid T3
          go_wp2_with fail
          have TL := Lib.hid T3.out.last
          replace T3 := Lib.hid T3
          go_loopw [9] (fun i wq => ∃ (j : Nat) (l2 : List It), i = .int .i64 (j : Int) ∧ j ≤ fl.length ∧ l2.length = fl.length ∧ (∀ i, j ≤ i → l2[i]? = fl[i]?) ∧ Tl w wq false v3 vb (.slice va fl.length vc) L l2 n) (fun i _ => fl.length - (intOf i).toNat)
          case atStart => exact ⟨0, fl, rfl, by omega, rfl, fun _ _ => rfl, TL.out⟩
          case round =>
            obtain ⟨j, l2, rfl, hj, hl2, hge, hT⟩ := hrel
            clear TL T3
            by_cases hjl : j < fl.length
            · obtain ⟨x, hx⟩ : ∃ x, l2[j]? = some x := ⟨_, List.getElem?_eq_getElem (by omega)⟩
              have hxs : x.a0.size ≤ 140737488351232 := (gok.out x (List.mem_of_getElem? ((hge j (Nat.le_refl _)).symm.trans hx))).1
              obtain ⟨gl, gc, hva⟩ := own_slice' hT.ol (by omega)
              simp only [Value.slice.injEq] at hva
              obtain ⟨rfl, -, rfl⟩ := hva
              obtain ⟨n0, n1⟩ := name_at (by have := hT.ol; rw [← hl2] at this; exact this) hx rfl
              have hP := Lib.hid (hT.put (by rw [hl2]) hx (x.a0 ++ { data := #[33] }))
              have hjl' : (j : Int) < fl.length := by omega
              replace hT := Lib.hid hT
              replace hx := Lib.hid hx
              replace hge := Lib.hid hge
              replace hl2 := Lib.hid hl2
              go_wp2_with fail
              go_roundw
              case rel => exact ⟨j + 1, _, by simp, by omega, by rw [List.length_set]; exact hl2.out, fun i hi => by rw [List.getElem?_set_ne (by omega)]; exact hge.out i (by omega), hP.out⟩
              case measure => simp [intOf]; omega
            · have hjl' : (fl.length : Int) ≤ j := by omega
              have VV := Lib.hid (fun W (hb : Below wr.heap.size wr W) => view_any (hT.dv.keep hb) tD_ne)
              have IB := Lib.hid (fun W (hb : Below wr.heap.size wr W) => (ItsAt.of_own hT.ob hT.dv.len).keep hb (Nat.le_refl _))
              have HL := hT.dv.len
              have KO := Lib.hid (fun W (hb : Below wr.heap.size wr W) => (show W.cell? ⟨w.heap.size + 1, 0, none⟩ = some (.string tD) ∧ W.cell? ⟨w.heap.size + 1, 1, none⟩ = some (.bool false) ∧ W.cell? ⟨w.heap.size + 1, 2, none⟩ = some vb ∧ Below wr.heap.size wr W from ⟨(box_cells (hT.next hb).bx).1, (box_cells (hT.next hb).bx).2.1, (box_cells (hT.next hb).bx).2.2, hb⟩))
              replace hT := Lib.hid hT
              replace hge := Lib.hid hge
              replace hl2 := Lib.hid hl2
              go_wp2_with fail
              go_region_held3 (fun W => W.cell? ⟨w.heap.size + 1, 0, none⟩ = some (.string tD) ∧ W.cell? ⟨w.heap.size + 1, 1, none⟩ = some (.bool false) ∧ W.cell? ⟨w.heap.size + 1, 2, none⟩ = some vb ∧ Below wr.heap.size wr W)
                (exact KO.out _ (by first | exact Below.refl _ _ | exact ext_drew _ | assumption))
                (first
                  | (go_at_call 19; refine (VV.out _ (‹_ ∧ _ ∧ _ ∧ Below _ _ _›).2.2.2).mono ?_; rintro e w4 ⟨v4, rfl, o4, b4⟩; obtain ⟨va5, vc5, rfl⟩ := own_slice o4; have BB := ext_trans (‹_ ∧ _ ∧ _ ∧ Below _ _ _›).2.2.2 b4; have I4 := ItsAt.of_own o4 HL; replace o4 := Lib.hid o4; replace b4 := Lib.hid b4)
                  | (go_at_call 18; refine (same_eq _ _ _ _ L _ (by first | exact I4 | exact I4.keep (ext_drew _) (Nat.le_refl _)) (IB.out _ (‹_ ∧ _ ∧ _ ∧ Below _ _ _›).2.2.2)).mono ?_; rintro e w6 ⟨rfl, b6⟩; have BB6 := ext_trans (‹_ ∧ _ ∧ _ ∧ Below _ _ _›).2.2.2 b6; clear b6))
              all_goals
                have b7 := Lib.hid (‹_ ∧ _ ∧ _ ∧ Below wr.heap.size wr _›).2.2.2
                have hN := Lib.hid (hT.out.next b7.out)
                go_wp2_with fail
                go_roundw
                case rel => exact ⟨k + 1, false, v3, vb, L, n, by simp, rfl, ⟨by omega, by omega, by omega, hN.out.dv, hN.out.bx, hN.out.ob, hN.out.bw⟩⟩
                case measure => simp [intOf]; omega
        · refine (dies_on T2.out.dv tD_ne).mono ?_
          rintro e w3 ht
          obtain ⟨rfl, v3, T3⟩ := T2.out.take (.inr rfl) ht
          clear ht p0 p1 q0 q1 q2 q3 q4
          obtain ⟨u0, u1, u2, u3, u4⟩ := T3.cells
          replace T3 := Lib.hid T3
          go_wp2_with fail
          have TL := Lib.hid T3.out.last
          replace T3 := Lib.hid T3
          go_loopw [9] (fun i wq => ∃ (j : Nat) (l2 : List It), i = .int .i64 (j : Int) ∧ j ≤ fl.length ∧ l2.length = fl.length ∧ (∀ i, j ≤ i → l2[i]? = fl[i]?) ∧ Tl w wq false v3 vb (.slice va fl.length vc) L l2 n) (fun i _ => fl.length - (intOf i).toNat)
          case atStart => exact ⟨0, fl, rfl, by omega, rfl, fun _ _ => rfl, TL.out⟩
          case round =>
            obtain ⟨j, l2, rfl, hj, hl2, hge, hT⟩ := hrel
            clear TL T3
            by_cases hjl : j < fl.length
            · obtain ⟨x, hx⟩ : ∃ x, l2[j]? = some x := ⟨_, List.getElem?_eq_getElem (by omega)⟩
              have hxs : x.a0.size ≤ 140737488351232 := (gok.out x (List.mem_of_getElem? ((hge j (Nat.le_refl _)).symm.trans hx))).1
              obtain ⟨gl, gc, hva⟩ := own_slice' hT.ol (by omega)
              simp only [Value.slice.injEq] at hva
              obtain ⟨rfl, -, rfl⟩ := hva
              obtain ⟨n0, n1⟩ := name_at (by have := hT.ol; rw [← hl2] at this; exact this) hx rfl
              have hP := Lib.hid (hT.put (by rw [hl2]) hx (x.a0 ++ { data := #[33] }))
              have hjl' : (j : Int) < fl.length := by omega
              replace hT := Lib.hid hT
              replace hx := Lib.hid hx
              replace hge := Lib.hid hge
              replace hl2 := Lib.hid hl2
              go_wp2_with fail
              go_roundw
              case rel => exact ⟨j + 1, _, by simp, by omega, by rw [List.length_set]; exact hl2.out, fun i hi => by rw [List.getElem?_set_ne (by omega)]; exact hge.out i (by omega), hP.out⟩
              case measure => simp [intOf]; omega
            · have hjl' : (fl.length : Int) ≤ j := by omega
              have VV := Lib.hid (fun W (hb : Below wr.heap.size wr W) => view_any (hT.dv.keep hb) tD_ne)
              have IB := Lib.hid (fun W (hb : Below wr.heap.size wr W) => (ItsAt.of_own hT.ob hT.dv.len).keep hb (Nat.le_refl _))
              have HL := hT.dv.len
              have KO := Lib.hid (fun W (hb : Below wr.heap.size wr W) => (show W.cell? ⟨w.heap.size + 1, 0, none⟩ = some (.string tD) ∧ W.cell? ⟨w.heap.size + 1, 1, none⟩ = some (.bool false) ∧ W.cell? ⟨w.heap.size + 1, 2, none⟩ = some vb ∧ Below wr.heap.size wr W from ⟨(box_cells (hT.next hb).bx).1, (box_cells (hT.next hb).bx).2.1, (box_cells (hT.next hb).bx).2.2, hb⟩))
              replace hT := Lib.hid hT
              replace hge := Lib.hid hge
              replace hl2 := Lib.hid hl2
              go_wp2_with fail
              go_region_held3 (fun W => W.cell? ⟨w.heap.size + 1, 0, none⟩ = some (.string tD) ∧ W.cell? ⟨w.heap.size + 1, 1, none⟩ = some (.bool false) ∧ W.cell? ⟨w.heap.size + 1, 2, none⟩ = some vb ∧ Below wr.heap.size wr W)
                (exact KO.out _ (by first | exact Below.refl _ _ | exact ext_drew _ | assumption))
                (first
                  | (go_at_call 19; refine (VV.out _ (‹_ ∧ _ ∧ _ ∧ Below _ _ _›).2.2.2).mono ?_; rintro e w4 ⟨v4, rfl, o4, b4⟩; obtain ⟨va5, vc5, rfl⟩ := own_slice o4; have BB := ext_trans (‹_ ∧ _ ∧ _ ∧ Below _ _ _›).2.2.2 b4; have I4 := ItsAt.of_own o4 HL; replace o4 := Lib.hid o4; replace b4 := Lib.hid b4)
                  | (go_at_call 18; refine (same_eq _ _ _ _ L _ (by first | exact I4 | exact I4.keep (ext_drew _) (Nat.le_refl _)) (IB.out _ (‹_ ∧ _ ∧ _ ∧ Below _ _ _›).2.2.2)).mono ?_; rintro e w6 ⟨rfl, b6⟩; have BB6 := ext_trans (‹_ ∧ _ ∧ _ ∧ Below _ _ _›).2.2.2 b6; clear b6))
              all_goals
                have b7 := Lib.hid (‹_ ∧ _ ∧ _ ∧ Below wr.heap.size wr _›).2.2.2
                have hN := Lib.hid (hT.out.next b7.out)
                go_wp2_with fail
                go_roundw
                case rel => exact ⟨k + 1, false, v3, vb, L, n, by simp, rfl, ⟨by omega, by omega, by omega, hN.out.dv, hN.out.bx, hN.out.ob, hN.out.bw⟩⟩
                case measure => simp [intOf]; omega
      · have TL := Lib.hid T2.out.last
        replace T2 := Lib.hid T2
        go_loopw [9] (fun i wq => ∃ (j : Nat) (l2 : List It), i = .int .i64 (j : Int) ∧ j ≤ fl.length ∧ l2.length = fl.length ∧ (∀ i, j ≤ i → l2[i]? = fl[i]?) ∧ Tl w wq on v vb (.slice va fl.length vc) L l2 n) (fun i _ => fl.length - (intOf i).toNat)
        case atStart => exact ⟨0, fl, rfl, by omega, rfl, fun _ _ => rfl, TL.out⟩
        case round =>
          obtain ⟨j, l2, rfl, hj, hl2, hge, hT⟩ := hrel
          clear TL T2
          by_cases hjl : j < fl.length
          · obtain ⟨x, hx⟩ : ∃ x, l2[j]? = some x := ⟨_, List.getElem?_eq_getElem (by omega)⟩
            have hxs : x.a0.size ≤ 140737488351232 := (gok.out x (List.mem_of_getElem? ((hge j (Nat.le_refl _)).symm.trans hx))).1
            obtain ⟨gl, gc, hva⟩ := own_slice' hT.ol (by omega)
            simp only [Value.slice.injEq] at hva
            obtain ⟨rfl, -, rfl⟩ := hva
            obtain ⟨n0, n1⟩ := name_at (by have := hT.ol; rw [← hl2] at this; exact this) hx rfl
            have hP := Lib.hid (hT.put (by rw [hl2]) hx (x.a0 ++ { data := #[33] }))
            have hjl' : (j : Int) < fl.length := by omega
            replace hT := Lib.hid hT
            replace hx := Lib.hid hx
            replace hge := Lib.hid hge
            replace hl2 := Lib.hid hl2
            go_wp2_with fail
            go_roundw
            case rel => exact ⟨j + 1, _, by simp, by omega, by rw [List.length_set]; exact hl2.out, fun i hi => by rw [List.getElem?_set_ne (by omega)]; exact hge.out i (by omega), hP.out⟩
            case measure => simp [intOf]; omega
          · have hjl' : (fl.length : Int) ≤ j := by omega
            have VV := Lib.hid (fun W (hb : Below wr.heap.size wr W) => view_any (hT.dv.keep hb) tD_ne)
            have IB := Lib.hid (fun W (hb : Below wr.heap.size wr W) => (ItsAt.of_own hT.ob hT.dv.len).keep hb (Nat.le_refl _))
            have HL := hT.dv.len
            have KO := Lib.hid (fun W (hb : Below wr.heap.size wr W) => (show W.cell? ⟨w.heap.size + 1, 0, none⟩ = some (.string tD) ∧ W.cell? ⟨w.heap.size + 1, 1, none⟩ = some (.bool on) ∧ W.cell? ⟨w.heap.size + 1, 2, none⟩ = some vb ∧ Below wr.heap.size wr W from ⟨(box_cells (hT.next hb).bx).1, (box_cells (hT.next hb).bx).2.1, (box_cells (hT.next hb).bx).2.2, hb⟩))
            replace hT := Lib.hid hT
            replace hge := Lib.hid hge
            replace hl2 := Lib.hid hl2
            go_wp2_with fail
            go_region_held3 (fun W => W.cell? ⟨w.heap.size + 1, 0, none⟩ = some (.string tD) ∧ W.cell? ⟨w.heap.size + 1, 1, none⟩ = some (.bool on) ∧ W.cell? ⟨w.heap.size + 1, 2, none⟩ = some vb ∧ Below wr.heap.size wr W)
              (exact KO.out _ (by first | exact Below.refl _ _ | exact ext_drew _ | assumption))
              (first
                | (go_at_call 19; refine (VV.out _ (‹_ ∧ _ ∧ _ ∧ Below _ _ _›).2.2.2).mono ?_; rintro e w4 ⟨v4, rfl, o4, b4⟩; obtain ⟨va5, vc5, rfl⟩ := own_slice o4; have BB := ext_trans (‹_ ∧ _ ∧ _ ∧ Below _ _ _›).2.2.2 b4; have I4 := ItsAt.of_own o4 HL; replace o4 := Lib.hid o4; replace b4 := Lib.hid b4)
                | (go_at_call 18; refine (same_eq _ _ _ _ L _ (by first | exact I4 | exact I4.keep (ext_drew _) (Nat.le_refl _)) (IB.out _ (‹_ ∧ _ ∧ _ ∧ Below _ _ _›).2.2.2)).mono ?_; rintro e w6 ⟨rfl, b6⟩; have BB6 := ext_trans (‹_ ∧ _ ∧ _ ∧ Below _ _ _›).2.2.2 b6; clear b6))
            all_goals
              have b7 := Lib.hid (‹_ ∧ _ ∧ _ ∧ Below wr.heap.size wr _›).2.2.2
              have hN := Lib.hid (hT.out.next b7.out)
              go_wp2_with fail
              go_roundw
              case rel => exact ⟨k + 1, on, v, vb, L, n, by simp, rfl, ⟨by omega, by omega, by omega, hN.out.dv, hN.out.bx, hN.out.ob, hN.out.bw⟩⟩
              case measure => simp [intOf]; omega
    · replace hdv := Lib.hid hdv
      replace hbx := Lib.hid hbx
      replace hob := Lib.hid hob
      replace hbw := Lib.hid hbw
      have hend : ((k : Int) < A.length) = False ∨ (((k : Int) < A.length) = True ∧ ((k : Int) < 60) = False) := by
        by_cases h1 : k < A.length
        · right; exact ⟨by simp; omega, by simp; omega⟩
        · left; simp; omega
      rcases hend with h1 | ⟨h1, h2⟩
      · have h1' : (A.length : Int) ≤ k := by simp at h1; omega
        clear h1
        replace hlt := Lib.hid hlt
        go_wp2_with fail
        refine (awake_any _).mono ?_
        rintro e w7 ⟨rfl, b7⟩
        go_wp2_with fail
        go_ret
        exact ⟨rfl, ext_trans hbw.out b7⟩
      · have h1' : (k : Int) < A.length := by simp at h1; omega
        have h2' : (60 : Int) ≤ k := by simp at h2; omega
        clear h1 h2
        replace hlt := Lib.hid hlt
        go_wp2_with fail
        refine (awake_any _).mono ?_
        rintro e w7 ⟨rfl, b7⟩
        go_wp2_with fail
        go_ret
        exact ⟨rfl, ext_trans hbw.out b7⟩

set_option maxRecDepth 100000 in
theorem lifted (os : Os) (started : os.Started) (H : Type) (enc : TypeId × Value → H) :
    ReturnsInHanded {} Try.checked os 4 .any (Rows.deviceLastSpec.pre6 enc Try.prog Try.f4 Rows.deviceLastRow.domain false) (Rows.deviceLastSpec.post enc Try.prog Try.f4 false true false false) := by
  refine returnsInHanded_of_change_sized (C := Try.checked) own started (by kernel_rfl) Try.func4
    (ChangeSpec.witness6 (enc := enc) (C := Try.checked) false ⟨#[], #[.slice none 0 0], []⟩ 8 (by kernel_rfl) (by kernel_rfl) (by kernel_rfl) (by kernel_rfl)) ?_
  intro W base args ds gs before hval0 hW hcnd hsz0 _
  have hsz : (DataW.weightsEach Try.prog (Try.f4.params.toList ++ Rows.deviceLastSpec.plain.varTypes Try.prog) (ds ++ gs)).all (· ≤ reachBytes) = true := hsz0
  have hval : ∀ (j : Nat) t v, Try.f4.params[j]? = some t → args[j]? = some v → Value.okWide Try.prog W .any base t v := hval0
  have hW' := hW
  obtain ⟨p, q, hA0, hV, rfl, hfz, hnd⟩ := hW
  have hA : DataW.TrodAll enc Try.prog W 0 (fun _ => true) true Try.f4.params.toList args.toList ds p := hA0
  rw [Try.params4] at hA hval hsz
  obtain ⟨v0, vs0, d0, ds0, p0, q0, hargs, rfl, rfl, h0, r0⟩ := trodAll_cons hA
  obtain ⟨rfl, rfl, rfl⟩ := trodAll_nil r0
  obtain rfl : args = #[v0] := by cases args; simp_all
  obtain ⟨rfl, rfl⟩ := trodVars_none hV
  have k0 := h0
  have lt0 : ∀ x ∈ p0, x.block < W.heap.size := by obtain ⟨m, hm⟩ := k0; exact DataW.trod_lt m _ _ _ hm
  obtain ⟨a0, len0, cap0, rfl⟩ := okWide_slice Try.underlying22 (hval 0 22 v0 rfl rfl)
  obtain ⟨z0, w0, s0⟩ : ∃ l : List Ac, ActsAt W (.slice a0 len0 cap0) l ∧ ∀ f ∈ l, f.good W := by
    obtain ⟨fuel, hf⟩ := h0
    exact open_acts hf (fun n hn => by
      have hm := List.all_eq_true.1 hsz n (DataW.weights_mem_each (j := 0) (t := 22) rfl rfl _ hn)
      simpa [reachBytes] using of_decide_eq_true hm)
  clear hA0 hval0 hsz0
  refine (walk a0 len0 cap0 z0 W w0 s0).mono fun e W' ⟨he, bel⟩ => ?_
  subst he
  exact ⟨_, rfl, _, _, _, [], _, [], hW', trodAll_mk1 (shut_bool Try.underlying4 _), (trodAll_cons_mk (Below.trod laidOut (by kernel_rfl) (of_decide_eq_true (by kernel_rfl)) k0 bel lt0) trodAll_mk0), rfl, bel.frame _, fun h => by cases h⟩

theorem over : Rows.deviceLastRow.holds Try.pinned (OpenSpec.ofChange Rows.deviceLastSpec) :=
  OpenClaim.holds_of_wide 4 Try.f4 rfl rfl rfl rfl rfl rfl rfl ⟨rfl, rfl, rfl, rfl, rfl⟩ rfl rfl rfl rfl rfl (by kernel_rfl) Try.func4 (by kernel_rfl)
    (of_decide_eq_true (by kernel_rfl)) (by unfold Func.isWrapper; first | (rw [if_pos (by decide +kernel)]; kernel_rfl) | (rw [if_neg (by decide +kernel)]; exact ⟨rfl, rfl⟩))
    (fun os started H enc _ => lifted os started H enc)

theorem proved : Rows.DeviceLastSaid := over
end Go.Proofs.Ytdljddghbkcddaa.deviceLast
