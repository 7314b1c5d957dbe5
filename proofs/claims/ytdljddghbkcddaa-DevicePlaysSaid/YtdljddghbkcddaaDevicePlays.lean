/-
  DevicePlays: FOR EVERY INPUT the law returns true and leaves its arguments as they were.
-/
import Derived.Test.YtdljddghbkcddaaDr
import Derived.Test.YtdljddghbkcddaaRows
import Derived.WalkKit
import Derived.Deep.RegionHeld3
import Derived.ProofKit
import Derived.OpenShut
import Derived.ShutString
import Derived.ChangeOld
import Derived.Below
import Derived.SizedLaws
import Derived.Lib.SmallJoins
namespace Go.Proofs.Ytdljddghbkcddaa.devicePlays
open Go.ChangeShapes Go.WideShapes Go.ChangeAt Go.RowKit
open Go.ChangeMaps (open_string shut_string)
set_option linter.unusedVariables false

theorem own : ownKnob Try.prog.godebug = none := by kernel_rfl
theorem laidOut : laidOutB Try.prog = true := by kernel_rfl

theorem new2_any (nm : ByteArray) (w : World) (hn : nm.toList.isEmpty = false) : Calls Try.prog 8 #[.string nm] w fun e w' => NewP nm w e w' ∧ w'.heap.size = w.heap.size + 1 := by
  have hn2 := isE hn
  go_enter Try.func8, Try.ntmps8
  go_wp2
  go_ret2
  exact ⟨⟨rfl, ⟨heap_alloc_new w _, by simpa [itsAtC] using World.ownsRow_nil _ _ _ _, by simp⟩, ext_alloc w _⟩, by simp⟩
theorem new0_any (nm : ByteArray) (w : World) (hn : nm.toList.isEmpty = true) : Calls Try.prog 8 #[.string nm] w fun e w' => e = .returned (.tuple #[.pointer none, .int .i64 1]) ∧ w = w' := by
  have hn2 : (nm.toList == []) = true := by
    cases hl : nm.toList with
    | nil => rfl
    | cons a l => rw [hl] at hn; cases hn
  go_enter Try.func8, Try.ntmps8
  go_wp2
  go_ret2
  exact ⟨rfl, rfl⟩
structure Lp (w wr : World) (len k : Nat) (nm : ByteArray) (on : Bool) (v vx : Value) (L : List It) (n : Int) : Prop where
  kl : k ≤ len
  k6 : k ≤ 60
  nb : 0 ≤ n ∧ n ≤ k
  dv : Dv 79 wr w.heap.size nm on v L n
  dx : Dv 33 wr (w.heap.size + 1) nm on vx L n
  bw : Below w.heap.size w wr
set_option maxHeartbeats 16000000 in
set_option maxRecDepth 100000 in
theorem walk (nm : ByteArray) (a : Option Addr) (len cap : Nat) (A : List Ac) (w : World) (hns : nm.size ≤ 140737488351232) (hA : ActsAt w (.slice a len cap) A) (hG : ∀ f ∈ A, f.good w) :
    Calls Try.prog 3 #[.string nm, .slice a len cap] w (Yes w) := by
  obtain ⟨a', cap', hv, hl, hc⟩ := hA
  simp only [Value.slice.injEq] at hv
  obtain ⟨rfl, rfl, rfl⟩ := hv
  have hl' : (A.length : Int) ≤ 9223372036854775807 := by omega
  replace hc := Lib.hid hc
  replace hG := Lib.hid hG
  cases hn : nm.toList.isEmpty
  · have NW := Lib.hid (new2_any nm w hn)
    have hn2 := isE hn
    replace hn := Lib.hid hn
    go_enter Try.func3, Try.ntmps3
    go_wp2_with fail
    refine (NW.out).mono ?_
    rintro e w1 ⟨⟨rfl, t1, b1⟩, z1⟩
    have T1 := Lib.hid (t1.keep (ext_alloc w1 (.cells #[.string nm, .bool false, .slice none 0 0, .int .i64 0] 33)))
    have X1 := heap_alloc_new w1 (.cells #[.string nm, .bool false, .slice none 0 0, .int .i64 0] 33)
    have B1 := Lib.hid (b1.alloc b1.size (.cells #[.string nm, .bool false, .slice none 0 0, .int .i64 0] 33))
    rw [z1] at X1
    replace X1 := Lib.hid X1
    clear t1 b1
    go_wp2_with fail
    replace z1 := Lib.hid z1
    go_loopw [8] (fun iv wr => ∃ (k : Nat) (on : Bool) (v vx : Value) (L : List It) (n : Int), iv = .int .i64 (k : Int) ∧ Lp w wr A.length k nm on v vx L n) (fun iv _ => A.length - (intOf iv).toNat)
    case atStart => exact ⟨0, false, _, _, [], 0, rfl, ⟨by omega, by omega, by omega, T1.out, ⟨X1.out, by simpa [itsAtC] using World.ownsRow_nil _ _ _ _, by simp⟩, B1.out⟩⟩
    case round =>
      obtain ⟨k, on, v, vx, L, n, rfl, hkl, hk6, hnb, hdv, hdx, hbw⟩ := hrel
      by_cases hlt : k < A.length ∧ k < 60
      · obtain ⟨hlt0, hlt1⟩ := hlt
        obtain ⟨f, hf⟩ : ∃ f, A[k]? = some f := ⟨_, List.getElem?_eq_getElem hlt0⟩
        have gf := hG.out f (List.mem_of_getElem? hf)
        obtain ⟨b0, o0, rfl, hb0, c0, c1⟩ := acts_at hf hbw hc.out
        obtain ⟨fk, fv, fl⟩ := f
        obtain ⟨gits, gok, gk⟩ := gf
        simp only at c0 c1 gits gok gk
        obtain ⟨fa, fc, hfv, hfl, -⟩ := id gits
        subst hfv
        have hlt0' : (k : Int) < A.length := by omega
        have hlt1' : (k : Int) < 60 := by omega
        have GI := Lib.hid (fun W (hb : Below w.heap.size w W) => gits.keep hb (Nat.le_refl _))
        replace gits := Lib.hid gits
        replace gok := Lib.hid gok
        replace hf := Lib.hid hf
        replace hdv := Lib.hid hdv
        replace hdx := Lib.hid hdx
        replace hbw := Lib.hid hbw
        have T0 := Lib.hid (Lr.start (fk := fk) (fv := .slice fa fl.length fc) hdv.out hdx.out hbw.out)
        go_wp2_with fail
        · obtain rfl : fk = 0 := by have h := ‹(fk == 0) = true›; simpa using h
          have B0 := Lib.hid (Below.refl wr.heap.size wr)
          generalize hw4 : wr.alloc _ = w4 at T0 ⊢
          replace hw4 := Lib.hid hw4
          refine (born_any T0.out.dv hn.out _ fl (GI.out _ T0.out.bw) (by omega)).mono ?_
          rintro e w5 ht
          obtain ⟨rfl, v5, T5⟩ := T0.out.take ht
          have X5 := Lib.hid (xborn_any T5.dx _ fl (GI.out _ T5.bw) (by omega))
          obtain ⟨c0, c1⟩ := T5.cells
          clear ht
          replace T5 := Lib.hid T5
          go_wp2_with fail
          refine X5.out.mono ?_
          rintro e w6 ⟨rfl, ⟨v6, d6, -⟩, g6⟩
          have T6 := Lib.hid (T5.out.xtake d6 g6)
          clear d6 g6 c0 c1
          go_wp2_with fail
          have VV := Lib.hid (fun W (hb : Below w6.heap.size w6 W) => view_any (T6.out.dv.keep hb) hn.out)
          have OO := Lib.hid (fun W (hb : Below w6.heap.size w6 W) => online_any (T6.out.dv.keep hb) hn.out)
          have LL := Lib.hid (fun W (hb : Below w6.heap.size w6 W) => lives_any (T6.out.dv.keep hb) hn.out)
          have IB := Lib.hid (fun W (hb : Below w6.heap.size w6 W) => (ItsAt.of_own T6.out.dx.its T6.out.dx.len).keep hb (Nat.le_refl _))
          have HL := T6.out.dv.len
          have KO := Lib.hid (fun W (hb : Below w6.heap.size w6 W) => (show W.cell? ⟨w.heap.size + 1, 0, none⟩ = some (.string nm) ∧ W.cell? ⟨w.heap.size + 1, 1, none⟩ = some (.bool true) ∧ W.cell? ⟨w.heap.size + 1, 2, none⟩ = some v6 ∧ W.cell? ⟨w.heap.size + 1, 3, none⟩ = some (.int .i64 (n + 1)) ∧ Below w6.heap.size w6 W from by
            obtain ⟨a0, a1, a2, a3⟩ := (T6.out.dx.keep hb).cell
            exact ⟨a0, a1, a2, a3, hb⟩))
          go_region_held3 (fun W => W.cell? ⟨w.heap.size + 1, 0, none⟩ = some (.string nm) ∧ W.cell? ⟨w.heap.size + 1, 1, none⟩ = some (.bool true) ∧ W.cell? ⟨w.heap.size + 1, 2, none⟩ = some v6 ∧ W.cell? ⟨w.heap.size + 1, 3, none⟩ = some (.int .i64 (n + 1)) ∧ Below w6.heap.size w6 W)
            (exact KO.out _ (by first | exact Below.refl _ _ | exact ext_drew _ | assumption))
            (first
              | (go_at_call 16; refine (OO.out _ (‹_ ∧ _ ∧ _ ∧ _ ∧ Below _ _ _›).2.2.2.2).mono ?_; rintro e w6 ⟨rfl, rfl⟩)
              | (go_at_call 17; refine (LL.out _ (‹_ ∧ _ ∧ _ ∧ _ ∧ Below _ _ _›).2.2.2.2).mono ?_; rintro e w6 ⟨rfl, rfl⟩)
              | (go_at_call 19; refine (VV.out _ (‹_ ∧ _ ∧ _ ∧ _ ∧ Below _ _ _›).2.2.2.2).mono ?_; rintro e w7 ⟨v4, rfl, o4, b4⟩; obtain ⟨va5, vc5, rfl⟩ := own_slice o4; have BB := ext_trans (‹_ ∧ _ ∧ _ ∧ _ ∧ Below _ _ _›).2.2.2.2 b4; have I4 := ItsAt.of_own o4 HL; replace o4 := Lib.hid o4; replace b4 := Lib.hid b4)
              | (go_at_call 18; refine (same_eq _ _ _ _ fl _ (by first | exact I4 | exact I4.keep (ext_drew _) (Nat.le_refl _)) (IB.out _ (‹_ ∧ _ ∧ _ ∧ _ ∧ Below _ _ _›).2.2.2.2)).mono ?_; rintro e w8 ⟨rfl, b6⟩; have BB6 := ext_trans (‹_ ∧ _ ∧ _ ∧ _ ∧ Below _ _ _›).2.2.2.2 b6; clear b6))
          all_goals
            have b7 := Lib.hid (‹_ ∧ _ ∧ _ ∧ _ ∧ Below w6.heap.size w6 _›).2.2.2.2
            have hN := Lib.hid (T6.out.next b7.out)
            go_wp2_with fail
            go_roundw
            case rel => exact ⟨k + 1, true, v5, v6, fl, (n + 1), by simp, ⟨by omega, by omega, by omega, hN.out.dv, hN.out.dx, hN.out.bw⟩⟩
            case measure => simp [intOf]; omega
        · obtain rfl : fk = 1 := by have h := ‹(fk == 1) = true›; simpa using h
          have B0 := Lib.hid (Below.refl wr.heap.size wr)
          generalize hw4 : wr.alloc _ = w4 at T0 ⊢
          replace hw4 := Lib.hid hw4
          have KA := Lib.hid (fun W (hb : Below w4.heap.size w4 W) => (T0.out.next hb).cells.2)
          cases on
          · have P12 := Lib.hid (fun W (hb : Below w4.heap.size w4 W) => told_off (T0.out.next hb).dv hn.out fa fl.length fc)
            go_region_held3 (fun W => W.cell? ⟨wr.heap.size, 1, none⟩ = some (.slice fa fl.length fc))
              (first | exact KA5.out _ (by first | exact Below.refl _ _ | exact ext_drew _ | assumption) | exact KA.out _ (by first | exact Below.refl _ _ | exact ext_drew _ | assumption))
              (first
                | (go_at_call 12; refine (P12.out _ (by first | exact Below.refl _ _ | exact ext_drew _ | assumption)).mono ?_; rintro e w5 ht; obtain ⟨rfl, v5, T5⟩ := (T0.out.next (by first | exact Below.refl _ _ | exact ext_drew _ | assumption)).take ht; clear ht; have P13 := Lib.hid (fun W (hb : Below w5.heap.size w5 W) => xtold_off (T5.next hb).dx (.slice fa fl.length fc)); have KA5 := Lib.hid (fun W (hb : Below w5.heap.size w5 W) => (T5.next hb).cells.2); have TN := Lib.hid (fun W (hb : Below w5.heap.size w5 W) => T5.next hb); clear T5)
                | (go_at_call 13; refine (P13.out _ (by first | exact Below.refl _ _ | exact ext_drew _ | assumption)).mono ?_; rintro e w6 ⟨rfl, rfl⟩))
            all_goals
              have T5 := Lib.hid (TN.out w5 (Below.refl _ _))
              go_wp2_with fail
              have VV := Lib.hid (fun W (hb : Below w5.heap.size w5 W) => view_any (T5.out.dv.keep hb) hn.out)
              have OO := Lib.hid (fun W (hb : Below w5.heap.size w5 W) => online_any (T5.out.dv.keep hb) hn.out)
              have LL := Lib.hid (fun W (hb : Below w5.heap.size w5 W) => lives_any (T5.out.dv.keep hb) hn.out)
              have IB := Lib.hid (fun W (hb : Below w5.heap.size w5 W) => (ItsAt.of_own T5.out.dx.its T5.out.dx.len).keep hb (Nat.le_refl _))
              have HL := T5.out.dv.len
              have KO := Lib.hid (fun W (hb : Below w5.heap.size w5 W) => (show W.cell? ⟨w.heap.size + 1, 0, none⟩ = some (.string nm) ∧ W.cell? ⟨w.heap.size + 1, 1, none⟩ = some (.bool false) ∧ W.cell? ⟨w.heap.size + 1, 2, none⟩ = some vx ∧ W.cell? ⟨w.heap.size + 1, 3, none⟩ = some (.int .i64 n) ∧ Below w5.heap.size w5 W from by
                obtain ⟨a0, a1, a2, a3⟩ := (T5.out.dx.keep hb).cell
                exact ⟨a0, a1, a2, a3, hb⟩))
              go_region_held3 (fun W => W.cell? ⟨w.heap.size + 1, 0, none⟩ = some (.string nm) ∧ W.cell? ⟨w.heap.size + 1, 1, none⟩ = some (.bool false) ∧ W.cell? ⟨w.heap.size + 1, 2, none⟩ = some vx ∧ W.cell? ⟨w.heap.size + 1, 3, none⟩ = some (.int .i64 n) ∧ Below w5.heap.size w5 W)
                (exact KO.out _ (by first | exact Below.refl _ _ | exact ext_drew _ | assumption))
                (first
                  | (go_at_call 16; refine (OO.out _ (‹_ ∧ _ ∧ _ ∧ _ ∧ Below _ _ _›).2.2.2.2).mono ?_; rintro e w6 ⟨rfl, rfl⟩)
                  | (go_at_call 17; refine (LL.out _ (‹_ ∧ _ ∧ _ ∧ _ ∧ Below _ _ _›).2.2.2.2).mono ?_; rintro e w6 ⟨rfl, rfl⟩)
                  | (go_at_call 19; refine (VV.out _ (‹_ ∧ _ ∧ _ ∧ _ ∧ Below _ _ _›).2.2.2.2).mono ?_; rintro e w7 ⟨v4, rfl, o4, b4⟩; obtain ⟨va5, vc5, rfl⟩ := own_slice o4; have BB := ext_trans (‹_ ∧ _ ∧ _ ∧ _ ∧ Below _ _ _›).2.2.2.2 b4; have I4 := ItsAt.of_own o4 HL; replace o4 := Lib.hid o4; replace b4 := Lib.hid b4)
                  | (go_at_call 18; refine (same_eq _ _ _ _ L _ (by first | exact I4 | exact I4.keep (ext_drew _) (Nat.le_refl _)) (IB.out _ (‹_ ∧ _ ∧ _ ∧ _ ∧ Below _ _ _›).2.2.2.2)).mono ?_; rintro e w8 ⟨rfl, b6⟩; have BB6 := ext_trans (‹_ ∧ _ ∧ _ ∧ _ ∧ Below _ _ _›).2.2.2.2 b6; clear b6))
              all_goals
                have b7 := Lib.hid (‹_ ∧ _ ∧ _ ∧ _ ∧ Below w5.heap.size w5 _›).2.2.2.2
                have hN := Lib.hid (T5.out.next b7.out)
                go_wp2_with fail
                go_roundw
                case rel => exact ⟨k + 1, false, v5, vx, L, n, by simp, ⟨by omega, by omega, by omega, hN.out.dv, hN.out.dx, hN.out.bw⟩⟩
                case measure => simp [intOf]; omega
          · have P12 := Lib.hid (fun W (hb : Below w4.heap.size w4 W) => told_any (T0.out.next hb).dv hn.out _ fl (GI.out _ (T0.out.next hb).bw))
            go_region_held3 (fun W => W.cell? ⟨wr.heap.size, 1, none⟩ = some (.slice fa fl.length fc))
              (first | exact KA6.out _ (by first | exact Below.refl _ _ | exact ext_drew _ | assumption) | exact KA5.out _ (by first | exact Below.refl _ _ | exact ext_drew _ | assumption) | exact KA.out _ (by first | exact Below.refl _ _ | exact ext_drew _ | assumption))
              (first
                | (go_at_call 12; refine (P12.out _ (by first | exact Below.refl _ _ | exact ext_drew _ | assumption)).mono ?_; rintro e w5 ht; obtain ⟨rfl, v5, T5⟩ := (T0.out.next (by first | exact Below.refl _ _ | exact ext_drew _ | assumption)).take ht; clear ht; have P13 := Lib.hid (fun W (hb : Below w5.heap.size w5 W) => xtold_any (on := true) (T5.next hb).dx _ fl (GI.out _ (T5.next hb).bw)); have KA5 := Lib.hid (fun W (hb : Below w5.heap.size w5 W) => (T5.next hb).cells.2); have TN := Lib.hid (fun W (hb : Below w5.heap.size w5 W) => T5.next hb); clear T5)
                | (go_at_call 13; refine (P13.out _ (by first | exact Below.refl _ _ | exact ext_drew _ | assumption)).mono ?_; rintro e w6 ⟨rfl, ⟨v6, d6, -⟩, g6⟩; have T6 := Lib.hid ((TN.out _ (by first | exact Below.refl _ _ | exact ext_drew _ | assumption)).xtake d6 g6); have KA6 := Lib.hid (fun W (hb : Below w6.heap.size w6 W) => (T6.out.next hb).cells.2); clear d6 g6))
            all_goals
              go_wp2_with fail
              have VV := Lib.hid (fun W (hb : Below w6.heap.size w6 W) => view_any (T6.out.dv.keep hb) hn.out)
              have OO := Lib.hid (fun W (hb : Below w6.heap.size w6 W) => online_any (T6.out.dv.keep hb) hn.out)
              have LL := Lib.hid (fun W (hb : Below w6.heap.size w6 W) => lives_any (T6.out.dv.keep hb) hn.out)
              have IB := Lib.hid (fun W (hb : Below w6.heap.size w6 W) => (ItsAt.of_own T6.out.dx.its T6.out.dx.len).keep hb (Nat.le_refl _))
              have HL := T6.out.dv.len
              have KO := Lib.hid (fun W (hb : Below w6.heap.size w6 W) => (show W.cell? ⟨w.heap.size + 1, 0, none⟩ = some (.string nm) ∧ W.cell? ⟨w.heap.size + 1, 1, none⟩ = some (.bool true) ∧ W.cell? ⟨w.heap.size + 1, 2, none⟩ = some v6 ∧ W.cell? ⟨w.heap.size + 1, 3, none⟩ = some (.int .i64 n) ∧ Below w6.heap.size w6 W from by
                obtain ⟨a0, a1, a2, a3⟩ := (T6.out.dx.keep hb).cell
                exact ⟨a0, a1, a2, a3, hb⟩))
              go_region_held3 (fun W => W.cell? ⟨w.heap.size + 1, 0, none⟩ = some (.string nm) ∧ W.cell? ⟨w.heap.size + 1, 1, none⟩ = some (.bool true) ∧ W.cell? ⟨w.heap.size + 1, 2, none⟩ = some v6 ∧ W.cell? ⟨w.heap.size + 1, 3, none⟩ = some (.int .i64 n) ∧ Below w6.heap.size w6 W)
                (exact KO.out _ (by first | exact Below.refl _ _ | exact ext_drew _ | assumption))
                (first
                  | (go_at_call 16; refine (OO.out _ (‹_ ∧ _ ∧ _ ∧ _ ∧ Below _ _ _›).2.2.2.2).mono ?_; rintro e w6 ⟨rfl, rfl⟩)
                  | (go_at_call 17; refine (LL.out _ (‹_ ∧ _ ∧ _ ∧ _ ∧ Below _ _ _›).2.2.2.2).mono ?_; rintro e w6 ⟨rfl, rfl⟩)
                  | (go_at_call 19; refine (VV.out _ (‹_ ∧ _ ∧ _ ∧ _ ∧ Below _ _ _›).2.2.2.2).mono ?_; rintro e w7 ⟨v4, rfl, o4, b4⟩; obtain ⟨va5, vc5, rfl⟩ := own_slice o4; have BB := ext_trans (‹_ ∧ _ ∧ _ ∧ _ ∧ Below _ _ _›).2.2.2.2 b4; have I4 := ItsAt.of_own o4 HL; replace o4 := Lib.hid o4; replace b4 := Lib.hid b4)
                  | (go_at_call 18; refine (same_eq _ _ _ _ fl _ (by first | exact I4 | exact I4.keep (ext_drew _) (Nat.le_refl _)) (IB.out _ (‹_ ∧ _ ∧ _ ∧ _ ∧ Below _ _ _›).2.2.2.2)).mono ?_; rintro e w8 ⟨rfl, b6⟩; have BB6 := ext_trans (‹_ ∧ _ ∧ _ ∧ _ ∧ Below _ _ _›).2.2.2.2 b6; clear b6))
              all_goals
                have b7 := Lib.hid (‹_ ∧ _ ∧ _ ∧ _ ∧ Below w6.heap.size w6 _›).2.2.2.2
                have hN := Lib.hid (T6.out.next b7.out)
                go_wp2_with fail
                go_roundw
                case rel => exact ⟨k + 1, true, v5, v6, fl, n, by simp, ⟨by omega, by omega, by omega, hN.out.dv, hN.out.dx, hN.out.bw⟩⟩
                case measure => simp [intOf]; omega
        · obtain rfl : fk = 2 := by have h := ‹(fk == 2) = true›; simpa using h
          have B0 := Lib.hid (Below.refl wr.heap.size wr)
          generalize hw4 : wr.alloc _ = w4 at T0 ⊢
          replace hw4 := Lib.hid hw4
          cases on
          · refine (dies_off T0.out.dv hn.out).mono ?_
            rintro e w5 ht
            obtain ⟨rfl, v5, T5⟩ := T0.out.take ht
            have X5 := Lib.hid (xdies_off T5.dx)
            clear ht
            replace T5 := Lib.hid T5
            go_wp2_with fail
            refine X5.out.mono ?_
            rintro e w6 ⟨rfl, rfl⟩
            go_wp2_with fail
            have VV := Lib.hid (fun W (hb : Below w5.heap.size w5 W) => view_any (T5.out.dv.keep hb) hn.out)
            have OO := Lib.hid (fun W (hb : Below w5.heap.size w5 W) => online_any (T5.out.dv.keep hb) hn.out)
            have LL := Lib.hid (fun W (hb : Below w5.heap.size w5 W) => lives_any (T5.out.dv.keep hb) hn.out)
            have IB := Lib.hid (fun W (hb : Below w5.heap.size w5 W) => (ItsAt.of_own T5.out.dx.its T5.out.dx.len).keep hb (Nat.le_refl _))
            have HL := T5.out.dv.len
            have KO := Lib.hid (fun W (hb : Below w5.heap.size w5 W) => (show W.cell? ⟨w.heap.size + 1, 0, none⟩ = some (.string nm) ∧ W.cell? ⟨w.heap.size + 1, 1, none⟩ = some (.bool false) ∧ W.cell? ⟨w.heap.size + 1, 2, none⟩ = some vx ∧ W.cell? ⟨w.heap.size + 1, 3, none⟩ = some (.int .i64 n) ∧ Below w5.heap.size w5 W from by
              obtain ⟨a0, a1, a2, a3⟩ := (T5.out.dx.keep hb).cell
              exact ⟨a0, a1, a2, a3, hb⟩))
            go_region_held3 (fun W => W.cell? ⟨w.heap.size + 1, 0, none⟩ = some (.string nm) ∧ W.cell? ⟨w.heap.size + 1, 1, none⟩ = some (.bool false) ∧ W.cell? ⟨w.heap.size + 1, 2, none⟩ = some vx ∧ W.cell? ⟨w.heap.size + 1, 3, none⟩ = some (.int .i64 n) ∧ Below w5.heap.size w5 W)
              (exact KO.out _ (by first | exact Below.refl _ _ | exact ext_drew _ | assumption))
              (first
                | (go_at_call 16; refine (OO.out _ (‹_ ∧ _ ∧ _ ∧ _ ∧ Below _ _ _›).2.2.2.2).mono ?_; rintro e w6 ⟨rfl, rfl⟩)
                | (go_at_call 17; refine (LL.out _ (‹_ ∧ _ ∧ _ ∧ _ ∧ Below _ _ _›).2.2.2.2).mono ?_; rintro e w6 ⟨rfl, rfl⟩)
                | (go_at_call 19; refine (VV.out _ (‹_ ∧ _ ∧ _ ∧ _ ∧ Below _ _ _›).2.2.2.2).mono ?_; rintro e w7 ⟨v4, rfl, o4, b4⟩; obtain ⟨va5, vc5, rfl⟩ := own_slice o4; have BB := ext_trans (‹_ ∧ _ ∧ _ ∧ _ ∧ Below _ _ _›).2.2.2.2 b4; have I4 := ItsAt.of_own o4 HL; replace o4 := Lib.hid o4; replace b4 := Lib.hid b4)
                | (go_at_call 18; refine (same_eq _ _ _ _ L _ (by first | exact I4 | exact I4.keep (ext_drew _) (Nat.le_refl _)) (IB.out _ (‹_ ∧ _ ∧ _ ∧ _ ∧ Below _ _ _›).2.2.2.2)).mono ?_; rintro e w8 ⟨rfl, b6⟩; have BB6 := ext_trans (‹_ ∧ _ ∧ _ ∧ _ ∧ Below _ _ _›).2.2.2.2 b6; clear b6))
            all_goals
              have b7 := Lib.hid (‹_ ∧ _ ∧ _ ∧ _ ∧ Below w5.heap.size w5 _›).2.2.2.2
              have hN := Lib.hid (T5.out.next b7.out)
              go_wp2_with fail
              go_roundw
              case rel => exact ⟨k + 1, false, v5, vx, L, n, by simp, ⟨by omega, by omega, by omega, hN.out.dv, hN.out.dx, hN.out.bw⟩⟩
              case measure => simp [intOf]; omega
          · refine (dies_on T0.out.dv hn.out).mono ?_
            rintro e w5 ht
            obtain ⟨rfl, v5, T5⟩ := T0.out.take ht
            have X5 := Lib.hid (xdies_on T5.dx)
            clear ht
            replace T5 := Lib.hid T5
            go_wp2_with fail
            refine X5.out.mono ?_
            rintro e w6 ⟨rfl, d6, g6⟩
            have T6 := Lib.hid (T5.out.xtake d6 g6)
            clear d6 g6
            go_wp2_with fail
            have VV := Lib.hid (fun W (hb : Below w6.heap.size w6 W) => view_any (T6.out.dv.keep hb) hn.out)
            have OO := Lib.hid (fun W (hb : Below w6.heap.size w6 W) => online_any (T6.out.dv.keep hb) hn.out)
            have LL := Lib.hid (fun W (hb : Below w6.heap.size w6 W) => lives_any (T6.out.dv.keep hb) hn.out)
            have IB := Lib.hid (fun W (hb : Below w6.heap.size w6 W) => (ItsAt.of_own T6.out.dx.its T6.out.dx.len).keep hb (Nat.le_refl _))
            have HL := T6.out.dv.len
            have KO := Lib.hid (fun W (hb : Below w6.heap.size w6 W) => (show W.cell? ⟨w.heap.size + 1, 0, none⟩ = some (.string nm) ∧ W.cell? ⟨w.heap.size + 1, 1, none⟩ = some (.bool false) ∧ W.cell? ⟨w.heap.size + 1, 2, none⟩ = some vx ∧ W.cell? ⟨w.heap.size + 1, 3, none⟩ = some (.int .i64 n) ∧ Below w6.heap.size w6 W from by
              obtain ⟨a0, a1, a2, a3⟩ := (T6.out.dx.keep hb).cell
              exact ⟨a0, a1, a2, a3, hb⟩))
            go_region_held3 (fun W => W.cell? ⟨w.heap.size + 1, 0, none⟩ = some (.string nm) ∧ W.cell? ⟨w.heap.size + 1, 1, none⟩ = some (.bool false) ∧ W.cell? ⟨w.heap.size + 1, 2, none⟩ = some vx ∧ W.cell? ⟨w.heap.size + 1, 3, none⟩ = some (.int .i64 n) ∧ Below w6.heap.size w6 W)
              (exact KO.out _ (by first | exact Below.refl _ _ | exact ext_drew _ | assumption))
              (first
                | (go_at_call 16; refine (OO.out _ (‹_ ∧ _ ∧ _ ∧ _ ∧ Below _ _ _›).2.2.2.2).mono ?_; rintro e w6 ⟨rfl, rfl⟩)
                | (go_at_call 17; refine (LL.out _ (‹_ ∧ _ ∧ _ ∧ _ ∧ Below _ _ _›).2.2.2.2).mono ?_; rintro e w6 ⟨rfl, rfl⟩)
                | (go_at_call 19; refine (VV.out _ (‹_ ∧ _ ∧ _ ∧ _ ∧ Below _ _ _›).2.2.2.2).mono ?_; rintro e w7 ⟨v4, rfl, o4, b4⟩; obtain ⟨va5, vc5, rfl⟩ := own_slice o4; have BB := ext_trans (‹_ ∧ _ ∧ _ ∧ _ ∧ Below _ _ _›).2.2.2.2 b4; have I4 := ItsAt.of_own o4 HL; replace o4 := Lib.hid o4; replace b4 := Lib.hid b4)
                | (go_at_call 18; refine (same_eq _ _ _ _ L _ (by first | exact I4 | exact I4.keep (ext_drew _) (Nat.le_refl _)) (IB.out _ (‹_ ∧ _ ∧ _ ∧ _ ∧ Below _ _ _›).2.2.2.2)).mono ?_; rintro e w8 ⟨rfl, b6⟩; have BB6 := ext_trans (‹_ ∧ _ ∧ _ ∧ _ ∧ Below _ _ _›).2.2.2.2 b6; clear b6))
            all_goals
              have b7 := Lib.hid (‹_ ∧ _ ∧ _ ∧ _ ∧ Below w6.heap.size w6 _›).2.2.2.2
              have hN := Lib.hid (T6.out.next b7.out)
              go_wp2_with fail
              go_roundw
              case rel => exact ⟨k + 1, false, v5, vx, L, n, by simp, ⟨by omega, by omega, by omega, hN.out.dv, hN.out.dx, hN.out.bw⟩⟩
              case measure => simp [intOf]; omega
        · have B0 := Lib.hid (Below.refl wr.heap.size wr)
          generalize hw4 : wr.alloc _ = w4 at T0 ⊢
          replace hw4 := Lib.hid hw4
          have VV := Lib.hid (fun W (hb : Below w4.heap.size w4 W) => view_any (T0.out.dv.keep hb) hn.out)
          have OO := Lib.hid (fun W (hb : Below w4.heap.size w4 W) => online_any (T0.out.dv.keep hb) hn.out)
          have LL := Lib.hid (fun W (hb : Below w4.heap.size w4 W) => lives_any (T0.out.dv.keep hb) hn.out)
          have IB := Lib.hid (fun W (hb : Below w4.heap.size w4 W) => (ItsAt.of_own T0.out.dx.its T0.out.dx.len).keep hb (Nat.le_refl _))
          have HL := T0.out.dv.len
          have KO := Lib.hid (fun W (hb : Below w4.heap.size w4 W) => (show W.cell? ⟨w.heap.size + 1, 0, none⟩ = some (.string nm) ∧ W.cell? ⟨w.heap.size + 1, 1, none⟩ = some (.bool on) ∧ W.cell? ⟨w.heap.size + 1, 2, none⟩ = some vx ∧ W.cell? ⟨w.heap.size + 1, 3, none⟩ = some (.int .i64 n) ∧ Below w4.heap.size w4 W from by
            obtain ⟨a0, a1, a2, a3⟩ := (T0.out.dx.keep hb).cell
            exact ⟨a0, a1, a2, a3, hb⟩))
          go_region_held3 (fun W => W.cell? ⟨w.heap.size + 1, 0, none⟩ = some (.string nm) ∧ W.cell? ⟨w.heap.size + 1, 1, none⟩ = some (.bool on) ∧ W.cell? ⟨w.heap.size + 1, 2, none⟩ = some vx ∧ W.cell? ⟨w.heap.size + 1, 3, none⟩ = some (.int .i64 n) ∧ Below w4.heap.size w4 W)
            (exact KO.out _ (by first | exact Below.refl _ _ | exact ext_drew _ | assumption))
            (first
              | (go_at_call 16; refine (OO.out _ (‹_ ∧ _ ∧ _ ∧ _ ∧ Below _ _ _›).2.2.2.2).mono ?_; rintro e w6 ⟨rfl, rfl⟩)
              | (go_at_call 17; refine (LL.out _ (‹_ ∧ _ ∧ _ ∧ _ ∧ Below _ _ _›).2.2.2.2).mono ?_; rintro e w6 ⟨rfl, rfl⟩)
              | (go_at_call 19; refine (VV.out _ (‹_ ∧ _ ∧ _ ∧ _ ∧ Below _ _ _›).2.2.2.2).mono ?_; rintro e w7 ⟨v4, rfl, o4, b4⟩; obtain ⟨va5, vc5, rfl⟩ := own_slice o4; have BB := ext_trans (‹_ ∧ _ ∧ _ ∧ _ ∧ Below _ _ _›).2.2.2.2 b4; have I4 := ItsAt.of_own o4 HL; replace o4 := Lib.hid o4; replace b4 := Lib.hid b4)
              | (go_at_call 18; refine (same_eq _ _ _ _ L _ (by first | exact I4 | exact I4.keep (ext_drew _) (Nat.le_refl _)) (IB.out _ (‹_ ∧ _ ∧ _ ∧ _ ∧ Below _ _ _›).2.2.2.2)).mono ?_; rintro e w8 ⟨rfl, b6⟩; have BB6 := ext_trans (‹_ ∧ _ ∧ _ ∧ _ ∧ Below _ _ _›).2.2.2.2 b6; clear b6))
          all_goals
            have b7 := Lib.hid (‹_ ∧ _ ∧ _ ∧ _ ∧ Below w4.heap.size w4 _›).2.2.2.2
            have hN := Lib.hid (T0.out.next b7.out)
            go_wp2_with fail
            go_roundw
            case rel => exact ⟨k + 1, on, v, vx, L, n, by simp, ⟨by omega, by omega, by omega, hN.out.dv, hN.out.dx, hN.out.bw⟩⟩
            case measure => simp [intOf]; omega
      · replace hdv := Lib.hid hdv
        replace hdx := Lib.hid hdx
        replace hbw := Lib.hid hbw
        have hend : ((k : Int) < A.length) = False ∨ (((k : Int) < A.length) = True ∧ ((k : Int) < 60) = False) := by
          by_cases h1 : k < A.length
          · right; exact ⟨by simp; omega, by simp; omega⟩
          · left; simp; omega
        rcases hend with h1 | ⟨h1, h2⟩
        · have h1' : (A.length : Int) ≤ k := by simp at h1; omega
          clear h1
          replace hlt := Lib.hid hlt
          go_wp2_with fail
          refine (awake_any _).mono ?_
          rintro e w7 ⟨rfl, b7⟩
          go_wp2_with fail
          go_ret
          exact ⟨rfl, ext_trans hbw.out b7⟩
        · have h1' : (k : Int) < A.length := by simp at h1; omega
          have h2' : (60 : Int) ≤ k := by simp at h2; omega
          clear h1 h2
          replace hlt := Lib.hid hlt
          go_wp2_with fail
          refine (awake_any _).mono ?_
          rintro e w7 ⟨rfl, b7⟩
          go_wp2_with fail
          go_ret
          exact ⟨rfl, ext_trans hbw.out b7⟩
  · have NW := Lib.hid (new0_any nm w hn)
    have hn2 : (nm.toList == []) = true := by
      cases hl : nm.toList with
      | nil => rfl
      | cons a l => rw [hl] at hn; cases hn
    replace hn := Lib.hid hn
    go_enter Try.func3, Try.ntmps3
    go_wp2_with fail
    refine (NW.out).mono ?_
    rintro e w1 ⟨rfl, rfl⟩
    go_wp2_with fail
    go_wp2_with fail
    refine (awake_any _).mono ?_
    rintro e w7 ⟨rfl, b7⟩
    go_wp2_with fail
    go_ret
    exact ⟨rfl, b7⟩

set_option maxRecDepth 100000 in
theorem lifted (os : Os) (started : os.Started) (H : Type) (enc : TypeId × Value → H) :
    ReturnsInHanded {} Try.checked os 3 .any (Rows.devicePlaysSpec.pre6 enc Try.prog Try.f3 Rows.devicePlaysRow.domain false) (Rows.devicePlaysSpec.post enc Try.prog Try.f3 false true false false) := by
  refine returnsInHanded_of_change_sized (C := Try.checked) own started (by kernel_rfl) Try.func3
    (ChangeSpec.witness6 (enc := enc) (C := Try.checked) false ⟨#[], #[.string ByteArray.empty, .slice none 0 0], []⟩ 8 (by kernel_rfl) (by kernel_rfl) (by kernel_rfl) (by kernel_rfl)) ?_
  intro W base args ds gs before hval0 hW hcnd hsz0 _
  have hsz : (DataW.weightsEach Try.prog (Try.f3.params.toList ++ Rows.devicePlaysSpec.plain.varTypes Try.prog) (ds ++ gs)).all (· ≤ reachBytes) = true := hsz0
  have hval : ∀ (j : Nat) t v, Try.f3.params[j]? = some t → args[j]? = some v → Value.okWide Try.prog W .any base t v := hval0
  have hW' := hW
  obtain ⟨p, q, hA0, hV, rfl, hfz, hnd⟩ := hW
  have hA : DataW.TrodAll enc Try.prog W 0 (fun _ => true) true Try.f3.params.toList args.toList ds p := hA0
  rw [Try.params3] at hA hval hsz
  obtain ⟨v0, vs0, d0, ds0, p0, q0, hargs, rfl, rfl, h0, r0⟩ := trodAll_cons hA
  obtain ⟨v1, vs1, d1, ds1, p1, q1, rfl, rfl, rfl, h1, r1⟩ := trodAll_cons r0
  obtain ⟨rfl, rfl, rfl⟩ := trodAll_nil r1
  obtain rfl : args = #[v0, v1] := by cases args; simp_all
  obtain ⟨rfl, rfl⟩ := trodVars_none hV
  have k0 := h0
  have lt0 : ∀ x ∈ p0, x.block < W.heap.size := by obtain ⟨m, hm⟩ := k0; exact DataW.trod_lt m _ _ _ hm
  have k1 := h1
  have lt1 : ∀ x ∈ p1, x.block < W.heap.size := by obtain ⟨m, hm⟩ := k1; exact DataW.trod_lt m _ _ _ hm
  obtain ⟨a0, rfl, rfl, rfl, w0⟩ := open_string Try.underlying9 (hval 0 9 v0 rfl rfl) h0
  have s0 : a0.size ≤ 140737488351232 := by
    have := sized_string hsz (j := 0) (t := 9) rfl rfl
    simp only [Array.length_toList, reachBytes] at this
    exact this
  obtain ⟨a1, len1, cap1, rfl⟩ := okWide_slice Try.underlying22 (hval 1 22 v1 rfl rfl)
  obtain ⟨z1, w1, s1⟩ : ∃ l : List Ac, ActsAt W (.slice a1 len1 cap1) l ∧ ∀ f ∈ l, f.good W := by
    obtain ⟨fuel, hf⟩ := h1
    exact open_acts hf (fun n hn => by
      have hm := List.all_eq_true.1 hsz n (DataW.weights_mem_each (j := 1) (t := 22) rfl rfl _ hn)
      simpa [reachBytes] using of_decide_eq_true hm)
  clear hA0 hval0 hsz0
  refine (walk a0 a1 len1 cap1 z1 W s0 w1 s1).mono fun e W' ⟨he, bel⟩ => ?_
  subst he
  exact ⟨_, rfl, _, _, _, [], _, [], hW', trodAll_mk1 (shut_bool Try.underlying4 _), (trodAll_cons_mk (Below.trod laidOut (by kernel_rfl) (of_decide_eq_true (by kernel_rfl)) k0 bel lt0) (trodAll_cons_mk (Below.trod laidOut (by kernel_rfl) (of_decide_eq_true (by kernel_rfl)) k1 bel lt1) trodAll_mk0)), rfl, bel.frame _, fun h => by cases h⟩

theorem over : Rows.devicePlaysRow.holds Try.pinned (OpenSpec.ofChange Rows.devicePlaysSpec) :=
  OpenClaim.holds_of_wide 3 Try.f3 rfl rfl rfl rfl rfl rfl rfl ⟨rfl, rfl, rfl, rfl, rfl⟩ rfl rfl rfl rfl rfl (by kernel_rfl) Try.func3 (by kernel_rfl)
    (of_decide_eq_true (by kernel_rfl)) (by unfold Func.isWrapper; first | (rw [if_pos (by decide +kernel)]; kernel_rfl) | (rw [if_neg (by decide +kernel)]; exact ⟨rfl, rfl⟩))
    (fun os started H enc _ => lifted os started H enc)

theorem proved : Rows.DevicePlaysSaid := over
end Go.Proofs.Ytdljddghbkcddaa.devicePlays
