/-
  SessionsPlays: FOR EVERY INPUT the law returns true and leaves its arguments as they were.
-/
import Derived.Test.YtdcfenkllpfbaaaCe
import Derived.Test.YtdcfenkllpfbaaaAs
import Derived.Test.YtdcfenkllpfbaaaRows
import Derived.BigQuiet
import Derived.Deep.QuietTactic
import Derived.Deep.RegionHeld3
import Derived.Lib.AtoiErrMem
import Derived.WalkKit
import Derived.ProofKit
import Derived.OpenShut
import Derived.ShutString
import Derived.ChangeOld
import Derived.Below
import Derived.SizedLaws
import Derived.Lib.SmallJoins
namespace Go.Proofs.Ytdcfenkllpfbaaa.sessionsPlays
set_option linter.unusedSimpArgs false
open Go.ChangeShapes Go.WideShapes Go.ChangeAt Go.RowKit
open Go.ChangeMaps (open_string shut_string)
set_option linter.unusedVariables false

theorem own : ownKnob Try.prog.godebug = none := by kernel_rfl
theorem laidOut : laidOutB Try.prog = true := by kernel_rfl

open Sns Que
def V0 : List (Option Vw) := List.replicate 8 none
theorem bo_stands {w0 w : World} {t x : Nat} {n : Int} {V : List (Option Vw)} (h : Bo w0 t x n V V w) (hn : n ≤ 1000) : Calls Try.prog 23 #[.pointer (some ⟨t, 0, none⟩), .pointer (some ⟨x, 0, none⟩)] w fun e w' => e = .returned (.bool true) ∧ Bo w0 t x n V V w' := by
  obtain ⟨L, D, h1, h2, h3⟩ := h
  refine (stands_any h3 (h1.trans h2.symm) hn).mono ?_
  rintro e w' ⟨rfl, h4⟩
  exact ⟨rfl, L, D, h1, h2, h4⟩
theorem bo_start {w0 w1 : World} {t : Nat} (h : St w1 t 0 (List.replicate 8 none)) (hb : Below w0.heap.size w0 w1) (ht : w0.heap.size ≤ t) :
    Bo w0 t w1.heap.size 0 V0 V0 (w1.alloc (.cells #[.pointer none, .pointer none, .pointer none, .pointer none, .pointer none, .pointer none, .pointer none, .pointer none] 59)) := by
  refine ⟨List.replicate 8 none, List.replicate 8 none, rfl, rfl, h.ext (ext_alloc _ _), ⟨heap_alloc_new _ _, hb.size, rfl, ?_, ?_⟩, hb.alloc hb.size _, ht, ?_⟩
  · intro i z hi
    rw [List.getElem?_replicate] at hi
    split at hi <;> simp at hi
  · intro i j y z hi
    rw [List.getElem?_replicate] at hi
    split at hi <;> simp at hi
  · intro i z hi
    rw [List.getElem?_replicate] at hi
    split at hi <;> simp at hi
theorem bo_dnone {w0 w : World} {t x : Nat} {n : Int} {V U : List (Option Vw)} (h : Bo w0 t x n V U w) {i : Nat} (hi : U[i]? = some none) : w.cell? ⟨x, i, none⟩ = some (.pointer none) := by
  obtain ⟨L, D, h1, rfl, h3⟩ := h
  have := h3.d.cell (getD0 hi)
  simpa [cellD] using this
/-- The block of an act. -/
def ActB (W : World) (b : Nat) (K : Int) (cl : ByteArray) (cn : Bool) (sl : Int) : Prop := W.heap[b]? = some (.cells #[.int .i64 K, .string cl, .bool cn, .int .i64 sl] 52 (0, 0))
theorem ActB.cs {W : World} {b : Nat} {K : Int} {cl : ByteArray} {cn : Bool} {sl : Int} (h : ActB W b K cl cn sl) : W.cell? ⟨b, 0, none⟩ = some (.int .i64 K) ∧ W.cell? ⟨b, 1, none⟩ = some (.string cl) ∧ W.cell? ⟨b, 2, none⟩ = some (.bool cn) ∧ W.cell? ⟨b, 3, none⟩ = some (.int .i64 sl) :=
  ⟨cell_of_row W b 0 _ 52 (0, 0) h, cell_of_row W b 1 _ 52 (0, 0) h, cell_of_row W b 2 _ 52 (0, 0) h, cell_of_row W b 3 _ 52 (0, 0) h⟩
theorem ActB.kx {W W' : World} {b : Nat} {K : Int} {cl : ByteArray} {cn : Bool} {sl : Int} (h : ActB W b K cl cn sl) (k : Kx W W') : ActB W' b K cl cn sl := k b _ h
set_option maxHeartbeats 64000000 in
set_option maxRecDepth 100000 in
theorem walk (ad : Option Addr) (len cap : Nat) (A : List Acs.Ac) (w : World) (h0 : Acs.AcsAt w (.slice ad len cap) A) (ok0 : ∀ f ∈ A, f.ok) :
    Calls Try.prog 6 #[.slice ad len cap] w (Yes w) := by
  obtain ⟨x0, y0, hv0, hl0, hc⟩ := id h0
  simp only [Value.slice.injEq] at hv0
  obtain ⟨rfl, rfl, rfl⟩ := hv0
  have hl0' : (A.length : Int) ≤ 9223372036854775807 := by omega
  replace hc := Lib.hid hc
  replace ok0 := Lib.hid ok0
  clear h0 hl0
  go_enter Try.func6, Try.ntmps6
  go_wp2_with fail
  refine (st_new _).mono ?_
  rintro e w1 ⟨rfl, h1, b1⟩
  have S1 := Lib.hid (bo_start h1 b1 (Nat.le_refl _))
  clear h1 b1
  go_wp2_with fail
  generalize hW2 : w1.alloc (.cells #[.pointer none, .pointer none, .pointer none, .pointer none, .pointer none, .pointer none, .pointer none, .pointer none] 59) = w2 at *
  generalize hX : w1.heap.size = x at *
  clear hW2 hX
  go_loopw [5] (fun iv wr => ∃ i : Nat, iv = .int .i64 (i : Int) ∧ i ≤ A.length ∧ i ≤ 80 ∧ ∃ V, Bo w w.heap.size x (2 * (i : Int)) V V wr) (fun iv _ => A.length - (intOf iv).toNat)
  case atStart => exact ⟨0, rfl, by omega, by omega, _, S1.out⟩
  case round =>
    obtain ⟨i, rfl, hi, hi2, V, hb⟩ := hrel
    clear S1
    by_cases hlt : i < A.length ∧ i < 80
    · obtain ⟨hlt0, hlt1⟩ := hlt
      obtain ⟨y, hy⟩ : ∃ y, A[i]? = some y := ⟨_, List.getElem?_eq_getElem hlt0⟩
      have hok := (ok0.out y (List.mem_of_getElem? hy)).2.1
      obtain ⟨K, cl, cn, sl⟩ := y
      obtain ⟨b', o', e', -, c0, c1, c2, c3⟩ := Acs.acsAt_at hy hb.bw hc.out
      subst e'
      simp only at c0 c1 c2 c3 hok
      have hlt0' : (i : Int) < (A.length : Int) := by omega
      have hlt1' : (i : Int) < 80 := by omega
      have hlens := hb.lens.1
      have AB : Hid (ActB (wr.alloc (.cells #[.int .i64 K, .string cl, .bool cn, .int .i64 sl] 52)) wr.heap.size K cl cn sl) := Lib.hid (heap_alloc_new wr _)
      have B1 := Lib.hid (hb.ext (ext_alloc wr (.cells #[.int .i64 K, .string cl, .bool cn, .int .i64 sl] 52)))
      have hok' := Lib.hid hok
      clear hb hy hok
      have k0 : (wr.alloc (.cells #[.int .i64 K, .string cl, .bool cn, .int .i64 sl] 52)).cell? ⟨wr.heap.size, 0, none⟩ = some (.int .i64 K) := AB.out.cs.1
      by_cases hK : K = 0
      · skip
        subst hK
        obtain ⟨k0, k1, k2, k3⟩ := AB.out.cs
        have OP := Lib.hid (bo_popen B1.out (by omega) cl cn hok'.out)
        go_wp2_with fail
        refine OP.out.mono ?_
        rintro e w3 ⟨rfl, B3, kx3⟩
        have AB3 := Lib.hid (AB.out.kx kx3)
        clear k0 k1 k2 k3
        obtain ⟨k0, k1, k2, k3⟩ := AB3.out.cs
        have OD := Lib.hid (bo_dopen B3 (by omega) cl cn hok'.out)
        clear OP B3 kx3
        go_wp2_with fail
        refine OD.out.mono ?_
        rintro e w4 ⟨rfl, B4, kx4⟩
        replace B4 := Lib.hid B4
        clear k0 k1 k2 k3 OD kx4 c0 c1 c2 c3
        generalize (opV cl cn V).1 = v1
        generalize (opV cl cn V).2.1 = v2
        generalize (opV cl cn V).2.2.1 = v3
        have ST := Lib.hid (bo_stands (B4.out.more (show _ ≤ 2 * (i : Int) + 2 by omega)) (by omega))
        go_wp2_with fail
        refine ST.out.mono ?_
        rintro e w9 ⟨rfl, B9⟩
        have B10 := Lib.hid B9
        clear B9 ST
        go_wp2_with fail
        go_roundw
        case rel => exact ⟨i + 1, by simp, by omega, by omega, _, (by rw [show 2 * ((i + 1 : Nat) : Int) = 2 * (i : Int) + 2 by omega]; exact B10.out)⟩
        case measure => simp [intOf]; omega
      by_cases hK1 : K = 1
      · skip
        subst hK1
        obtain ⟨k0, k1, k2, k3⟩ := AB.out.cs
        have OP := Lib.hid (bo_popen B1.out (by omega) cl cn hok'.out)
        go_wp2_with fail
        refine OP.out.mono ?_
        rintro e w3 ⟨rfl, B3, kx3⟩
        have AB3 := Lib.hid (AB.out.kx kx3)
        clear k0 k1 k2 k3
        obtain ⟨k0, k1, k2, k3⟩ := AB3.out.cs
        have OD := Lib.hid (bo_dopen B3 (by omega) cl cn hok'.out)
        clear OP B3 kx3
        go_wp2_with fail
        refine OD.out.mono ?_
        rintro e w4 ⟨rfl, B4, kx4⟩
        replace B4 := Lib.hid B4
        clear k0 k1 k2 k3 OD kx4 c0 c1 c2 c3
        generalize (opV cl cn V).1 = v1
        generalize (opV cl cn V).2.1 = v2
        generalize (opV cl cn V).2.2.1 = v3
        have ST := Lib.hid (bo_stands (B4.out.more (show _ ≤ 2 * (i : Int) + 2 by omega)) (by omega))
        go_wp2_with fail
        refine ST.out.mono ?_
        rintro e w9 ⟨rfl, B9⟩
        have B10 := Lib.hid B9
        clear B9 ST
        go_wp2_with fail
        go_roundw
        case rel => exact ⟨i + 1, by simp, by omega, by omega, _, (by rw [show 2 * ((i + 1 : Nat) : Int) = 2 * (i : Int) + 2 by omega]; exact B10.out)⟩
        case measure => simp [intOf]; omega
      by_cases hK2 : K = 2
      · skip
        subst hK2
        obtain ⟨k0, k1, k2, k3⟩ := AB.out.cs
        have DP := Lib.hid (fun W (hW : Below (wr.alloc (.cells #[.int .i64 2, .string cl, .bool cn, .int .i64 sl] 52)).heap.size (wr.alloc (.cells #[.int .i64 2, .string cl, .bool cn, .int .i64 sl] 52)) W) => bo_pdrop (B1.out.ext hW) sl)
        have KO := Lib.hid (fun W (hW : Below (wr.alloc (.cells #[.int .i64 2, .string cl, .bool cn, .int .i64 sl] 52)).heap.size (wr.alloc (.cells #[.int .i64 2, .string cl, .bool cn, .int .i64 sl] 52)) W) => (AB.out.kx (Kx.of_ext hW)).cs.2.2.2)
        have AK := Lib.hid (fun W (hW : Below (wr.alloc (.cells #[.int .i64 2, .string cl, .bool cn, .int .i64 sl] 52)).heap.size (wr.alloc (.cells #[.int .i64 2, .string cl, .bool cn, .int .i64 sl] 52)) W) => AB.out.kx (Kx.of_ext hW))
        go_wp2_with fail
        clear c0 c1 c2 c3 k0 k1 k2 k3
        generalize hW : (wr.alloc (.cells #[.int .i64 2, .string cl, .bool cn, .int .i64 sl] 52)) = w2x at *
        clear hW
        go_region_held3 (fun W => W.cell? ⟨wr.heap.size, 3, none⟩ = some (.int .i64 sl))
          (first | exact KO.out _ (by first | exact Below.refl _ _ | exact ext_drew _ | assumption) | exact KA.out _ (by first | exact Below.refl _ _ | exact ext_drew _ | assumption) | exact KB.out _ (by first | exact Below.refl _ _ | exact ext_drew _ | assumption))
          (first
            | (go_at_call 10; refine (DP.out _ (by first | exact Below.refl _ _ | exact ext_drew _ | assumption)).mono ?_; rintro e w3 ⟨rfl, B3, kx3⟩; have AB3 := Lib.hid ((AK.out _ (by first | exact Below.refl _ _ | exact ext_drew _ | assumption)).kx kx3); have KA := Lib.hid (fun W (hW : Below w3.heap.size w3 W) => (AB3.out.kx (Kx.of_ext hW)).cs.2.2.2); have DD := Lib.hid (fun W (hW : Below w3.heap.size w3 W) => bo_ddrop (B3.ext hW) sl); have AK3 := Lib.hid (fun W (hW : Below w3.heap.size w3 W) => AB3.out.kx (Kx.of_ext hW)); clear B3 kx3)
            | (go_at_call 20; refine (DD.out _ (by first | exact Below.refl _ _ | exact ext_drew _ | assumption)).mono ?_; rintro e w4 ⟨rfl, B4, kx4⟩; have AB4 := Lib.hid ((AK3.out _ (by first | exact Below.refl _ _ | exact ext_drew _ | assumption)).kx kx4); have KB := Lib.hid (fun W (hW : Below w4.heap.size w4 W) => (AB4.out.kx (Kx.of_ext hW)).cs.2.2.2); have B4h := Lib.hid B4; clear B4 kx4))
        all_goals
          clear KO KA KB DP DD AK AK3 AB3 AB4 AB
          have ST := Lib.hid (bo_stands (B4h.out.more (show _ ≤ 2 * (i : Int) + 2 by omega)) (by omega))
          go_wp2_with fail
          refine ST.out.mono ?_
          rintro e w9 ⟨rfl, B9⟩
          have B10 := Lib.hid B9
          clear B9 ST
          go_wp2_with fail
          go_roundw
          case rel => exact ⟨i + 1, by simp, by omega, by omega, _, (by rw [show 2 * ((i + 1 : Nat) : Int) = 2 * (i : Int) + 2 by omega]; exact B10.out)⟩
          case measure => simp [intOf]; omega
      by_cases hK3 : K = 3
      · skip
        subst hK3
        have BX : Hid (∀ W, Below (wr.alloc (.cells #[.int .i64 3, .string cl, .bool cn, .int .i64 sl] 52)).heap.size (wr.alloc (.cells #[.int .i64 3, .string cl, .bool cn, .int .i64 sl] 52)) W → ActB W wr.heap.size 3 cl cn sl ∧ Bo w w.heap.size x (2 * (i : Int)) V V W) := Lib.hid (fun W hW => ⟨AB.out.kx (Kx.of_ext hW), B1.out.ext hW⟩)
        clear AB
        go_wp2_with fail
        clear c0 c1 c2 c3 k0
        generalize hW : (wr.alloc (.cells #[.int .i64 3, .string cl, .bool cn, .int .i64 sl] 52)) = w2x at *
        clear hW
        by_cases hs0 : sl < 0
        · have hs0' : ¬ (0 : Int) ≤ sl := by omega
          have hd0 : decide ((0 : Int) ≤ sl) = false := by simpa using hs0
          have k3 := (BX.out _ (Below.refl _ _)).1.cs.2.2.2
          go_quiet (fail)
          have Bq := Lib.hid (BX.out _ (ext_drewN w2x nq)).2
          clear BX k3 B1
          have ST := Lib.hid (bo_stands (Bq.out.more (show _ ≤ 2 * (i : Int) + 2 by omega)) (by omega))
          go_wp2_with fail
          refine ST.out.mono ?_
          rintro e w9 ⟨rfl, B9⟩
          have B10 := Lib.hid B9
          clear B9 ST
          go_wp2_with fail
          go_roundw
          case rel => exact ⟨i + 1, by simp, by omega, by omega, _, (by rw [show 2 * ((i + 1 : Nat) : Int) = 2 * (i : Int) + 2 by omega]; exact B10.out)⟩
          case measure => simp [intOf]; omega
        by_cases hs8 : 8 ≤ sl
        · have hs8' : ¬ sl < 8 := by omega
          have hs0' : (0 : Int) ≤ sl := by omega
          have hd0 : decide ((0 : Int) ≤ sl) = true := by simpa using hs0'
          have hd8 : decide (sl < (8 : Int)) = false := by simpa using hs8
          have k3 := (BX.out _ (Below.refl _ _)).1.cs.2.2.2
          go_quiet (fail)
          have Bq := Lib.hid (BX.out _ (ext_drewN w2x nq)).2
          clear BX k3 B1
          have ST := Lib.hid (bo_stands (Bq.out.more (show _ ≤ 2 * (i : Int) + 2 by omega)) (by omega))
          go_wp2_with fail
          refine ST.out.mono ?_
          rintro e w9 ⟨rfl, B9⟩
          have B10 := Lib.hid B9
          clear B9 ST
          go_wp2_with fail
          go_roundw
          case rel => exact ⟨i + 1, by simp, by omega, by omega, _, (by rw [show 2 * ((i + 1 : Nat) : Int) = 2 * (i : Int) + 2 by omega]; exact B10.out)⟩
          case measure => simp [intOf]; omega
        obtain ⟨j, rfl⟩ := Int.eq_ofNat_of_zero_le (show 0 ≤ sl by omega)
        have hj8 : (j : Int) < 8 := by omega
        have hj0 : (0 : Int) ≤ (j : Int) := by omega
        have hd0 : decide ((0 : Int) ≤ (j : Int)) = true := by simp
        have hd8 : decide ((j : Int) < (8 : Int)) = true := by simp; omega
        obtain ⟨v, hv⟩ : ∃ v, V[j]? = some v := ⟨_, List.getElem?_eq_getElem (by omega)⟩
        cases v with
        | none =>
          have k3 := (BX.out _ (Below.refl _ _)).1.cs.2.2.2
          have kx := bo_dnone (BX.out _ (Below.refl _ _)).2 hv
          go_quiet (fail)
          have Bq := Lib.hid (BX.out _ (ext_drewN w2x nq)).2
          clear BX k3 B1
          have ST := Lib.hid (bo_stands (Bq.out.more (show _ ≤ 2 * (i : Int) + 2 by omega)) (by omega))
          go_wp2_with fail
          refine ST.out.mono ?_
          rintro e w9 ⟨rfl, B9⟩
          have B10 := Lib.hid B9
          clear B9 ST
          go_wp2_with fail
          go_roundw
          case rel => exact ⟨i + 1, by simp, by omega, by omega, _, (by rw [show 2 * ((i + 1 : Nat) : Int) = 2 * (i : Int) + 2 by omega]; exact B10.out)⟩
          case measure => simp [intOf]; omega
        | some c =>
          obtain ⟨d0, hd, -⟩ := bo_dslot (BX.out _ (Below.refl _ _)).2 (by omega) hv
          have k3 := (BX.out _ (Below.refl _ _)).1.cs.2.2.2
          go_quiet (fail)
          have BY := Lib.hid (fun W (hW : Below (w2x.drewN nq).heap.size (w2x.drewN nq) W) => BX.out W (ext_trans (ext_drewN _ _) hW))
          clear BX k3 hd B1
          go_wp2_with fail
          generalize hW3 : w2x.drewN nq = w3x at *
          clear hW3
          obtain ⟨d, hd, DL⟩ := bo_dslot (BY.out _ (Below.refl _ _)).2 (by omega) hv
          replace DL := Lib.hid DL
          have KO := Lib.hid (fun W (hW : Below w3x.heap.size w3x W) => (show W.cell? ⟨wr.heap.size, 3, none⟩ = some (.int .i64 (j : Int)) ∧ W.cell? ⟨x, j, none⟩ = some (.pointer (some ⟨d, 0, none⟩)) from ⟨(BY.out W hW).1.cs.2.2.2, (hW.cell (Lib.lt_of_cell hd)).trans hd⟩))
          clear hd
          go_region_held3 (fun W => W.cell? ⟨wr.heap.size, 3, none⟩ = some (.int .i64 (j : Int)) ∧ W.cell? ⟨x, j, none⟩ = some (.pointer (some ⟨d, 0, none⟩)))
            (first | exact KO.out _ (by first | exact Below.refl _ _ | exact ext_drew _ | assumption) | exact KA.out)
            (first
              | (go_at_call 21; refine (DL.out _ _ _ _ (by first | exact Below.refl _ _ | exact ext_drew _ | assumption)).mono ?_; rintro e w4 ⟨⟨v4, rfl⟩, B4, kx4, cx4⟩; have AB4 := Lib.hid ((BY.out _ (by first | exact Below.refl _ _ | exact ext_drew _ | assumption)).1.kx kx4); have KA : Hid (w4.cell? ⟨wr.heap.size, 3, none⟩ = some (.int .i64 (j : Int)) ∧ w4.cell? ⟨x, j, none⟩ = some (.pointer (some ⟨d, 0, none⟩))) := Lib.hid ⟨AB4.out.cs.2.2.2, cx4⟩; have B4h := Lib.hid B4; clear B4 kx4 cx4))
          all_goals
            obtain ⟨s, AT, -, -, DP⟩ := bo_pslot B4h.out (by omega) hv
            have k3 := AB4.out.cs.2.2.2
            have AT4 := Lib.hid (AT w4 (Below.refl _ _))
            have DP4 := Lib.hid (fun tp y r => DP w4 tp y r (Below.refl _ _))
            clear AT DP KO KA DL BY
            go_wp2_with fail
            refine AT4.out.mono ?_
            rintro e w5 ⟨rfl, rfl⟩
            go_wp2_with fail
            refine (DP4.out _ _ _).mono ?_
            rintro e w5 ⟨⟨v5, rfl⟩, B5, -⟩
            replace B5 := Lib.hid B5
            clear AT4 DP4 B4h AB4 k3
            have ST := Lib.hid (bo_stands (B5.out.more (show _ ≤ 2 * (i : Int) + 2 by omega)) (by omega))
            go_wp2_with fail
            refine ST.out.mono ?_
            rintro e w9 ⟨rfl, B9⟩
            have B10 := Lib.hid B9
            clear B9 ST
            go_wp2_with fail
            go_roundw
            case rel => exact ⟨i + 1, by simp, by omega, by omega, _, (by rw [show 2 * ((i + 1 : Nat) : Int) = 2 * (i : Int) + 2 by omega]; exact B10.out)⟩
            case measure => simp [intOf]; omega
      · skip
        obtain ⟨k0, k1, k2, k3⟩ := AB.out.cs
        have FP := Lib.hid (bo_pfind B1.out cl)
        go_wp2_with fail
        refine FP.out.mono ?_
        rintro e w3 ⟨rfl, B3, kx3⟩
        have AB3 := Lib.hid (AB.out.kx kx3)
        clear k0 k1 k2 k3
        obtain ⟨k0, k1, k2, k3⟩ := AB3.out.cs
        have FD := Lib.hid (bo_dfind B3 cl)
        replace B3 := Lib.hid B3
        clear FP kx3
        go_wp2_with fail
        refine FD.out.mono ?_
        rintro e w4 ⟨rfl, rfl⟩
        clear k0 k1 k2 k3 FD c0 c1 c2 c3
        generalize (fdA (fdV cl V 0)).1 = v1
        generalize (fdA (fdV cl V 0)).2 = v2
        have ST := Lib.hid (bo_stands (B3.out.more (show _ ≤ 2 * (i : Int) + 2 by omega)) (by omega))
        go_wp2_with fail
        refine ST.out.mono ?_
        rintro e w9 ⟨rfl, B9⟩
        have B10 := Lib.hid B9
        clear B9 ST
        go_wp2_with fail
        go_roundw
        case rel => exact ⟨i + 1, by simp, by omega, by omega, _, (by rw [show 2 * ((i + 1 : Nat) : Int) = 2 * (i : Int) + 2 by omega]; exact B10.out)⟩
        case measure => simp [intOf]; omega
    · have B0 := Lib.hid hb.bw
      clear hb
      rcases Nat.lt_or_ge i A.length with hl | hl
      · have hlt' : (i : Int) < (A.length : Int) := by omega
        have hlt2' : ¬ (i : Int) < 80 := by omega
        go_wp2_with fail
        refine (awake28_any _).mono ?_
        rintro e w6 ⟨rfl, b6⟩
        go_wp2_with fail
        go_ret
        exact ⟨rfl, ext_trans B0.out b6⟩
      · have hlt' : ¬ (i : Int) < (A.length : Int) := by omega
        go_wp2_with fail
        refine (awake28_any _).mono ?_
        rintro e w6 ⟨rfl, b6⟩
        go_wp2_with fail
        go_ret
        exact ⟨rfl, ext_trans B0.out b6⟩

set_option maxRecDepth 100000 in
theorem lifted (os : Os) (started : os.Started) (H : Type) (enc : TypeId × Value → H) :
    ReturnsInHanded {} Try.checked os 6 .any (Rows.sessionsPlaysSpec.pre6 enc Try.prog Try.f6 Rows.sessionsPlaysRow.domain false) (Rows.sessionsPlaysSpec.post enc Try.prog Try.f6 false true false false) := by
  refine returnsInHanded_of_change_sized (C := Try.checked) own started (by kernel_rfl) Try.func6
    (ChangeSpec.witness6 (enc := enc) (C := Try.checked) false ⟨#[], #[.slice none 0 0], []⟩ 8 (by kernel_rfl) (by kernel_rfl) (by kernel_rfl) (by kernel_rfl)) ?_
  intro W base args ds gs before hval0 hW hcnd hsz0 _
  have hsz : (DataW.weightsEach Try.prog (Try.f6.params.toList ++ Rows.sessionsPlaysSpec.plain.varTypes Try.prog) (ds ++ gs)).all (· ≤ reachBytes) = true := hsz0
  have hval : ∀ (j : Nat) t v, Try.f6.params[j]? = some t → args[j]? = some v → Value.okWide Try.prog W .any base t v := hval0
  have hW' := hW
  obtain ⟨p, q, hA0, hV, rfl, hfz, hnd⟩ := hW
  have hA : DataW.TrodAll enc Try.prog W 0 (fun _ => true) true Try.f6.params.toList args.toList ds p := hA0
  rw [Try.params6] at hA hval hsz
  obtain ⟨v0, vs0, d0, ds0, p0, q0, hargs, rfl, rfl, h0, r0⟩ := trodAll_cons hA
  obtain ⟨rfl, rfl, rfl⟩ := trodAll_nil r0
  obtain rfl : args = #[v0] := by cases args; simp_all
  obtain ⟨rfl, rfl⟩ := trodVars_none hV
  have k0 := h0
  have lt0 : ∀ x ∈ p0, x.block < W.heap.size := by obtain ⟨m, hm⟩ := k0; exact DataW.trod_lt m _ _ _ hm
  obtain ⟨a0, len0, cap0, rfl⟩ := okWide_slice Try.underlying50 (hval 0 50 v0 rfl rfl)
  obtain ⟨z0, w0, s0⟩ : ∃ l : List Acs.Ac, Acs.AcsAt W (.slice a0 len0 cap0) l ∧ ∀ f ∈ l, f.ok := by
    obtain ⟨fuel, hf⟩ := h0
    exact Acs.open_acs hf (fun n hn => by
      have hm := List.all_eq_true.1 hsz n (DataW.weights_mem_each (j := 0) (t := 50) rfl rfl _ hn)
      simpa [reachBytes] using of_decide_eq_true hm)
  clear hA0 hval0 hsz0
  refine (walk a0 len0 cap0 z0 W w0 s0).mono fun e W' ⟨he, bel⟩ => ?_
  subst he
  exact ⟨_, rfl, _, _, _, [], _, [], hW', trodAll_mk1 (shut_bool Try.underlying4 _), (trodAll_cons_mk (Below.trod laidOut (by kernel_rfl) (of_decide_eq_true (by kernel_rfl)) k0 bel lt0) trodAll_mk0), rfl, bel.frame _, fun h => by cases h⟩

theorem over : Rows.sessionsPlaysRow.holds Try.pinned (OpenSpec.ofChange Rows.sessionsPlaysSpec) :=
  OpenClaim.holds_of_wide 6 Try.f6 rfl rfl rfl rfl rfl rfl rfl ⟨rfl, rfl, rfl, rfl, rfl⟩ rfl rfl rfl rfl rfl (by kernel_rfl) Try.func6 (by kernel_rfl)
    (of_decide_eq_true (by kernel_rfl)) (by unfold Func.isWrapper; first | (rw [if_pos (by decide +kernel)]; kernel_rfl) | (rw [if_neg (by decide +kernel)]; exact ⟨rfl, rfl⟩))
    (fun os started H enc _ => lifted os started H enc)

theorem proved : Rows.SessionsPlaysSaid := over
end Go.Proofs.Ytdcfenkllpfbaaa.sessionsPlays
