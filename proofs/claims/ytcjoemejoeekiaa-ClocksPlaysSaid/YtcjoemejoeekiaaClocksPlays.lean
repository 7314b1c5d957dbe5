/-
  ClocksPlays: FOR EVERY INPUT the law returns true and leaves its arguments as they were.
-/
import Derived.Test.YtcjoemejoeekiaaByt
import Derived.Test.YtcjoemejoeekiaaCz
import Derived.Test.YtcjoemejoeekiaaCp
import Derived.Test.YtcjoemejoeekiaaRows
import Derived.WalkKit
import Derived.Deep.RegionHeld3
import Derived.ProofKit
import Derived.OpenShut
import Derived.ShutString
import Derived.ChangeOld
import Derived.Below
import Derived.SizedLaws
import Derived.Lib.SmallJoins
namespace Go.Proofs.Ytcjoemejoeekiaa.clocksPlays
open Go.ChangeShapes Go.WideShapes Go.ChangeAt Go.RowKit
open Go.ChangeMaps (open_string shut_string)
set_option linter.unusedVariables false

theorem own : ownKnob Try.prog.godebug = none := by kernel_rfl
theorem laidOut : laidOutB Try.prog = true := by kernel_rfl

open Cl Que Hp
set_option maxHeartbeats 64000000 in
set_option maxRecDepth 100000 in
theorem walk (ad : Option Addr) (len cap : Nat) (A : List Ak) (w : World) (h0 : AksAt w (.slice ad len cap) A) (ok0 : ∀ f ∈ A, f.ok) :
    Calls Try.prog 3 #[.slice ad len cap] w (Yes w) := by
  obtain ⟨x0, y0, hv0, hl0, hc⟩ := id h0
  simp only [Value.slice.injEq] at hv0
  obtain ⟨rfl, rfl, rfl⟩ := hv0
  have hl0' : (A.length : Int) ≤ 9223372036854775807 := by omega
  have al := alen39
  replace hc := Lib.hid hc
  replace ok0 := Lib.hid ok0
  clear h0 hl0
  have N1 := Lib.hid (dnew w)
  go_enter Try.func3, Try.ntmps3
  go_wp2_with fail
  refine N1.out.mono ?_
  rintro e w1 ⟨rfl, d1, b1⟩
  have N2 := Lib.hid (xnew w1)
  replace d1 := Lib.hid d1
  replace b1 := Lib.hid b1
  clear N1
  go_wp2_with fail
  refine N2.out.mono ?_
  rintro e w2 ⟨rfl, x2, b2⟩
  have O2 : Hid (Oc w.heap.size w2 (w.heap.size + 2) 0 [] 41 w1.heap.size (row8 ft [])) := Lib.hid (Oc.of d1.out b2 x2 d1.out.bw (by decide))
  have B2 : Hid (Below w.heap.size w w2) := Lib.hid (b1.out.trans (b2.mono b1.out.size))
  generalize w1.heap.size = p at *
  clear x2 b2 N2 d1 b1
  go_wp2_with fail
  go_loopw [5] (fun iv wr => ∃ (i n : Nat) (L : List Tm), iv = .int .i64 (i : Int) ∧ i ≤ A.length ∧ i ≤ 80 ∧ n ≤ i ∧ Oc w.heap.size wr (w.heap.size + 2) n L 41 p (row8 ft L) ∧ Below w.heap.size w wr) (fun iv _ => A.length - (intOf iv).toNat)
  case atStart => exact ⟨0, 0, [], rfl, by omega, by omega, by omega, O2.out, B2.out⟩
  case round =>
    obtain ⟨i, n, L, rfl, hi, hi2, hn, h, hb⟩ := hrel
    clear O2 B2
    by_cases hlt : i < A.length ∧ i < 80
    · obtain ⟨hlt0, hlt1⟩ := hlt
      have hlt0' : (i : Int) < (A.length : Int) := by omega
      have hlt1' : (i : Int) < 80 := by omega
      obtain ⟨f, hf⟩ : ∃ f, A[i]? = some f := ⟨_, List.getElem?_eq_getElem hlt0⟩
      obtain ⟨b', o', rfl, hb', k0, k1, k2⟩ := aksAt_at hf hb hc.out
      have hok := ok0.out f (List.mem_of_getElem? hf)
      have P0 : PM w (wr.alloc (.cells f.cells.toArray 28)) (w.heap.size + 2) n L L p wr.heap.size f := by
        refine ⟨h.keep (ext_alloc wr _), hb.trans ((ext_alloc wr _).mono hb.size), heap_alloc_new wr _, h.nd, fun x hx => ?_⟩
        have := h.rg x hx
        omega
      rw [show f.cells.toArray = #[.int .i64 f.a0, .int .i64 f.a1, .int .i64 f.a2] from rfl] at P0
      have hn8 : n ≤ 80000 := by omega
      have hn1 : n ≤ i + 1 := by omega
      have hn2 : n + 1 ≤ i + 1 := by omega
      clear h hb
      replace P0 := Lib.hid P0
      replace hok := Lib.hid hok
      by_cases e0 : f.a0 = 0
      · have q0 : (f.a0 == 0) = true := by simpa using e0
        clear e0
        obtain ⟨LB, hLB⟩ : ∃ LB, LB = (if setE f.a1 f.a2 = 0 then putL L f.a1 f.a2 else L) := ⟨_, rfl⟩
        have TA := Lib.hid (fun W (hW : Below (wr.alloc (.cells #[.int .i64 f.a0, .int .i64 f.a1, .int .i64 f.a2] 28)).heap.size (wr.alloc (.cells #[.int .i64 f.a0, .int .i64 f.a1, .int .i64 f.a2] 28)) W) => pset (P0.out.ext hW) hn8 hok.out)
        have TB := Lib.hid (fun W n' Lc (h : PM w W (w.heap.size + 2) n' Lc L p wr.heap.size f) => pxset h)
        rw [← hLB] at TA TB
        generalize setE f.a1 f.a2 = code at *
        clear hLB
        go_wp2_with fail
        go_region_held3 (fun W => W.cell? ⟨wr.heap.size, 1, none⟩ = some (.int .i64 f.a1) ∧ W.cell? ⟨wr.heap.size, 2, none⟩ = some (.int .i64 f.a2))
          (first | exact P0.out.cells.2 | exact (P0.out.ext (ext_drew _)).cells.2 | exact I5.cells.2 | exact (I5.ext (ext_drew _)).cells.2 | exact I6.cells.2 | exact (I6.ext (ext_drew _)).cells.2)
          (first
            | (go_at_call 14; refine (TA.out _ (by first | exact Below.refl _ _ | exact ext_drew _)).mono ?_; rintro e w5 ⟨rfl, I5⟩)
            | (go_at_call 15; refine (TB.out _ _ _ (by first | exact I5 | exact I5.ext (ext_drew _))).mono ?_; rintro e w6 ⟨rfl, I6⟩))
        all_goals
          have P9 := Lib.hid (show PM w _ _ _ _ _ _ _ _ from (by first | exact I6 | exact I6.ext (ext_drew _)))
          clear I5 I6 TA TB P0
          obtain ⟨ab, P9⟩ : ∃ ab, Hid (PM w _ (w.heap.size + 2) (n + 1) LB LB p ab f) := ⟨_, P9⟩
          obtain ⟨d, bb, hN⟩ := nxp P9.out.rx
          have T1 := Lib.hid (pnext P9.out hN)
          have T2 := Lib.hid (pxnext P9.out hN)
          go_wp2_with fail
          refine T1.out.mono ?_
          rintro e w10 ⟨rfl, rfl⟩
          go_wp2_with fail
          refine T2.out.mono ?_
          rintro e w11 ⟨rfl, b11⟩
          have P11 := Lib.hid (P9.out.ext b11)
          clear b11 T1 T2 hN P9
          go_wp2_with fail
          go_loopw [12, 13] (fun kv uv wq => ∃ u : Nat, uv = .int .i64 (u : Int) ∧ u ≤ 8 ∧ kv = .int .i64 ((cnt LB u : Nat) : Int) ∧ PM w wq (w.heap.size + 2) (n + 1) LB LB p ab f) (fun _ uv _ => 8 - (intOf uv).toNat)
          case atStart => exact ⟨0, rfl, by omega, rfl, P11.out⟩
          case round =>
            obtain ⟨u, rfl, hu, rfl, h⟩ := hrel
            clear P11
            by_cases hu8 : u < 8
            · have hu8' : (u : Int) < 8 := by omega
              have DU := Lib.hid (pdue h hu8)
              have c1 := h.xd.at hu8
              have HH := Lib.hid h
              have cn := Lib.hid (cnt_next LB u)
              have cl := cnt_le LB u
              have cl' : (cnt LB u : Int) ≤ 8 := by omega
              cases hd : dueL LB (u : Int) with
              | none =>
                rw [hd] at DU c1 cn
                replace c1 : wr.cell? ⟨p, u, none⟩ = some (.int .i64 (-1)) := c1
                clear h hd
                go_wp2_with fail
                refine DU.out.mono ?_
                rintro e w12 ⟨rfl, rfl⟩
                go_wp2_with fail
                go_roundw
                case rel => exact ⟨u + 1, by simp, by omega, by rw [cn.out]; simp, HH.out⟩
                case measure => simp [intOf]; omega
              | some d =>
                rw [hd] at DU c1 cn
                replace c1 : wr.cell? ⟨p, u, none⟩ = some (.int .i64 d) := c1
                have d0 : 0 ≤ d := by have := h.rx _ (dueL_some hd); simp only at this; omega
                clear h hd
                go_wp2_with fail
                refine DU.out.mono ?_
                rintro e w12 ⟨rfl, rfl⟩
                go_wp2_with fail
                go_roundw
                case rel => exact ⟨u + 1, by simp, by omega, by rw [cn.out]; simp, HH.out⟩
                case measure => simp [intOf]; omega
            · obtain rfl : u = 8 := by omega
              have LN := Lib.hid (plen h)
              rw [cnt_all h.nx h.rx]
              have l8 := h.o.le8
              have l8' : (LB.length : Int) ≤ 8 := by omega
              have HO := Lib.hid h.o
              have HB := Lib.hid h.bw
              clear h
              go_wp2_with fail
              refine LN.out.mono ?_
              rintro e w12 ⟨rfl, rfl⟩
              go_wp2_with fail
              go_roundw
              case rel => exact ⟨i + 1, (n + 1), LB, by simp, by omega, by omega, by omega, HO.out, HB.out⟩
              case measure => simp [intOf]; omega
      · have q0 : (f.a0 == 0) = false := by simpa using e0
        by_cases e1 : f.a0 = 1
        · have q1 : (f.a0 == 1) = true := by simpa using e1
          clear e0 e1
          obtain ⟨LB, hLB⟩ : ∃ LB, LB = (if setE f.a1 f.a2 = 0 then putL L f.a1 f.a2 else L) := ⟨_, rfl⟩
          have TA := Lib.hid (fun W (hW : Below (wr.alloc (.cells #[.int .i64 f.a0, .int .i64 f.a1, .int .i64 f.a2] 28)).heap.size (wr.alloc (.cells #[.int .i64 f.a0, .int .i64 f.a1, .int .i64 f.a2] 28)) W) => pset (P0.out.ext hW) hn8 hok.out)
          have TB := Lib.hid (fun W n' Lc (h : PM w W (w.heap.size + 2) n' Lc L p wr.heap.size f) => pxset h)
          rw [← hLB] at TA TB
          generalize setE f.a1 f.a2 = code at *
          clear hLB
          go_wp2_with fail
          go_region_held3 (fun W => W.cell? ⟨wr.heap.size, 1, none⟩ = some (.int .i64 f.a1) ∧ W.cell? ⟨wr.heap.size, 2, none⟩ = some (.int .i64 f.a2))
            (first | exact P0.out.cells.2 | exact (P0.out.ext (ext_drew _)).cells.2 | exact I5.cells.2 | exact (I5.ext (ext_drew _)).cells.2 | exact I6.cells.2 | exact (I6.ext (ext_drew _)).cells.2)
            (first
              | (go_at_call 14; refine (TA.out _ (by first | exact Below.refl _ _ | exact ext_drew _)).mono ?_; rintro e w5 ⟨rfl, I5⟩)
              | (go_at_call 15; refine (TB.out _ _ _ (by first | exact I5 | exact I5.ext (ext_drew _))).mono ?_; rintro e w6 ⟨rfl, I6⟩))
          all_goals
            have P9 := Lib.hid (show PM w _ _ _ _ _ _ _ _ from (by first | exact I6 | exact I6.ext (ext_drew _)))
            clear I5 I6 TA TB P0
            obtain ⟨ab, P9⟩ : ∃ ab, Hid (PM w _ (w.heap.size + 2) (n + 1) LB LB p ab f) := ⟨_, P9⟩
            obtain ⟨d, bb, hN⟩ := nxp P9.out.rx
            have T1 := Lib.hid (pnext P9.out hN)
            have T2 := Lib.hid (pxnext P9.out hN)
            go_wp2_with fail
            refine T1.out.mono ?_
            rintro e w10 ⟨rfl, rfl⟩
            go_wp2_with fail
            refine T2.out.mono ?_
            rintro e w11 ⟨rfl, b11⟩
            have P11 := Lib.hid (P9.out.ext b11)
            clear b11 T1 T2 hN P9
            go_wp2_with fail
            go_loopw [12, 13] (fun kv uv wq => ∃ u : Nat, uv = .int .i64 (u : Int) ∧ u ≤ 8 ∧ kv = .int .i64 ((cnt LB u : Nat) : Int) ∧ PM w wq (w.heap.size + 2) (n + 1) LB LB p ab f) (fun _ uv _ => 8 - (intOf uv).toNat)
            case atStart => exact ⟨0, rfl, by omega, rfl, P11.out⟩
            case round =>
              obtain ⟨u, rfl, hu, rfl, h⟩ := hrel
              clear P11
              by_cases hu8 : u < 8
              · have hu8' : (u : Int) < 8 := by omega
                have DU := Lib.hid (pdue h hu8)
                have c1 := h.xd.at hu8
                have HH := Lib.hid h
                have cn := Lib.hid (cnt_next LB u)
                have cl := cnt_le LB u
                have cl' : (cnt LB u : Int) ≤ 8 := by omega
                cases hd : dueL LB (u : Int) with
                | none =>
                  rw [hd] at DU c1 cn
                  replace c1 : wr.cell? ⟨p, u, none⟩ = some (.int .i64 (-1)) := c1
                  clear h hd
                  go_wp2_with fail
                  refine DU.out.mono ?_
                  rintro e w12 ⟨rfl, rfl⟩
                  go_wp2_with fail
                  go_roundw
                  case rel => exact ⟨u + 1, by simp, by omega, by rw [cn.out]; simp, HH.out⟩
                  case measure => simp [intOf]; omega
                | some d =>
                  rw [hd] at DU c1 cn
                  replace c1 : wr.cell? ⟨p, u, none⟩ = some (.int .i64 d) := c1
                  have d0 : 0 ≤ d := by have := h.rx _ (dueL_some hd); simp only at this; omega
                  clear h hd
                  go_wp2_with fail
                  refine DU.out.mono ?_
                  rintro e w12 ⟨rfl, rfl⟩
                  go_wp2_with fail
                  go_roundw
                  case rel => exact ⟨u + 1, by simp, by omega, by rw [cn.out]; simp, HH.out⟩
                  case measure => simp [intOf]; omega
              · obtain rfl : u = 8 := by omega
                have LN := Lib.hid (plen h)
                rw [cnt_all h.nx h.rx]
                have l8 := h.o.le8
                have l8' : (LB.length : Int) ≤ 8 := by omega
                have HO := Lib.hid h.o
                have HB := Lib.hid h.bw
                clear h
                go_wp2_with fail
                refine LN.out.mono ?_
                rintro e w12 ⟨rfl, rfl⟩
                go_wp2_with fail
                go_roundw
                case rel => exact ⟨i + 1, (n + 1), LB, by simp, by omega, by omega, by omega, HO.out, HB.out⟩
                case measure => simp [intOf]; omega
        · have q1 : (f.a0 == 1) = false := by simpa using e1
          by_cases e2 : f.a0 = 2
          · have q2 : (f.a0 == 2) = true := by simpa using e2
            clear e0 e1 e2
            have TA := Lib.hid (fun W (hW : Below (wr.alloc (.cells #[.int .i64 f.a0, .int .i64 f.a1, .int .i64 f.a2] 28)).heap.size (wr.alloc (.cells #[.int .i64 f.a0, .int .i64 f.a1, .int .i64 f.a2] 28)) W) => pdrop (P0.out.ext hW) hn8 hok.out)
            have TB := Lib.hid (fun W n' Lc (h : PM w W (w.heap.size + 2) n' Lc L p wr.heap.size f) => pxdrop h)
            obtain ⟨LB, hLB⟩ : ∃ LB, LB = delL L f.a1 := ⟨_, rfl⟩
            rw [← hLB] at TA TB
            generalize (dueL L f.a1).isSome = code at *
            clear hLB
            go_wp2_with fail
            go_region_held3 (fun W => W.cell? ⟨wr.heap.size, 1, none⟩ = some (.int .i64 f.a1) ∧ W.cell? ⟨wr.heap.size, 2, none⟩ = some (.int .i64 f.a2))
              (first | exact P0.out.cells.2 | exact (P0.out.ext (ext_drew _)).cells.2 | exact I5.cells.2 | exact (I5.ext (ext_drew _)).cells.2 | exact I6.cells.2 | exact (I6.ext (ext_drew _)).cells.2)
              (first
                | (go_at_call 16; refine (TA.out _ (by first | exact Below.refl _ _ | exact ext_drew _)).mono ?_; rintro e w5 ⟨rfl, I5⟩)
                | (go_at_call 17; refine (TB.out _ _ _ (by first | exact I5 | exact I5.ext (ext_drew _))).mono ?_; rintro e w6 ⟨rfl, I6⟩))
            all_goals
              have P9 := Lib.hid (show PM w _ _ _ _ _ _ _ _ from (by first | exact I6 | exact I6.ext (ext_drew _)))
              clear I5 I6 TA TB P0
              obtain ⟨ab, P9⟩ : ∃ ab, Hid (PM w _ (w.heap.size + 2) n LB LB p ab f) := ⟨_, P9⟩
              obtain ⟨d, bb, hN⟩ := nxp P9.out.rx
              have T1 := Lib.hid (pnext P9.out hN)
              have T2 := Lib.hid (pxnext P9.out hN)
              go_wp2_with fail
              refine T1.out.mono ?_
              rintro e w10 ⟨rfl, rfl⟩
              go_wp2_with fail
              refine T2.out.mono ?_
              rintro e w11 ⟨rfl, b11⟩
              have P11 := Lib.hid (P9.out.ext b11)
              clear b11 T1 T2 hN P9
              go_wp2_with fail
              go_loopw [12, 13] (fun kv uv wq => ∃ u : Nat, uv = .int .i64 (u : Int) ∧ u ≤ 8 ∧ kv = .int .i64 ((cnt LB u : Nat) : Int) ∧ PM w wq (w.heap.size + 2) n LB LB p ab f) (fun _ uv _ => 8 - (intOf uv).toNat)
              case atStart => exact ⟨0, rfl, by omega, rfl, P11.out⟩
              case round =>
                obtain ⟨u, rfl, hu, rfl, h⟩ := hrel
                clear P11
                by_cases hu8 : u < 8
                · have hu8' : (u : Int) < 8 := by omega
                  have DU := Lib.hid (pdue h hu8)
                  have c1 := h.xd.at hu8
                  have HH := Lib.hid h
                  have cn := Lib.hid (cnt_next LB u)
                  have cl := cnt_le LB u
                  have cl' : (cnt LB u : Int) ≤ 8 := by omega
                  cases hd : dueL LB (u : Int) with
                  | none =>
                    rw [hd] at DU c1 cn
                    replace c1 : wr.cell? ⟨p, u, none⟩ = some (.int .i64 (-1)) := c1
                    clear h hd
                    go_wp2_with fail
                    refine DU.out.mono ?_
                    rintro e w12 ⟨rfl, rfl⟩
                    go_wp2_with fail
                    go_roundw
                    case rel => exact ⟨u + 1, by simp, by omega, by rw [cn.out]; simp, HH.out⟩
                    case measure => simp [intOf]; omega
                  | some d =>
                    rw [hd] at DU c1 cn
                    replace c1 : wr.cell? ⟨p, u, none⟩ = some (.int .i64 d) := c1
                    have d0 : 0 ≤ d := by have := h.rx _ (dueL_some hd); simp only at this; omega
                    clear h hd
                    go_wp2_with fail
                    refine DU.out.mono ?_
                    rintro e w12 ⟨rfl, rfl⟩
                    go_wp2_with fail
                    go_roundw
                    case rel => exact ⟨u + 1, by simp, by omega, by rw [cn.out]; simp, HH.out⟩
                    case measure => simp [intOf]; omega
                · obtain rfl : u = 8 := by omega
                  have LN := Lib.hid (plen h)
                  rw [cnt_all h.nx h.rx]
                  have l8 := h.o.le8
                  have l8' : (LB.length : Int) ≤ 8 := by omega
                  have HO := Lib.hid h.o
                  have HB := Lib.hid h.bw
                  clear h
                  go_wp2_with fail
                  refine LN.out.mono ?_
                  rintro e w12 ⟨rfl, rfl⟩
                  go_wp2_with fail
                  go_roundw
                  case rel => exact ⟨i + 1, n, LB, by simp, by omega, by omega, by omega, HO.out, HB.out⟩
                  case measure => simp [intOf]; omega
          · have q2 : (f.a0 == 2) = false := by simpa using e2
            by_cases e3 : f.a0 = 3
            · have q3 : (f.a0 == 3) = true := by simpa using e3
              clear e0 e1 e2 e3
              have TA := Lib.hid (fun W (hW : Below (wr.alloc (.cells #[.int .i64 f.a0, .int .i64 f.a1, .int .i64 f.a2] 28)).heap.size (wr.alloc (.cells #[.int .i64 f.a0, .int .i64 f.a1, .int .i64 f.a2] 28)) W) => pfire (P0.out.ext hW) hn8)
              go_wp2_with fail
              go_region_held3 (fun W => W.cell? ⟨wr.heap.size, 1, none⟩ = some (.int .i64 f.a1) ∧ W.cell? ⟨wr.heap.size, 2, none⟩ = some (.int .i64 f.a2))
                (first | exact P0.out.cells.2 | exact (P0.out.ext (ext_drew _)).cells.2 | exact I5.cells.2 | exact (I5.ext (ext_drew _)).cells.2 | exact I6.cells.2 | exact (I6.ext (ext_drew _)).cells.2 | exact I7.cells.2 | exact (I7.ext (ext_drew _)).cells.2)
                (first
                  | (go_at_call 19; refine (TA.out _ (by first | exact Below.refl _ _ | exact ext_drew _)).mono ?_; rintro e w5 ⟨o5, l5, R5, rfl, ⟨B5, ho5⟩, hf5, hl5, I5⟩)
                  | (go_at_call 20; refine (pxfire (by first | exact I5 | exact I5.ext (ext_drew _)) hf5 (by first | exact ho5 | exact own_keep ho5 (ext_drew _))).mono ?_; rintro e w6 ⟨o6, B6, rfl, ho6, ⟨B7, ho7⟩, I6⟩)
                  | (go_at_call 18; refine (ints_any (by first | exact ho7 | exact own_keep ho7 (ext_drew _)) (by first | exact ho6 | exact own_keep ho6 (ext_drew _)) (by omega)).mono ?_; rintro e w7 ⟨rfl, b7⟩; have I7 := (show PM w _ _ _ _ _ _ _ _ from (by first | exact I6.ext b7 | exact (I6.ext (ext_drew _)).ext b7))))
              all_goals
                have P9 := Lib.hid (show PM w _ _ _ _ _ _ _ _ from (by first | exact I7 | exact I7.ext (ext_drew _)))
                clear I5 I6 I7 TA P0 ho5 ho6 ho7 hf5 b7
                obtain ⟨ab, P9⟩ : ∃ ab, Hid (PM w _ (w.heap.size + 2) n R5 R5 p ab f) := ⟨_, P9⟩
                obtain ⟨d, bb, hN⟩ := nxp P9.out.rx
                have T1 := Lib.hid (pnext P9.out hN)
                have T2 := Lib.hid (pxnext P9.out hN)
                go_wp2_with fail
                refine T1.out.mono ?_
                rintro e w10 ⟨rfl, rfl⟩
                go_wp2_with fail
                refine T2.out.mono ?_
                rintro e w11 ⟨rfl, b11⟩
                have P11 := Lib.hid (P9.out.ext b11)
                clear b11 T1 T2 hN P9
                go_wp2_with fail
                go_loopw [12, 13] (fun kv uv wq => ∃ u : Nat, uv = .int .i64 (u : Int) ∧ u ≤ 8 ∧ kv = .int .i64 ((cnt R5 u : Nat) : Int) ∧ PM w wq (w.heap.size + 2) n R5 R5 p ab f) (fun _ uv _ => 8 - (intOf uv).toNat)
                case atStart => exact ⟨0, rfl, by omega, rfl, P11.out⟩
                case round =>
                  obtain ⟨u, rfl, hu, rfl, h⟩ := hrel
                  clear P11
                  by_cases hu8 : u < 8
                  · have hu8' : (u : Int) < 8 := by omega
                    have DU := Lib.hid (pdue h hu8)
                    have c1 := h.xd.at hu8
                    have HH := Lib.hid h
                    have cn := Lib.hid (cnt_next R5 u)
                    have cl := cnt_le R5 u
                    have cl' : (cnt R5 u : Int) ≤ 8 := by omega
                    cases hd : dueL R5 (u : Int) with
                    | none =>
                      rw [hd] at DU c1 cn
                      replace c1 : wr.cell? ⟨p, u, none⟩ = some (.int .i64 (-1)) := c1
                      clear h hd
                      go_wp2_with fail
                      refine DU.out.mono ?_
                      rintro e w12 ⟨rfl, rfl⟩
                      go_wp2_with fail
                      go_roundw
                      case rel => exact ⟨u + 1, by simp, by omega, by rw [cn.out]; simp, HH.out⟩
                      case measure => simp [intOf]; omega
                    | some d =>
                      rw [hd] at DU c1 cn
                      replace c1 : wr.cell? ⟨p, u, none⟩ = some (.int .i64 d) := c1
                      have d0 : 0 ≤ d := by have := h.rx _ (dueL_some hd); simp only at this; omega
                      clear h hd
                      go_wp2_with fail
                      refine DU.out.mono ?_
                      rintro e w12 ⟨rfl, rfl⟩
                      go_wp2_with fail
                      go_roundw
                      case rel => exact ⟨u + 1, by simp, by omega, by rw [cn.out]; simp, HH.out⟩
                      case measure => simp [intOf]; omega
                  · obtain rfl : u = 8 := by omega
                    have LN := Lib.hid (plen h)
                    rw [cnt_all h.nx h.rx]
                    have l8 := h.o.le8
                    have l8' : (R5.length : Int) ≤ 8 := by omega
                    have HO := Lib.hid h.o
                    have HB := Lib.hid h.bw
                    clear h
                    go_wp2_with fail
                    refine LN.out.mono ?_
                    rintro e w12 ⟨rfl, rfl⟩
                    go_wp2_with fail
                    go_roundw
                    case rel => exact ⟨i + 1, n, R5, by simp, by omega, by omega, by omega, HO.out, HB.out⟩
                    case measure => simp [intOf]; omega
            · have q3 : (f.a0 == 3) = false := by simpa using e3
              clear e0 e1 e2 e3
              have P9 := P0
              clear P0
              obtain ⟨ab, P9⟩ : ∃ ab, Hid (PM w _ (w.heap.size + 2) n L L p ab f) := ⟨_, P9⟩
              obtain ⟨d, bb, hN⟩ := nxp P9.out.rx
              have T1 := Lib.hid (pnext P9.out hN)
              have T2 := Lib.hid (pxnext P9.out hN)
              go_wp2_with fail
              refine T1.out.mono ?_
              rintro e w10 ⟨rfl, rfl⟩
              go_wp2_with fail
              refine T2.out.mono ?_
              rintro e w11 ⟨rfl, b11⟩
              have P11 := Lib.hid (P9.out.ext b11)
              clear b11 T1 T2 hN P9
              go_wp2_with fail
              go_loopw [12, 13] (fun kv uv wq => ∃ u : Nat, uv = .int .i64 (u : Int) ∧ u ≤ 8 ∧ kv = .int .i64 ((cnt L u : Nat) : Int) ∧ PM w wq (w.heap.size + 2) n L L p ab f) (fun _ uv _ => 8 - (intOf uv).toNat)
              case atStart => exact ⟨0, rfl, by omega, rfl, P11.out⟩
              case round =>
                obtain ⟨u, rfl, hu, rfl, h⟩ := hrel
                clear P11
                by_cases hu8 : u < 8
                · have hu8' : (u : Int) < 8 := by omega
                  have DU := Lib.hid (pdue h hu8)
                  have c1 := h.xd.at hu8
                  have HH := Lib.hid h
                  have cn := Lib.hid (cnt_next L u)
                  have cl := cnt_le L u
                  have cl' : (cnt L u : Int) ≤ 8 := by omega
                  cases hd : dueL L (u : Int) with
                  | none =>
                    rw [hd] at DU c1 cn
                    replace c1 : wr.cell? ⟨p, u, none⟩ = some (.int .i64 (-1)) := c1
                    clear h hd
                    go_wp2_with fail
                    refine DU.out.mono ?_
                    rintro e w12 ⟨rfl, rfl⟩
                    go_wp2_with fail
                    go_roundw
                    case rel => exact ⟨u + 1, by simp, by omega, by rw [cn.out]; simp, HH.out⟩
                    case measure => simp [intOf]; omega
                  | some d =>
                    rw [hd] at DU c1 cn
                    replace c1 : wr.cell? ⟨p, u, none⟩ = some (.int .i64 d) := c1
                    have d0 : 0 ≤ d := by have := h.rx _ (dueL_some hd); simp only at this; omega
                    clear h hd
                    go_wp2_with fail
                    refine DU.out.mono ?_
                    rintro e w12 ⟨rfl, rfl⟩
                    go_wp2_with fail
                    go_roundw
                    case rel => exact ⟨u + 1, by simp, by omega, by rw [cn.out]; simp, HH.out⟩
                    case measure => simp [intOf]; omega
                · obtain rfl : u = 8 := by omega
                  have LN := Lib.hid (plen h)
                  rw [cnt_all h.nx h.rx]
                  have l8 := h.o.le8
                  have l8' : (L.length : Int) ≤ 8 := by omega
                  have HO := Lib.hid h.o
                  have HB := Lib.hid h.bw
                  clear h
                  go_wp2_with fail
                  refine LN.out.mono ?_
                  rintro e w12 ⟨rfl, rfl⟩
                  go_wp2_with fail
                  go_roundw
                  case rel => exact ⟨i + 1, n, L, by simp, by omega, by omega, by omega, HO.out, HB.out⟩
                  case measure => simp [intOf]; omega
    · have BW := Lib.hid hb
      clear h hb
      by_cases c5 : i < A.length
      all_goals
        first
          | (have c6 : ¬ (i : Int) < 80 := by omega
             have c7 : (i : Int) < (A.length : Int) := by omega)
          | (have c7 : ¬ (i : Int) < (A.length : Int) := by omega)
        clear hlt c5
        go_wp2_with fail
        refine (awake26_any _).mono ?_
        rintro e w3 ⟨rfl, b3⟩
        go_wp2
        go_ret
        exact ⟨rfl, ext_trans BW.out b3⟩

set_option maxRecDepth 100000 in
theorem lifted (os : Os) (started : os.Started) (H : Type) (enc : TypeId × Value → H) :
    ReturnsInHanded {} Try.checked os 3 .any (Rows.clocksPlaysSpec.pre6 enc Try.prog Try.f3 Rows.clocksPlaysRow.domain false) (Rows.clocksPlaysSpec.post enc Try.prog Try.f3 false true false false) := by
  refine returnsInHanded_of_change_sized (C := Try.checked) own started (by kernel_rfl) Try.func3
    (ChangeSpec.witness6 (enc := enc) (C := Try.checked) false ⟨#[], #[.slice none 0 0], []⟩ 8 (by kernel_rfl) (by kernel_rfl) (by kernel_rfl) (by kernel_rfl)) ?_
  intro W base args ds gs before hval0 hW hcnd hsz0 _
  have hsz : (DataW.weightsEach Try.prog (Try.f3.params.toList ++ Rows.clocksPlaysSpec.plain.varTypes Try.prog) (ds ++ gs)).all (· ≤ reachBytes) = true := hsz0
  have hval : ∀ (j : Nat) t v, Try.f3.params[j]? = some t → args[j]? = some v → Value.okWide Try.prog W .any base t v := hval0
  have hW' := hW
  obtain ⟨p, q, hA0, hV, rfl, hfz, hnd⟩ := hW
  have hA : DataW.TrodAll enc Try.prog W 0 (fun _ => true) true Try.f3.params.toList args.toList ds p := hA0
  rw [Try.params3] at hA hval hsz
  obtain ⟨v0, vs0, d0, ds0, p0, q0, hargs, rfl, rfl, h0, r0⟩ := trodAll_cons hA
  obtain ⟨rfl, rfl, rfl⟩ := trodAll_nil r0
  obtain rfl : args = #[v0] := by cases args; simp_all
  obtain ⟨rfl, rfl⟩ := trodVars_none hV
  have k0 := h0
  have lt0 : ∀ x ∈ p0, x.block < W.heap.size := by obtain ⟨m, hm⟩ := k0; exact DataW.trod_lt m _ _ _ hm
  obtain ⟨a0, len0, cap0, rfl⟩ := okWide_slice Try.underlying22 (hval 0 22 v0 rfl rfl)
  obtain ⟨z0, w0, s0⟩ : ∃ l : List Ak, AksAt W (.slice a0 len0 cap0) l ∧ ∀ f ∈ l, f.ok := by
    obtain ⟨fuel, hf⟩ := h0
    exact open_aks hf (fun n hn => by
      have hm := List.all_eq_true.1 hsz n (DataW.weights_mem_each (j := 0) (t := 22) rfl rfl _ hn)
      simpa [reachBytes] using of_decide_eq_true hm)
  clear hA0 hval0 hsz0
  refine (walk a0 len0 cap0 z0 W w0 s0).mono fun e W' ⟨he, bel⟩ => ?_
  subst he
  exact ⟨_, rfl, _, _, _, [], _, [], hW', trodAll_mk1 (shut_bool Try.underlying4 _), (trodAll_cons_mk (Below.trod laidOut (by kernel_rfl) (of_decide_eq_true (by kernel_rfl)) k0 bel lt0) trodAll_mk0), rfl, bel.frame _, fun h => by cases h⟩

theorem over : Rows.clocksPlaysRow.holds Try.pinned (OpenSpec.ofChange Rows.clocksPlaysSpec) :=
  OpenClaim.holds_of_wide 3 Try.f3 rfl rfl rfl rfl rfl rfl rfl ⟨rfl, rfl, rfl, rfl, rfl⟩ rfl rfl rfl rfl rfl (by kernel_rfl) Try.func3 (by kernel_rfl)
    (of_decide_eq_true (by kernel_rfl)) (by unfold Func.isWrapper; first | (rw [if_pos (by decide +kernel)]; kernel_rfl) | (rw [if_neg (by decide +kernel)]; exact ⟨rfl, rfl⟩))
    (fun os started H enc _ => lifted os started H enc)

theorem proved : Rows.ClocksPlaysSaid := over
end Go.Proofs.Ytcjoemejoeekiaa.clocksPlays
