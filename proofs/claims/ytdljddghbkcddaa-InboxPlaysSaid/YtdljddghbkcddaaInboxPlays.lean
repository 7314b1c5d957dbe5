/-
  InboxPlays: FOR EVERY INPUT the law returns true and leaves its arguments as they were.
-/
import Derived.Test.YtdljddghbkcddaaJh
import Derived.Test.YtdljddghbkcddaaByt
import Derived.Test.YtdljddghbkcddaaRows
import Derived.WalkKit
import Derived.ProofKit
import Derived.OpenShut
import Derived.ShutString
import Derived.ChangeOld
import Derived.Below
import Derived.SizedLaws
import Derived.Lib.SmallJoins
namespace Go.Proofs.Ytdljddghbkcddaa.inboxPlays
open Go.ChangeShapes Go.WideShapes Go.ChangeAt Go.RowKit
open Go.ChangeMaps (open_string shut_string)
set_option linter.unusedVariables false

theorem own : ownKnob Try.prog.godebug = none := by kernel_rfl
theorem laidOut : laidOutB Try.prog = true := by kernel_rfl

open Inb
theorem Ir.some {w W : World} {xs : List Int} {n : Nat} {vx : Value} {l : List Int} (h : Ir w W xs n vx l) : ∃ ys m v k, Ir w W ys m v k := ⟨_, _, _, _, h⟩
structure Lq (w wr : World) (len k : Nat) (xs : List Int) (n : Nat) (vx : Value) (l : List Int) : Prop where
  kl : k ≤ len
  k8 : k ≤ 80
  ir : Ir w wr xs n vx l
set_option maxHeartbeats 16000000 in
set_option maxRecDepth 100000 in
theorem walk (a : Option Addr) (len cap : Nat) (z : List Int) (w : World) (h0 : IsRow .i64 w a len cap z) (s0 : cap * 8 ≤ 140737488351232) :
    Calls Try.prog 7 #[.slice a len cap] w (Yes w) := by
  obtain ⟨hl, hlc⟩ := h0.len_le
  have hl' : (len : Int) ≤ 9223372036854775807 := by omega
  have C0 := Lib.hid h0.cellAt
  have NW := Lib.hid (new24_more w)
  clear h0
  go_enter Try.func7, Try.ntmps7
  go_wp2_with fail
  refine (NW.out).mono ?_
  rintro e w1 ⟨rfl, t1, b1, z1⟩
  have I1 := Lib.hid (Ir.mk (w := w) (vx := .slice none 0 0) (l := []) (t1.keep (ext_alloc w1 (.cells #[.slice none 0 0] 70)) t1.lt) (by simp) sorted_nil (⟨by rw [← z1]; exact heap_alloc_new w1 _, World.ownsRow_nil _ _ _ _⟩) (b1.alloc b1.size (.cells #[.slice none 0 0] 70)))
  clear t1 b1
  go_wp2_with fail
  replace z1 := Lib.hid z1
  go_loopw [5] (fun iv wr => ∃ (k : Nat) (xs : List Int) (n : Nat) (vx : Value) (l : List Int), iv = .int .i64 (k : Int) ∧ Lq w wr len k xs n vx l) (fun iv _ => len - (intOf iv).toNat)
  case atStart => exact ⟨0, _, 0, _, [], rfl, by omega, by omega, I1.out⟩
  case round =>
    obtain ⟨k, xs, n, vx, l, rfl, hkl, hk8, hir⟩ := hrel
    by_cases hlt : k < len ∧ k < 80
    · obtain ⟨hlt0, hlt1⟩ := hlt
      have hc0 : ∃ b0 o, a = some ⟨b0, o, none⟩ ∧ b0 < w.heap.size ∧ w.cell? ⟨b0, o + k, none⟩ = some (.int .i64 (z.getD k 0)) ∧ -9223372036854775808 ≤ z.getD k 0 ∧ z.getD k 0 ≤ 9223372036854775807 := by
        rcases C0.out with h | ⟨b0, o, ha, hb, h⟩
        · omega
        · exact ⟨b0, o, ha, hb, (h k hlt0).1, wf_i64 (h k hlt0).2⟩
      obtain ⟨b0, o0, rfl, hb0, hcell0, hz0, hz1⟩ := hc0
      generalize z.getD k 0 = c at *
      have hlt0' : (k : Int) < len := by omega
      have hlt1' : (k : Int) < 80 := by omega
      have cW : wr.cell? ⟨b0, o0 + k, none⟩ = some (.int .i64 c) := (hir.bw.cell (by simpa using hb0)).trans hcell0
      have xc := hir.xb.cell
      obtain ⟨va, vc, rfl⟩ := own_slice hir.xb.its
      have hle := hir.le
      have hle' : (l.length : Int) ≤ 16 := by omega
      have hln := hir.len
      subst hln
      have XF := hir.xb.free 0
      replace hir := Lib.hid hir
      clear hcell0
      by_cases hc0 : c = 0
      · subst hc0
        by_cases hn : l.length = 0
        · obtain rfl : l = [] := List.eq_nil_of_length_eq_zero hn
          obtain ⟨vy, i2⟩ := hir.out.clear0
          have CN := Lib.hid (clear_none _ _ _ i2.bx)
          have I2 := Lib.hid i2
          clear i2
          go_wp2_with fail
          refine CN.out.mono ?_
          rintro e w' ⟨rfl, rfl⟩
          go_wp2_with fail
          obtain ⟨xs2, n2, v2, l2, i2⟩ := Ir.some I2.out
          clear I2
          have I2 := Lib.hid i2
          clear i2
          have AL := Lib.hid (all_any _ _ _ _ I2.out.bx)
          go_wp2_with fail
          refine (AL.out).mono ?_
          rintro e w2 ⟨v, rfl, o2, -, b2⟩
          have I3 := (I2.out.next b2).norm
          rw [I2.out.tk] at o2
          have HL := I3.le
          have HL' : (l2.length : Int) ≤ 16 := by omega
          obtain ⟨va2, vc2, rfl⟩ := own_slice o2
          have x3 := I3.xb.cell
          obtain ⟨vya, vyc, rfl⟩ := own_slice I3.xb.its
          have LN := Lib.hid (fun n => len_any _ _ _ _ (I3.bx.drewN n))
          replace o2 := Lib.hid (own_il o2 rfl rfl)
          replace I3 := Lib.hid I3
          clear b2 AL
          go_wp2_with fail
          go_quiet ((go_at_call 33; exact Calls.quiet_of_same ((LN.out _).mono fun _ _ h => ⟨h.1, h.2.symm⟩)))
          go_wp2_with fail
          go_loopw [13] (fun jv W => ∃ j : Nat, jv = .int .i64 (j : Int) ∧ j ≤ l2.length ∧ Below w2.heap.size w2 W) (fun jv _ => l2.length - (intOf jv).toNat)
          case atStart => exact ⟨0, rfl, by omega, ext_drewN _ _⟩
          case round =>
            obtain ⟨j, rfl, hj, hbj⟩ := hrel
            have I4 := I3.out.next hbj
            by_cases hend : j = l2.length
            · subst hend
              replace I4 := Lib.hid I4
              clear hbj
              go_wp2_with fail
              go_roundw
              case rel => exact ⟨k + 1, _, _, _, _, by simp, by omega, by omega, I4.out⟩
              case measure => simp [intOf]; omega
            have jlt : j < l2.length := by omega
            have jlt' : (j : Int) < (l2.length : Int) := by omega
            obtain ⟨g3, cc3, h3⟩ := own_slice' (own_keep o2.out hbj) (by omega)
            obtain ⟨g4, cc4, h4⟩ := own_slice' I4.xb.its (by omega)
            have c3 := own_keep o2.out hbj
            rw [h3] at c3
            have c4 := I4.xb.its
            rw [h4] at c4
            have d3 := own_int c3 jlt
            have d4 := own_int c4 jlt
            have x4 := I4.xb.cell
            simp only [Value.slice.injEq] at h3 h4
            obtain ⟨rfl, -, rfl⟩ := h3
            obtain ⟨rfl, -, rfl⟩ := h4
            generalize l2.getD j 0 = y at d3 d4
            replace hbj := Lib.hid hbj
            clear I4 c3 c4
            go_wp2_with fail
            go_quiet (fail)
            go_wp2_with fail
            go_roundw
            case rel => exact ⟨j + 1, by simp, by omega, below_drewN hbj.out _⟩
            case measure => simp [intOf]; omega
        · have CN := Lib.hid (clear_any _ _ _ _ hir.out.gone.1 (by omega))
          go_wp2_with fail
          refine CN.out.mono ?_
          rintro e w3 ⟨rfl, b5, g5⟩
          obtain ⟨vy, i2⟩ := hir.out.clear1 b5 g5
          have I2 := Lib.hid i2
          clear i2 b5 g5
          go_wp2_with fail
          obtain ⟨xs2, n2, v2, l2, i2⟩ := Ir.some I2.out
          clear I2
          have I2 := Lib.hid i2
          clear i2
          have AL := Lib.hid (all_any _ _ _ _ I2.out.bx)
          go_wp2_with fail
          refine (AL.out).mono ?_
          rintro e w2 ⟨v, rfl, o2, -, b2⟩
          have I3 := (I2.out.next b2).norm
          rw [I2.out.tk] at o2
          have HL := I3.le
          have HL' : (l2.length : Int) ≤ 16 := by omega
          obtain ⟨va2, vc2, rfl⟩ := own_slice o2
          have x3 := I3.xb.cell
          obtain ⟨vya, vyc, rfl⟩ := own_slice I3.xb.its
          have LN := Lib.hid (fun n => len_any _ _ _ _ (I3.bx.drewN n))
          replace o2 := Lib.hid (own_il o2 rfl rfl)
          replace I3 := Lib.hid I3
          clear b2 AL
          go_wp2_with fail
          go_quiet ((go_at_call 33; exact Calls.quiet_of_same ((LN.out _).mono fun _ _ h => ⟨h.1, h.2.symm⟩)))
          go_wp2_with fail
          go_loopw [13] (fun jv W => ∃ j : Nat, jv = .int .i64 (j : Int) ∧ j ≤ l2.length ∧ Below w2.heap.size w2 W) (fun jv _ => l2.length - (intOf jv).toNat)
          case atStart => exact ⟨0, rfl, by omega, ext_drewN _ _⟩
          case round =>
            obtain ⟨j, rfl, hj, hbj⟩ := hrel
            have I4 := I3.out.next hbj
            by_cases hend : j = l2.length
            · subst hend
              replace I4 := Lib.hid I4
              clear hbj
              go_wp2_with fail
              go_roundw
              case rel => exact ⟨k + 1, _, _, _, _, by simp, by omega, by omega, I4.out⟩
              case measure => simp [intOf]; omega
            have jlt : j < l2.length := by omega
            have jlt' : (j : Int) < (l2.length : Int) := by omega
            obtain ⟨g3, cc3, h3⟩ := own_slice' (own_keep o2.out hbj) (by omega)
            obtain ⟨g4, cc4, h4⟩ := own_slice' I4.xb.its (by omega)
            have c3 := own_keep o2.out hbj
            rw [h3] at c3
            have c4 := I4.xb.its
            rw [h4] at c4
            have d3 := own_int c3 jlt
            have d4 := own_int c4 jlt
            have x4 := I4.xb.cell
            simp only [Value.slice.injEq] at h3 h4
            obtain ⟨rfl, -, rfl⟩ := h3
            obtain ⟨rfl, -, rfl⟩ := h4
            generalize l2.getD j 0 = y at d3 d4
            replace hbj := Lib.hid hbj
            clear I4 c3 c4
            go_wp2_with fail
            go_quiet (fail)
            go_wp2_with fail
            go_roundw
            case rel => exact ⟨j + 1, by simp, by omega, below_drewN hbj.out _⟩
            case measure => simp [intOf]; omega
      · have hcb : (c == 0) = false := by simpa using hc0
        by_cases hneg : c < 0 ∧ -100000 < c
        · obtain ⟨hn1, hn2⟩ := hneg
          by_cases hm : -c ∈ l
          · have DY := Lib.hid (done_yes _ _ _ (-c) _ hir.out.bx hir.out.so' (hir.out.found hm))
            replace hm := Lib.hid hm
            go_wp2_with fail
            refine DY.out.mono ?_
            rintro e w3 ⟨rfl, A, M, R, zz, hx, b3, g3⟩
            have XD := Lib.hid (xdone_yes (hir.out.xb.beside hir.out.bx (by omega) g3) hle hm.out)
            replace hx := Lib.hid hx
            replace b3 := Lib.hid b3
            replace g3 := Lib.hid g3
            go_wp2_with fail
            refine XD.out.mono ?_
            rintro e w4 ⟨rfl, ⟨vy, x4⟩, g4⟩
            have I2 := Lib.hid (hir.out.done hx.out b3.out g3.out x4 g4)
            clear x4 g4
            go_wp2_with fail
            obtain ⟨xs2, n2, v2, l2, i2⟩ := Ir.some I2.out
            clear I2
            have I2 := Lib.hid i2
            clear i2
            have AL := Lib.hid (all_any _ _ _ _ I2.out.bx)
            go_wp2_with fail
            refine (AL.out).mono ?_
            rintro e w2 ⟨v, rfl, o2, -, b2⟩
            have I3 := (I2.out.next b2).norm
            rw [I2.out.tk] at o2
            have HL := I3.le
            have HL' : (l2.length : Int) ≤ 16 := by omega
            obtain ⟨va2, vc2, rfl⟩ := own_slice o2
            have x3 := I3.xb.cell
            obtain ⟨vya, vyc, rfl⟩ := own_slice I3.xb.its
            have LN := Lib.hid (fun n => len_any _ _ _ _ (I3.bx.drewN n))
            replace o2 := Lib.hid (own_il o2 rfl rfl)
            replace I3 := Lib.hid I3
            clear b2 AL
            go_wp2_with fail
            go_quiet ((go_at_call 33; exact Calls.quiet_of_same ((LN.out _).mono fun _ _ h => ⟨h.1, h.2.symm⟩)))
            go_wp2_with fail
            go_loopw [13] (fun jv W => ∃ j : Nat, jv = .int .i64 (j : Int) ∧ j ≤ l2.length ∧ Below w2.heap.size w2 W) (fun jv _ => l2.length - (intOf jv).toNat)
            case atStart => exact ⟨0, rfl, by omega, ext_drewN _ _⟩
            case round =>
              obtain ⟨j, rfl, hj, hbj⟩ := hrel
              have I4 := I3.out.next hbj
              by_cases hend : j = l2.length
              · subst hend
                replace I4 := Lib.hid I4
                clear hbj
                go_wp2_with fail
                go_roundw
                case rel => exact ⟨k + 1, _, _, _, _, by simp, by omega, by omega, I4.out⟩
                case measure => simp [intOf]; omega
              have jlt : j < l2.length := by omega
              have jlt' : (j : Int) < (l2.length : Int) := by omega
              obtain ⟨g3, cc3, h3⟩ := own_slice' (own_keep o2.out hbj) (by omega)
              obtain ⟨g4, cc4, h4⟩ := own_slice' I4.xb.its (by omega)
              have c3 := own_keep o2.out hbj
              rw [h3] at c3
              have c4 := I4.xb.its
              rw [h4] at c4
              have d3 := own_int c3 jlt
              have d4 := own_int c4 jlt
              have x4 := I4.xb.cell
              simp only [Value.slice.injEq] at h3 h4
              obtain ⟨rfl, -, rfl⟩ := h3
              obtain ⟨rfl, -, rfl⟩ := h4
              generalize l2.getD j 0 = y at d3 d4
              replace hbj := Lib.hid hbj
              clear I4 c3 c4
              go_wp2_with fail
              go_quiet (fail)
              go_wp2_with fail
              go_roundw
              case rel => exact ⟨j + 1, by simp, by omega, below_drewN hbj.out _⟩
              case measure => simp [intOf]; omega
          · have DY := Lib.hid (done_no _ _ _ (-c) _ hir.out.bx hir.out.so' (hir.out.missed hm))
            replace hm := Lib.hid hm
            go_wp2_with fail
            refine DY.out.mono ?_
            rintro e w3 ⟨m, rfl, rfl⟩
            have XD := Lib.hid (xdone_no (hir.out.next (ext_drewN wr m)).xb hle hm.out)
            go_wp2_with fail
            refine XD.out.mono ?_
            rintro e w4 ⟨rfl, ⟨vy, x4⟩, g4⟩
            have I2 := Lib.hid ((hir.out.next (ext_drewN wr m)).xstep x4 g4)
            clear x4 g4
            go_wp2_with fail
            obtain ⟨xs2, n2, v2, l2, i2⟩ := Ir.some I2.out
            clear I2
            have I2 := Lib.hid i2
            clear i2
            have AL := Lib.hid (all_any _ _ _ _ I2.out.bx)
            go_wp2_with fail
            refine (AL.out).mono ?_
            rintro e w2 ⟨v, rfl, o2, -, b2⟩
            have I3 := (I2.out.next b2).norm
            rw [I2.out.tk] at o2
            have HL := I3.le
            have HL' : (l2.length : Int) ≤ 16 := by omega
            obtain ⟨va2, vc2, rfl⟩ := own_slice o2
            have x3 := I3.xb.cell
            obtain ⟨vya, vyc, rfl⟩ := own_slice I3.xb.its
            have LN := Lib.hid (fun n => len_any _ _ _ _ (I3.bx.drewN n))
            replace o2 := Lib.hid (own_il o2 rfl rfl)
            replace I3 := Lib.hid I3
            clear b2 AL
            go_wp2_with fail
            go_quiet ((go_at_call 33; exact Calls.quiet_of_same ((LN.out _).mono fun _ _ h => ⟨h.1, h.2.symm⟩)))
            go_wp2_with fail
            go_loopw [13] (fun jv W => ∃ j : Nat, jv = .int .i64 (j : Int) ∧ j ≤ l2.length ∧ Below w2.heap.size w2 W) (fun jv _ => l2.length - (intOf jv).toNat)
            case atStart => exact ⟨0, rfl, by omega, ext_drewN _ _⟩
            case round =>
              obtain ⟨j, rfl, hj, hbj⟩ := hrel
              have I4 := I3.out.next hbj
              by_cases hend : j = l2.length
              · subst hend
                replace I4 := Lib.hid I4
                clear hbj
                go_wp2_with fail
                go_roundw
                case rel => exact ⟨k + 1, _, _, _, _, by simp, by omega, by omega, I4.out⟩
                case measure => simp [intOf]; omega
              have jlt : j < l2.length := by omega
              have jlt' : (j : Int) < (l2.length : Int) := by omega
              obtain ⟨g3, cc3, h3⟩ := own_slice' (own_keep o2.out hbj) (by omega)
              obtain ⟨g4, cc4, h4⟩ := own_slice' I4.xb.its (by omega)
              have c3 := own_keep o2.out hbj
              rw [h3] at c3
              have c4 := I4.xb.its
              rw [h4] at c4
              have d3 := own_int c3 jlt
              have d4 := own_int c4 jlt
              have x4 := I4.xb.cell
              simp only [Value.slice.injEq] at h3 h4
              obtain ⟨rfl, -, rfl⟩ := h3
              obtain ⟨rfl, -, rfl⟩ := h4
              generalize l2.getD j 0 = y at d3 d4
              replace hbj := Lib.hid hbj
              clear I4 c3 c4
              go_wp2_with fail
              go_quiet (fail)
              go_wp2_with fail
              go_roundw
              case rel => exact ⟨j + 1, by simp, by omega, below_drewN hbj.out _⟩
              case measure => simp [intOf]; omega
        · by_cases hbad : c < 1 ∨ 65535 < c
          · by_cases hx : 0 ≤ c
            · have hn1 : ¬ c < 0 := by omega
              have CB := Lib.hid (come_bad _ _ _ c _ hir.out.bx hbad)
              have XB := Lib.hid (xcome_bad (w := wr) (w.heap.size + 1) c hbad)
              replace hbad := Lib.hid hbad
              clear hneg hc0
              go_wp2_with fail
              refine CB.out.mono ?_
              rintro e w3 ⟨rfl, rfl⟩
              go_wp2_with fail
              refine XB.out.mono ?_
              rintro e w3 ⟨rfl, rfl⟩
              have I2 := hir
              go_wp2_with fail
              obtain ⟨xs2, n2, v2, l2, i2⟩ := Ir.some I2.out
              clear I2
              have I2 := Lib.hid i2
              clear i2
              have AL := Lib.hid (all_any _ _ _ _ I2.out.bx)
              go_wp2_with fail
              refine (AL.out).mono ?_
              rintro e w2 ⟨v, rfl, o2, -, b2⟩
              have I3 := (I2.out.next b2).norm
              rw [I2.out.tk] at o2
              have HL := I3.le
              have HL' : (l2.length : Int) ≤ 16 := by omega
              obtain ⟨va2, vc2, rfl⟩ := own_slice o2
              have x3 := I3.xb.cell
              obtain ⟨vya, vyc, rfl⟩ := own_slice I3.xb.its
              have LN := Lib.hid (fun n => len_any _ _ _ _ (I3.bx.drewN n))
              replace o2 := Lib.hid (own_il o2 rfl rfl)
              replace I3 := Lib.hid I3
              clear b2 AL
              go_wp2_with fail
              go_quiet ((go_at_call 33; exact Calls.quiet_of_same ((LN.out _).mono fun _ _ h => ⟨h.1, h.2.symm⟩)))
              go_wp2_with fail
              go_loopw [13] (fun jv W => ∃ j : Nat, jv = .int .i64 (j : Int) ∧ j ≤ l2.length ∧ Below w2.heap.size w2 W) (fun jv _ => l2.length - (intOf jv).toNat)
              case atStart => exact ⟨0, rfl, by omega, ext_drewN _ _⟩
              case round =>
                obtain ⟨j, rfl, hj, hbj⟩ := hrel
                have I4 := I3.out.next hbj
                by_cases hend : j = l2.length
                · subst hend
                  replace I4 := Lib.hid I4
                  clear hbj
                  go_wp2_with fail
                  go_roundw
                  case rel => exact ⟨k + 1, _, _, _, _, by simp, by omega, by omega, I4.out⟩
                  case measure => simp [intOf]; omega
                have jlt : j < l2.length := by omega
                have jlt' : (j : Int) < (l2.length : Int) := by omega
                obtain ⟨g3, cc3, h3⟩ := own_slice' (own_keep o2.out hbj) (by omega)
                obtain ⟨g4, cc4, h4⟩ := own_slice' I4.xb.its (by omega)
                have c3 := own_keep o2.out hbj
                rw [h3] at c3
                have c4 := I4.xb.its
                rw [h4] at c4
                have d3 := own_int c3 jlt
                have d4 := own_int c4 jlt
                have x4 := I4.xb.cell
                simp only [Value.slice.injEq] at h3 h4
                obtain ⟨rfl, -, rfl⟩ := h3
                obtain ⟨rfl, -, rfl⟩ := h4
                generalize l2.getD j 0 = y at d3 d4
                replace hbj := Lib.hid hbj
                clear I4 c3 c4
                go_wp2_with fail
                go_quiet (fail)
                go_wp2_with fail
                go_roundw
                case rel => exact ⟨j + 1, by simp, by omega, below_drewN hbj.out _⟩
                case measure => simp [intOf]; omega
            · have hn1 : c < 0 := by omega
              have hn2 : ¬ -100000 < c := by omega
              have CB := Lib.hid (come_bad _ _ _ c _ hir.out.bx hbad)
              have XB := Lib.hid (xcome_bad (w := wr) (w.heap.size + 1) c hbad)
              replace hbad := Lib.hid hbad
              clear hneg hc0
              go_wp2_with fail
              refine CB.out.mono ?_
              rintro e w3 ⟨rfl, rfl⟩
              go_wp2_with fail
              refine XB.out.mono ?_
              rintro e w3 ⟨rfl, rfl⟩
              have I2 := hir
              go_wp2_with fail
              obtain ⟨xs2, n2, v2, l2, i2⟩ := Ir.some I2.out
              clear I2
              have I2 := Lib.hid i2
              clear i2
              have AL := Lib.hid (all_any _ _ _ _ I2.out.bx)
              go_wp2_with fail
              refine (AL.out).mono ?_
              rintro e w2 ⟨v, rfl, o2, -, b2⟩
              have I3 := (I2.out.next b2).norm
              rw [I2.out.tk] at o2
              have HL := I3.le
              have HL' : (l2.length : Int) ≤ 16 := by omega
              obtain ⟨va2, vc2, rfl⟩ := own_slice o2
              have x3 := I3.xb.cell
              obtain ⟨vya, vyc, rfl⟩ := own_slice I3.xb.its
              have LN := Lib.hid (fun n => len_any _ _ _ _ (I3.bx.drewN n))
              replace o2 := Lib.hid (own_il o2 rfl rfl)
              replace I3 := Lib.hid I3
              clear b2 AL
              go_wp2_with fail
              go_quiet ((go_at_call 33; exact Calls.quiet_of_same ((LN.out _).mono fun _ _ h => ⟨h.1, h.2.symm⟩)))
              go_wp2_with fail
              go_loopw [13] (fun jv W => ∃ j : Nat, jv = .int .i64 (j : Int) ∧ j ≤ l2.length ∧ Below w2.heap.size w2 W) (fun jv _ => l2.length - (intOf jv).toNat)
              case atStart => exact ⟨0, rfl, by omega, ext_drewN _ _⟩
              case round =>
                obtain ⟨j, rfl, hj, hbj⟩ := hrel
                have I4 := I3.out.next hbj
                by_cases hend : j = l2.length
                · subst hend
                  replace I4 := Lib.hid I4
                  clear hbj
                  go_wp2_with fail
                  go_roundw
                  case rel => exact ⟨k + 1, _, _, _, _, by simp, by omega, by omega, I4.out⟩
                  case measure => simp [intOf]; omega
                have jlt : j < l2.length := by omega
                have jlt' : (j : Int) < (l2.length : Int) := by omega
                obtain ⟨g3, cc3, h3⟩ := own_slice' (own_keep o2.out hbj) (by omega)
                obtain ⟨g4, cc4, h4⟩ := own_slice' I4.xb.its (by omega)
                have c3 := own_keep o2.out hbj
                rw [h3] at c3
                have c4 := I4.xb.its
                rw [h4] at c4
                have d3 := own_int c3 jlt
                have d4 := own_int c4 jlt
                have x4 := I4.xb.cell
                simp only [Value.slice.injEq] at h3 h4
                obtain ⟨rfl, -, rfl⟩ := h3
                obtain ⟨rfl, -, rfl⟩ := h4
                generalize l2.getD j 0 = y at d3 d4
                replace hbj := Lib.hid hbj
                clear I4 c3 c4
                go_wp2_with fail
                go_quiet (fail)
                go_wp2_with fail
                go_roundw
                case rel => exact ⟨j + 1, by simp, by omega, below_drewN hbj.out _⟩
                case measure => simp [intOf]; omega
          · have hn1 : ¬ c < 0 := by omega
            have k1 : 1 ≤ c := by omega
            have k2 : c ≤ 65535 := by omega
            clear hneg hbad hc0
            by_cases hm : c ∈ l
            · have CB := Lib.hid (come_there _ _ _ c _ hir.out.bx hir.out.so' k1 k2 (hir.out.found hm))
              replace hm := Lib.hid hm
              go_wp2_with fail
              refine CB.out.mono ?_
              rintro e w3 ⟨m, rfl, rfl⟩
              have XB := Lib.hid (xcome_there (hir.out.next (ext_drewN wr m)).xb hir.out.so k1 k2 hle hm.out)
              go_wp2_with fail
              refine XB.out.mono ?_
              rintro e w3 ⟨rfl, rfl⟩
              have I2 := Lib.hid (hir.out.next (ext_drewN wr m))
              go_wp2_with fail
              obtain ⟨xs2, n2, v2, l2, i2⟩ := Ir.some I2.out
              clear I2
              have I2 := Lib.hid i2
              clear i2
              have AL := Lib.hid (all_any _ _ _ _ I2.out.bx)
              go_wp2_with fail
              refine (AL.out).mono ?_
              rintro e w2 ⟨v, rfl, o2, -, b2⟩
              have I3 := (I2.out.next b2).norm
              rw [I2.out.tk] at o2
              have HL := I3.le
              have HL' : (l2.length : Int) ≤ 16 := by omega
              obtain ⟨va2, vc2, rfl⟩ := own_slice o2
              have x3 := I3.xb.cell
              obtain ⟨vya, vyc, rfl⟩ := own_slice I3.xb.its
              have LN := Lib.hid (fun n => len_any _ _ _ _ (I3.bx.drewN n))
              replace o2 := Lib.hid (own_il o2 rfl rfl)
              replace I3 := Lib.hid I3
              clear b2 AL
              go_wp2_with fail
              go_quiet ((go_at_call 33; exact Calls.quiet_of_same ((LN.out _).mono fun _ _ h => ⟨h.1, h.2.symm⟩)))
              go_wp2_with fail
              go_loopw [13] (fun jv W => ∃ j : Nat, jv = .int .i64 (j : Int) ∧ j ≤ l2.length ∧ Below w2.heap.size w2 W) (fun jv _ => l2.length - (intOf jv).toNat)
              case atStart => exact ⟨0, rfl, by omega, ext_drewN _ _⟩
              case round =>
                obtain ⟨j, rfl, hj, hbj⟩ := hrel
                have I4 := I3.out.next hbj
                by_cases hend : j = l2.length
                · subst hend
                  replace I4 := Lib.hid I4
                  clear hbj
                  go_wp2_with fail
                  go_roundw
                  case rel => exact ⟨k + 1, _, _, _, _, by simp, by omega, by omega, I4.out⟩
                  case measure => simp [intOf]; omega
                have jlt : j < l2.length := by omega
                have jlt' : (j : Int) < (l2.length : Int) := by omega
                obtain ⟨g3, cc3, h3⟩ := own_slice' (own_keep o2.out hbj) (by omega)
                obtain ⟨g4, cc4, h4⟩ := own_slice' I4.xb.its (by omega)
                have c3 := own_keep o2.out hbj
                rw [h3] at c3
                have c4 := I4.xb.its
                rw [h4] at c4
                have d3 := own_int c3 jlt
                have d4 := own_int c4 jlt
                have x4 := I4.xb.cell
                simp only [Value.slice.injEq] at h3 h4
                obtain ⟨rfl, -, rfl⟩ := h3
                obtain ⟨rfl, -, rfl⟩ := h4
                generalize l2.getD j 0 = y at d3 d4
                replace hbj := Lib.hid hbj
                clear I4 c3 c4
                go_wp2_with fail
                go_quiet (fail)
                go_wp2_with fail
                go_roundw
                case rel => exact ⟨j + 1, by simp, by omega, below_drewN hbj.out _⟩
                case measure => simp [intOf]; omega
            · by_cases hfull : l.length = 16
              · have CB := Lib.hid (come_full _ _ c _ (by have h := hir.out.bx; rw [hfull] at h; exact h) (by have h := hir.out.so'; rw [hfull] at h; exact h) k1 k2 (by have h := hir.out.missed hm; rw [hfull] at h; exact h))
                replace hm := Lib.hid hm
                replace hfull := Lib.hid hfull
                go_wp2_with fail
                refine CB.out.mono ?_
                rintro e w3 ⟨m, rfl, rfl⟩
                have XB := Lib.hid (xcome_full (hir.out.next (ext_drewN wr m)).xb hir.out.so k1 k2 hfull.out hm.out)
                go_wp2_with fail
                refine XB.out.mono ?_
                rintro e w3 ⟨rfl, rfl⟩
                have I2 := Lib.hid (hir.out.next (ext_drewN wr m))
                go_wp2_with fail
                obtain ⟨xs2, n2, v2, l2, i2⟩ := Ir.some I2.out
                clear I2
                have I2 := Lib.hid i2
                clear i2
                have AL := Lib.hid (all_any _ _ _ _ I2.out.bx)
                go_wp2_with fail
                refine (AL.out).mono ?_
                rintro e w2 ⟨v, rfl, o2, -, b2⟩
                have I3 := (I2.out.next b2).norm
                rw [I2.out.tk] at o2
                have HL := I3.le
                have HL' : (l2.length : Int) ≤ 16 := by omega
                obtain ⟨va2, vc2, rfl⟩ := own_slice o2
                have x3 := I3.xb.cell
                obtain ⟨vya, vyc, rfl⟩ := own_slice I3.xb.its
                have LN := Lib.hid (fun n => len_any _ _ _ _ (I3.bx.drewN n))
                replace o2 := Lib.hid (own_il o2 rfl rfl)
                replace I3 := Lib.hid I3
                clear b2 AL
                go_wp2_with fail
                go_quiet ((go_at_call 33; exact Calls.quiet_of_same ((LN.out _).mono fun _ _ h => ⟨h.1, h.2.symm⟩)))
                go_wp2_with fail
                go_loopw [13] (fun jv W => ∃ j : Nat, jv = .int .i64 (j : Int) ∧ j ≤ l2.length ∧ Below w2.heap.size w2 W) (fun jv _ => l2.length - (intOf jv).toNat)
                case atStart => exact ⟨0, rfl, by omega, ext_drewN _ _⟩
                case round =>
                  obtain ⟨j, rfl, hj, hbj⟩ := hrel
                  have I4 := I3.out.next hbj
                  by_cases hend : j = l2.length
                  · subst hend
                    replace I4 := Lib.hid I4
                    clear hbj
                    go_wp2_with fail
                    go_roundw
                    case rel => exact ⟨k + 1, _, _, _, _, by simp, by omega, by omega, I4.out⟩
                    case measure => simp [intOf]; omega
                  have jlt : j < l2.length := by omega
                  have jlt' : (j : Int) < (l2.length : Int) := by omega
                  obtain ⟨g3, cc3, h3⟩ := own_slice' (own_keep o2.out hbj) (by omega)
                  obtain ⟨g4, cc4, h4⟩ := own_slice' I4.xb.its (by omega)
                  have c3 := own_keep o2.out hbj
                  rw [h3] at c3
                  have c4 := I4.xb.its
                  rw [h4] at c4
                  have d3 := own_int c3 jlt
                  have d4 := own_int c4 jlt
                  have x4 := I4.xb.cell
                  simp only [Value.slice.injEq] at h3 h4
                  obtain ⟨rfl, -, rfl⟩ := h3
                  obtain ⟨rfl, -, rfl⟩ := h4
                  generalize l2.getD j 0 = y at d3 d4
                  replace hbj := Lib.hid hbj
                  clear I4 c3 c4
                  go_wp2_with fail
                  go_quiet (fail)
                  go_wp2_with fail
                  go_roundw
                  case rel => exact ⟨j + 1, by simp, by omega, below_drewN hbj.out _⟩
                  case measure => simp [intOf]; omega
              · have CB := Lib.hid (come_new _ _ _ c _ hir.out.bx hir.out.so' (by omega) k1 k2 (hir.out.missed hm))
                replace hm := Lib.hid hm
                go_wp2_with fail
                refine CB.out.mono ?_
                rintro e w3 ⟨rfl, A, M, R, hx, hA, b3, g3⟩
                have XB := Lib.hid (xcome_new (hir.out.xb.beside hir.out.bx (by omega) g3) hir.out.so k1 k2 (by omega) hm.out)
                replace hx := Lib.hid hx
                replace hA := Lib.hid hA
                replace b3 := Lib.hid b3
                replace g3 := Lib.hid g3
                go_wp2_with fail
                refine XB.out.mono ?_
                rintro e w4 ⟨rfl, ⟨vy, x4⟩, g4⟩
                have I2 := Lib.hid (hir.out.came hm.out hx.out hA.out b3.out g3.out x4 g4)
                clear x4 g4
                go_wp2_with fail
                obtain ⟨xs2, n2, v2, l2, i2⟩ := Ir.some I2.out
                clear I2
                have I2 := Lib.hid i2
                clear i2
                have AL := Lib.hid (all_any _ _ _ _ I2.out.bx)
                go_wp2_with fail
                refine (AL.out).mono ?_
                rintro e w2 ⟨v, rfl, o2, -, b2⟩
                have I3 := (I2.out.next b2).norm
                rw [I2.out.tk] at o2
                have HL := I3.le
                have HL' : (l2.length : Int) ≤ 16 := by omega
                obtain ⟨va2, vc2, rfl⟩ := own_slice o2
                have x3 := I3.xb.cell
                obtain ⟨vya, vyc, rfl⟩ := own_slice I3.xb.its
                have LN := Lib.hid (fun n => len_any _ _ _ _ (I3.bx.drewN n))
                replace o2 := Lib.hid (own_il o2 rfl rfl)
                replace I3 := Lib.hid I3
                clear b2 AL
                go_wp2_with fail
                go_quiet ((go_at_call 33; exact Calls.quiet_of_same ((LN.out _).mono fun _ _ h => ⟨h.1, h.2.symm⟩)))
                go_wp2_with fail
                go_loopw [13] (fun jv W => ∃ j : Nat, jv = .int .i64 (j : Int) ∧ j ≤ l2.length ∧ Below w2.heap.size w2 W) (fun jv _ => l2.length - (intOf jv).toNat)
                case atStart => exact ⟨0, rfl, by omega, ext_drewN _ _⟩
                case round =>
                  obtain ⟨j, rfl, hj, hbj⟩ := hrel
                  have I4 := I3.out.next hbj
                  by_cases hend : j = l2.length
                  · subst hend
                    replace I4 := Lib.hid I4
                    clear hbj
                    go_wp2_with fail
                    go_roundw
                    case rel => exact ⟨k + 1, _, _, _, _, by simp, by omega, by omega, I4.out⟩
                    case measure => simp [intOf]; omega
                  have jlt : j < l2.length := by omega
                  have jlt' : (j : Int) < (l2.length : Int) := by omega
                  obtain ⟨g3, cc3, h3⟩ := own_slice' (own_keep o2.out hbj) (by omega)
                  obtain ⟨g4, cc4, h4⟩ := own_slice' I4.xb.its (by omega)
                  have c3 := own_keep o2.out hbj
                  rw [h3] at c3
                  have c4 := I4.xb.its
                  rw [h4] at c4
                  have d3 := own_int c3 jlt
                  have d4 := own_int c4 jlt
                  have x4 := I4.xb.cell
                  simp only [Value.slice.injEq] at h3 h4
                  obtain ⟨rfl, -, rfl⟩ := h3
                  obtain ⟨rfl, -, rfl⟩ := h4
                  generalize l2.getD j 0 = y at d3 d4
                  replace hbj := Lib.hid hbj
                  clear I4 c3 c4
                  go_wp2_with fail
                  go_quiet (fail)
                  go_wp2_with fail
                  go_roundw
                  case rel => exact ⟨j + 1, by simp, by omega, below_drewN hbj.out _⟩
                  case measure => simp [intOf]; omega
    · have hbw := hir.bw
      replace hbw := Lib.hid hbw
      clear hir
      by_cases c1 : k < len
      · have c2 : ¬ k < 80 := by omega
        clear hlt
        go_wp2_with fail
        refine (awake24_any _).mono ?_
        rintro e w6 ⟨rfl, hb6⟩
        go_wp2
        go_ret
        exact ⟨rfl, ext_trans hbw.out hb6⟩
      · clear hlt
        go_wp2_with fail
        refine (awake24_any _).mono ?_
        rintro e w6 ⟨rfl, hb6⟩
        go_wp2
        go_ret
        exact ⟨rfl, ext_trans hbw.out hb6⟩


set_option maxRecDepth 100000 in
theorem lifted (os : Os) (started : os.Started) (H : Type) (enc : TypeId × Value → H) :
    ReturnsInHanded {} Try.checked os 7 .any (Rows.inboxPlaysSpec.pre6 enc Try.prog Try.f7 Rows.inboxPlaysRow.domain false) (Rows.inboxPlaysSpec.post enc Try.prog Try.f7 false true false false) := by
  refine returnsInHanded_of_change_sized (C := Try.checked) own started (by kernel_rfl) Try.func7
    (ChangeSpec.witness6 (enc := enc) (C := Try.checked) false ⟨#[], #[.slice none 0 0], []⟩ 8 (by kernel_rfl) (by kernel_rfl) (by kernel_rfl) (by kernel_rfl)) ?_
  intro W base args ds gs before hval0 hW hcnd hsz0 _
  have hsz : (DataW.weightsEach Try.prog (Try.f7.params.toList ++ Rows.inboxPlaysSpec.plain.varTypes Try.prog) (ds ++ gs)).all (· ≤ reachBytes) = true := hsz0
  have hval : ∀ (j : Nat) t v, Try.f7.params[j]? = some t → args[j]? = some v → Value.okWide Try.prog W .any base t v := hval0
  have hW' := hW
  obtain ⟨p, q, hA0, hV, rfl, hfz, hnd⟩ := hW
  have hA : DataW.TrodAll enc Try.prog W 0 (fun _ => true) true Try.f7.params.toList args.toList ds p := hA0
  rw [Try.params7] at hA hval hsz
  obtain ⟨v0, vs0, d0, ds0, p0, q0, hargs, rfl, rfl, h0, r0⟩ := trodAll_cons hA
  obtain ⟨rfl, rfl, rfl⟩ := trodAll_nil r0
  obtain rfl : args = #[v0] := by cases args; simp_all
  obtain ⟨rfl, rfl⟩ := trodVars_none hV
  have k0 := h0
  have lt0 : ∀ x ∈ p0, x.block < W.heap.size := by obtain ⟨m, hm⟩ := k0; exact DataW.trod_lt m _ _ _ hm
  obtain ⟨a0, len0, cap0, rfl⟩ := okWide_slice Try.underlying65 (hval 0 65 v0 rfl rfl)
  obtain ⟨z0, w0, s0⟩ : ∃ zs, IsRow .i64 W a0 len0 cap0 zs ∧ cap0 * 8 ≤ 140737488351232 := by
    obtain ⟨fuel, hf⟩ := h0
    rcases open_ints Try.underlying65 Try.underlying3 (by kernel_rfl) hf with ⟨hcs, _⟩ | ⟨x, l, c, zs, hcs, _, hl, hm, hz, hx, hcell, hwz⟩
    · simp [Value.cells] at hcs
      obtain ⟨rfl, rfl, rfl⟩ := hcs
      exact ⟨[], .inl ⟨rfl, rfl, rfl, rfl⟩, by omega⟩
    · simp [Value.cells] at hcs
      obtain ⟨rfl, rfl, rfl⟩ := hcs
      have hz' : zs.length = cap0 := by simpa using hz
      have hd : d0 = .slice (lits .i64 (zs.take len0)) (lits .i64 (zs.drop len0)) := congrArg Prod.fst hx
      have hroom := sized_slice hsz (j := 0) (t := 65) (e := 3) rfl (by rw [hd]; rfl) Try.underlying65
      rw [show Try.prog.bytesOf 3 = 8 from by kernel_rfl] at hroom
      simp only [lits, List.length_map, List.length_take, List.length_drop, reachBytes] at hroom
      exact ⟨zs, .inr ⟨_, rfl, hl, hm, hz', hcell, hwz⟩, by omega⟩
  clear hA0 hval0 hsz0
  refine (walk a0 len0 cap0 z0 W w0 s0).mono fun e W' ⟨he, bel⟩ => ?_
  subst he
  exact ⟨_, rfl, _, _, _, [], _, [], hW', trodAll_mk1 (shut_bool Try.underlying4 _), (trodAll_cons_mk (Below.trod laidOut (by kernel_rfl) (of_decide_eq_true (by kernel_rfl)) k0 bel lt0) trodAll_mk0), rfl, bel.frame _, fun h => by cases h⟩

theorem over : Rows.inboxPlaysRow.holds Try.pinned (OpenSpec.ofChange Rows.inboxPlaysSpec) :=
  OpenClaim.holds_of_wide 7 Try.f7 rfl rfl rfl rfl rfl rfl rfl ⟨rfl, rfl, rfl, rfl, rfl⟩ rfl rfl rfl rfl rfl (by kernel_rfl) Try.func7 (by kernel_rfl)
    (of_decide_eq_true (by kernel_rfl)) (by unfold Func.isWrapper; first | (rw [if_pos (by decide +kernel)]; kernel_rfl) | (rw [if_neg (by decide +kernel)]; exact ⟨rfl, rfl⟩))
    (fun os started H enc _ => lifted os started H enc)

theorem proved : Rows.InboxPlaysSaid := over
end Go.Proofs.Ytdljddghbkcddaa.inboxPlays
