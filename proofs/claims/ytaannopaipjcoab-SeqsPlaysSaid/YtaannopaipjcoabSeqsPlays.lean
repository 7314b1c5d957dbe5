/-
  SeqsPlays: FOR EVERY INPUT the law returns true and leaves its arguments as they were.
-/
import Derived.Test.YtaannopaipjcoabSd
import Derived.Test.YtaannopaipjcoabRows
import Derived.WalkKit
import Derived.Deep.RegionHeld3
import Derived.ProofKit
import Derived.OpenShut
import Derived.ShutString
import Derived.ChangeOld
import Derived.Below
import Derived.SizedLaws
namespace Go.Proofs.Ytaannopaipjcoab.seqsPlays
open Go.ChangeShapes Go.WideShapes Go.ChangeAt Go.RowKit
open Go.ChangeMaps (open_string shut_string)
set_option linter.unusedVariables false

theorem own : ownKnob Try.prog.godebug = none := by kernel_rfl
theorem laidOut : laidOutB Try.prog = true := by kernel_rfl


theorem row_drew {w : World} {g : Nat} {b : Bool} {q : Int} (h : RowAt w g b q) : RowAt w.drew g b q := ⟨h.made, h.begun, h.want, h.free, h.lt⟩
theorem ref_drew {w : World} {g : Nat} {x : Int} (h : RefAt w g x) : RefAt w.drew g x := ⟨h.want, h.free, h.lt⟩
theorem ref_step {w : World} {g : Nat} {x q : Int} (h : RefAt w (g + 1) x) : RefAt (stepW w g q) (g + 1) x := (h.far (by simp) _).far (by simp) _
theorem ref_end {w : World} {g : Nat} {x : Int} (h : RefAt w (g + 1) x) : RefAt (endW w.drew g) (g + 1) x := ((ref_drew h).far (by simp) _).far (by simp) _

def PlayRel (B : Nat) (w : World) (len len1 : Nat) (i : Value) (wr : World) : Prop :=
  ∃ (k : Nat) (b : Bool) (q : Int), k ≤ 80 ∧ k ≤ len ∧ k ≤ len1 ∧ i = .int .i64 k ∧ RowAt wr B b q ∧ 0 ≤ q ∧ q ≤ 255 ∧ RefAt wr (B + 1) (if b then q else -1) ∧ Below B w wr

set_option maxHeartbeats 4000000 in
set_option maxRecDepth 100000 in
theorem walk (a : Option Addr) (len cap : Nat) (z : List Int) (a1 : Option Addr) (len1 cap1 : Nat) (z1 : List Int) (w : World) (h0 : IsRow .u8 w a len cap z) (s0 : cap * 1 ≤ 140737488351232) (h1 : IsRow .i64 w a1 len1 cap1 z1) (s1 : cap1 * 8 ≤ 140737488351232) :
    Calls Try.prog 3 #[.slice a len cap, .slice a1 len1 cap1] w (Yes w) := by
  obtain ⟨hl, hlc⟩ := h0.len_le
  obtain ⟨hl1, hlc1⟩ := h1.len_le
  have C0 := Lib.hid h0.cellAt
  have C1 := Lib.hid h1.cellAt
  clear h0 h1
  have R0 := new_row w
  go_enter Try.func3, Try.ntmps3
  go_wp2_with fail
  refine (new_any _).mono ?_
  rintro e w' ⟨rfl, rfl⟩
  go_wp2_with fail
  obtain ⟨W0, hW0⟩ : ∃ W0, W0 = (w.alloc (.cells #[.bool true, .bool false, .int .u8 0] 43)).alloc (.cells #[.int .i64 (-1)] 28) := ⟨_, rfl⟩
  have R1 : RowAt W0 w.heap.size false 0 := by rw [hW0]; exact R0.keep (ext_alloc _ _)
  have X1 : RefAt W0 (w.heap.size + 1) (-1) := by
    rw [hW0]
    exact ⟨by rw [World.cell?_alloc_at _ _ _ _ (by simp)]; rfl, World.frozen?_alloc_at _ _ _ _ (by simp), by simp⟩
  have B1 : Below w.heap.size w W0 := by rw [hW0]; exact ext_trans (ext_alloc _ _) (ext_alloc _ _)
  rw [← hW0]
  clear hW0 R0
  go_loopw [7] (fun i wr => PlayRel w.heap.size w len len1 i wr) (fun i _ => 80 - (intOf i).toNat)
  case atStart => exact ⟨0, false, 0, by omega, by omega, by omega, rfl, R1, by omega, by omega, X1, B1⟩
  case round =>
    obtain ⟨k, b, q, hk, hkl, hkl1, rfl, hR, q0, q1, hX, hnx⟩ := hrel
    have HR := Lib.hid hR
    have HX := Lib.hid hX
    have HB := Lib.hid hnx
    clear hR hX R1 B1 X1
    by_cases hlt : k < len ∧ k < len1 ∧ k < 80
    · obtain ⟨hlt0, hlt1, hlt2⟩ := hlt
      have hc0 : ∃ b0 o, a = some ⟨b0, o, none⟩ ∧ wr.cell? ⟨b0, o + k, none⟩ = some (.int .u8 (z.getD k 0)) := by
        rcases C0.out with h | ⟨b0, o, ha, hb, h⟩
        · omega
        · exact ⟨b0, o, ha, (hnx.cell (by simpa using hb)).trans (h k hlt0).1⟩
      have hc1 : ∃ b0 o, a1 = some ⟨b0, o, none⟩ ∧ wr.cell? ⟨b0, o + k, none⟩ = some (.int .i64 (z1.getD k 0)) ∧ -9223372036854775808 ≤ z1.getD k 0 ∧ z1.getD k 0 ≤ 9223372036854775807 := by
        rcases C1.out with h | ⟨b0, o, ha, hb, h⟩
        · omega
        · exact ⟨b0, o, ha, (hnx.cell (by simpa using hb)).trans (h k hlt1).1, wf_i64 (h k hlt1).2⟩
      obtain ⟨b0, o0, rfl, hcell0⟩ := hc0
      obtain ⟨b1, o1, rfl, hcell1, hnb⟩ := hc1
      obtain ⟨c, hc⟩ : ∃ c, c = z.getD k 0 := ⟨_, rfl⟩
      obtain ⟨n, hn⟩ : ∃ n, n = z1.getD k 0 := ⟨_, rfl⟩
      rw [← hc] at hcell0
      rw [← hn] at hcell1 hnb
      have NB := Lib.hid hnb
      clear hc hn C0 C1 hnx
      cases b with
      | true =>
        simp only [if_true] at HX
        by_cases hc0 : c = 0
        · subst hc0
          by_cases hn : n < 0 ∨ 255 < n
          · have HN := Lib.hid hn
            clear hn
            go_wp2_with fail
            refine (begin_bad w.heap.size true n q _ HR.out NB.out.1 NB.out.2 HN.out).mono ?_
            rintro e w' ⟨rfl, rfl⟩
            go_wp2_with fail
            refine (rbegin_bad (w.heap.size + 1) n _ HN.out).mono ?_
            rintro e w' ⟨rfl, rfl⟩

            have HR2 := HR
            have HX2 := HX
            have HB2 := HB

            have hxc := HX2.out.want
            go_wp2_with fail
            refine (want_ok w.heap.size q _ HR2.out (by omega) (by omega)).mono ?_
            rintro e w' ⟨rfl, rfl⟩
            go_wp2_with fail
            refine (fits_ok w.heap.size n q _ HR2.out (by omega) (by omega)).mono ?_
            rintro e w' ⟨rfl, rfl⟩
            go_wp2_with fail
            go_roundw
            case rel => exact ⟨k + 1, true, q, by omega, by omega, by omega, by go_num, HR2.out, by omega, by omega, HX2.out, HB2.out⟩
            case measure => simp [intOf]; omega
          · have HN : Hid (0 ≤ n ∧ n ≤ 255) := ⟨by omega, by omega⟩
            clear hn
            go_wp2_with fail
            refine (begin_ok w.heap.size true n q _ HR.out HN.out.1 HN.out.2).mono ?_
            rintro e w' ⟨rfl, rfl⟩
            go_wp2_with fail
            refine (rbegin_ok (w.heap.size + 1) n q _ (ref_step HX.out) HN.out.1 HN.out.2).mono ?_
            rintro e w' ⟨rfl, rfl⟩

            obtain ⟨W2, hW2⟩ : ∃ W2, W2 = (stepW wr w.heap.size ((n + 1) % 256)).setCell ⟨w.heap.size + 1, 0, none⟩ (.int .i64 ((n + 1) % 256)) := ⟨_, rfl⟩
            have HR2 : Hid (RowAt W2 w.heap.size true ((n + 1) % 256)) := by rw [hW2]; exact (HR.out.step _).far (by simp) _
            have HX2 : Hid (RefAt W2 (w.heap.size + 1) ((n + 1) % 256)) := by rw [hW2]; exact (ref_step HX.out).set _
            have HB2 : Hid (Below w.heap.size w W2) := by rw [hW2]; exact (stepW_below HB.out (Nat.le_refl _) _).setCell (by simp) _
            rw [← hW2]
            clear hW2

            have hxc := HX2.out.want
            go_wp2_with fail
            refine (want_ok w.heap.size ((n + 1) % 256) _ HR2.out (by omega) (by omega)).mono ?_
            rintro e w' ⟨rfl, rfl⟩
            go_wp2_with fail
            refine (fits_ok w.heap.size n ((n + 1) % 256) _ HR2.out (by omega) (by omega)).mono ?_
            rintro e w' ⟨rfl, rfl⟩
            go_wp2_with fail
            go_roundw
            case rel => exact ⟨k + 1, true, ((n + 1) % 256), by omega, by omega, by omega, by go_num, HR2.out, by omega, by omega, HX2.out, HB2.out⟩
            case measure => simp [intOf]; omega
        have hb0 : (c == 0) = false := beq_eq_false_iff_ne.2 hc0
        by_cases hc1 : c = 1
        · subst hc1
          clear hc0 hb0
          have hxc0 := HX.out.want
          have hxf0 := HX.out.free
          go_wp2_with fail
          go_region_held3 (fun W => W.cell? ⟨w.heap.size + 1, 0, none⟩ = some (.int .i64 q)) (first | (go_keep; done) | exact (ref_end HX.out).want)
            (first | (go_at_call 14; refine (end_any w.heap.size true q _ (row_drew HR.out)).mono ?_; rintro e w' ⟨rfl, rfl⟩))
          clear hxc0 hxf0
          have hxc1 := (ref_end HX.out).want
          have hxf1 := (ref_end HX.out).free
          go_wp2_with fail
          clear hxc1 hxf1

          obtain ⟨W2, hW2⟩ : ∃ W2, W2 = (endW wr.drew w.heap.size).setCell ⟨w.heap.size + 1, 0, none⟩ (.int .i64 (-1)) := ⟨_, rfl⟩
          have HR2 : Hid (RowAt W2 w.heap.size false 0) := by rw [hW2]; exact ((row_drew HR.out).ends).far (by simp) _
          have HX2 : Hid (RefAt W2 (w.heap.size + 1) (-1)) := by rw [hW2]; exact (ref_end HX.out).set _
          have HB2 : Hid (Below w.heap.size w W2) := by rw [hW2]; exact ((HB.out.drew.setCell (Nat.le_refl _) _).setCell (Nat.le_refl _) _).setCell (by simp) _
          rw [← hW2]
          clear hW2

          have hxc := HX2.out.want
          go_wp2_with fail
          refine (want_none w.heap.size 0 _ HR2.out).mono ?_
          rintro e w' ⟨rfl, rfl⟩
          go_wp2_with fail
          refine (fits_none w.heap.size n 0 _ HR2.out).mono ?_
          rintro e w' ⟨rfl, rfl⟩
          go_wp2_with fail
          go_roundw
          case rel => exact ⟨k + 1, false, 0, by omega, by omega, by omega, by go_num, HR2.out, by omega, by omega, HX2.out, HB2.out⟩
          case measure => simp [intOf]; omega
        have hb1 : (c == 1) = false := beq_eq_false_iff_ne.2 hc1
        clear hc0 hc1
        by_cases hn : n < 0 ∨ 255 < n
        · have HN := Lib.hid hn
          clear hn
          go_wp2_with fail
          refine (take_bad w.heap.size true n q _ HR.out NB.out.1 NB.out.2 HN.out).mono ?_
          rintro e w' ⟨rfl, rfl⟩
          go_wp2_with fail
          refine (rtake_bad (w.heap.size + 1) n _ HN.out).mono ?_
          rintro e w' ⟨rfl, rfl⟩

          have HR2 := HR
          have HX2 := HX
          have HB2 := HB

          have hxc := HX2.out.want
          go_wp2_with fail
          refine (want_ok w.heap.size q _ HR2.out (by omega) (by omega)).mono ?_
          rintro e w' ⟨rfl, rfl⟩
          go_wp2_with fail
          refine (fits_ok w.heap.size n q _ HR2.out (by omega) (by omega)).mono ?_
          rintro e w' ⟨rfl, rfl⟩
          go_wp2_with fail
          go_roundw
          case rel => exact ⟨k + 1, true, q, by omega, by omega, by omega, by go_num, HR2.out, by omega, by omega, HX2.out, HB2.out⟩
          case measure => simp [intOf]; omega
        have HN : Hid (0 ≤ n ∧ n ≤ 255) := ⟨by omega, by omega⟩
        clear hn
        by_cases hq : n = q
        · subst hq
          go_wp2_with fail
          refine (take_ok w.heap.size n _ HR.out q0 q1).mono ?_
          rintro e w' ⟨rfl, rfl⟩
          go_wp2_with fail
          refine (rtake_ok (w.heap.size + 1) n _ (ref_step HX.out) q0 q1).mono ?_
          rintro e w' ⟨rfl, rfl⟩

          obtain ⟨W2, hW2⟩ : ∃ W2, W2 = (stepW wr w.heap.size ((n + 1) % 256)).setCell ⟨w.heap.size + 1, 0, none⟩ (.int .i64 ((n + 1) % 256)) := ⟨_, rfl⟩
          have HR2 : Hid (RowAt W2 w.heap.size true ((n + 1) % 256)) := by rw [hW2]; exact (HR.out.step _).far (by simp) _
          have HX2 : Hid (RefAt W2 (w.heap.size + 1) ((n + 1) % 256)) := by rw [hW2]; exact (ref_step HX.out).set _
          have HB2 : Hid (Below w.heap.size w W2) := by rw [hW2]; exact (stepW_below HB.out (Nat.le_refl _) _).setCell (by simp) _
          rw [← hW2]
          clear hW2

          have hxc := HX2.out.want
          go_wp2_with fail
          refine (want_ok w.heap.size ((n + 1) % 256) _ HR2.out (by omega) (by omega)).mono ?_
          rintro e w' ⟨rfl, rfl⟩
          go_wp2_with fail
          refine (fits_ok w.heap.size n ((n + 1) % 256) _ HR2.out (by omega) (by omega)).mono ?_
          rintro e w' ⟨rfl, rfl⟩
          go_wp2_with fail
          go_roundw
          case rel => exact ⟨k + 1, true, ((n + 1) % 256), by omega, by omega, by omega, by go_num, HR2.out, by omega, by omega, HX2.out, HB2.out⟩
          case measure => simp [intOf]; omega
        · have HQ := Lib.hid hq
          clear hq
          go_wp2_with fail
          refine (take_no w.heap.size n q _ HR.out q0 q1 HN.out.1 HN.out.2 HQ.out).mono ?_
          rintro e w' ⟨rfl, rfl⟩
          go_wp2_with fail
          refine (rtake_no (w.heap.size + 1) n q _ HX.out HN.out.1 HN.out.2 q0 HQ.out).mono ?_
          rintro e w' ⟨rfl, rfl⟩

          have HR2 := HR
          have HX2 := HX
          have HB2 := HB

          have hxc := HX2.out.want
          go_wp2_with fail
          refine (want_ok w.heap.size q _ HR2.out (by omega) (by omega)).mono ?_
          rintro e w' ⟨rfl, rfl⟩
          go_wp2_with fail
          refine (fits_ok w.heap.size n q _ HR2.out (by omega) (by omega)).mono ?_
          rintro e w' ⟨rfl, rfl⟩
          go_wp2_with fail
          go_roundw
          case rel => exact ⟨k + 1, true, q, by omega, by omega, by omega, by go_num, HR2.out, by omega, by omega, HX2.out, HB2.out⟩
          case measure => simp [intOf]; omega
      | false =>
        simp only [Bool.false_eq_true, if_false] at HX
        by_cases hc0 : c = 0
        · subst hc0
          by_cases hn : n < 0 ∨ 255 < n
          · have HN := Lib.hid hn
            clear hn
            go_wp2_with fail
            refine (begin_bad w.heap.size false n q _ HR.out NB.out.1 NB.out.2 HN.out).mono ?_
            rintro e w' ⟨rfl, rfl⟩
            go_wp2_with fail
            refine (rbegin_bad (w.heap.size + 1) n _ HN.out).mono ?_
            rintro e w' ⟨rfl, rfl⟩

            have HR2 := HR
            have HX2 := HX
            have HB2 := HB

            have hxc := HX2.out.want
            go_wp2_with fail
            refine (want_none w.heap.size q _ HR2.out).mono ?_
            rintro e w' ⟨rfl, rfl⟩
            go_wp2_with fail
            refine (fits_none w.heap.size n q _ HR2.out).mono ?_
            rintro e w' ⟨rfl, rfl⟩
            go_wp2_with fail
            go_roundw
            case rel => exact ⟨k + 1, false, q, by omega, by omega, by omega, by go_num, HR2.out, by omega, by omega, HX2.out, HB2.out⟩
            case measure => simp [intOf]; omega
          · have HN : Hid (0 ≤ n ∧ n ≤ 255) := ⟨by omega, by omega⟩
            clear hn
            go_wp2_with fail
            refine (begin_ok w.heap.size false n q _ HR.out HN.out.1 HN.out.2).mono ?_
            rintro e w' ⟨rfl, rfl⟩
            go_wp2_with fail
            refine (rbegin_ok (w.heap.size + 1) n (-1) _ (ref_step HX.out) HN.out.1 HN.out.2).mono ?_
            rintro e w' ⟨rfl, rfl⟩

            obtain ⟨W2, hW2⟩ : ∃ W2, W2 = (stepW wr w.heap.size ((n + 1) % 256)).setCell ⟨w.heap.size + 1, 0, none⟩ (.int .i64 ((n + 1) % 256)) := ⟨_, rfl⟩
            have HR2 : Hid (RowAt W2 w.heap.size true ((n + 1) % 256)) := by rw [hW2]; exact (HR.out.step _).far (by simp) _
            have HX2 : Hid (RefAt W2 (w.heap.size + 1) ((n + 1) % 256)) := by rw [hW2]; exact (ref_step HX.out).set _
            have HB2 : Hid (Below w.heap.size w W2) := by rw [hW2]; exact (stepW_below HB.out (Nat.le_refl _) _).setCell (by simp) _
            rw [← hW2]
            clear hW2

            have hxc := HX2.out.want
            go_wp2_with fail
            refine (want_ok w.heap.size ((n + 1) % 256) _ HR2.out (by omega) (by omega)).mono ?_
            rintro e w' ⟨rfl, rfl⟩
            go_wp2_with fail
            refine (fits_ok w.heap.size n ((n + 1) % 256) _ HR2.out (by omega) (by omega)).mono ?_
            rintro e w' ⟨rfl, rfl⟩
            go_wp2_with fail
            go_roundw
            case rel => exact ⟨k + 1, true, ((n + 1) % 256), by omega, by omega, by omega, by go_num, HR2.out, by omega, by omega, HX2.out, HB2.out⟩
            case measure => simp [intOf]; omega
        have hb0 : (c == 0) = false := beq_eq_false_iff_ne.2 hc0
        by_cases hc1 : c = 1
        · subst hc1
          clear hc0 hb0
          have hxc0 := HX.out.want
          have hxf0 := HX.out.free
          go_wp2_with fail
          go_region_held3 (fun W => W.cell? ⟨w.heap.size + 1, 0, none⟩ = some (.int .i64 (-1))) (first | (go_keep; done) | exact (ref_end HX.out).want)
            (first | (go_at_call 14; refine (end_any w.heap.size false q _ (row_drew HR.out)).mono ?_; rintro e w' ⟨rfl, rfl⟩))
          clear hxc0 hxf0
          have hxc1 := (ref_end HX.out).want
          have hxf1 := (ref_end HX.out).free
          go_wp2_with fail
          clear hxc1 hxf1

          obtain ⟨W2, hW2⟩ : ∃ W2, W2 = (endW wr.drew w.heap.size).setCell ⟨w.heap.size + 1, 0, none⟩ (.int .i64 (-1)) := ⟨_, rfl⟩
          have HR2 : Hid (RowAt W2 w.heap.size false 0) := by rw [hW2]; exact ((row_drew HR.out).ends).far (by simp) _
          have HX2 : Hid (RefAt W2 (w.heap.size + 1) (-1)) := by rw [hW2]; exact (ref_end HX.out).set _
          have HB2 : Hid (Below w.heap.size w W2) := by rw [hW2]; exact ((HB.out.drew.setCell (Nat.le_refl _) _).setCell (Nat.le_refl _) _).setCell (by simp) _
          rw [← hW2]
          clear hW2

          have hxc := HX2.out.want
          go_wp2_with fail
          refine (want_none w.heap.size 0 _ HR2.out).mono ?_
          rintro e w' ⟨rfl, rfl⟩
          go_wp2_with fail
          refine (fits_none w.heap.size n 0 _ HR2.out).mono ?_
          rintro e w' ⟨rfl, rfl⟩
          go_wp2_with fail
          go_roundw
          case rel => exact ⟨k + 1, false, 0, by omega, by omega, by omega, by go_num, HR2.out, by omega, by omega, HX2.out, HB2.out⟩
          case measure => simp [intOf]; omega
        have hb1 : (c == 1) = false := beq_eq_false_iff_ne.2 hc1
        clear hc0 hc1
        by_cases hn : n < 0 ∨ 255 < n
        · have HN := Lib.hid hn
          clear hn
          go_wp2_with fail
          refine (take_bad w.heap.size false n q _ HR.out NB.out.1 NB.out.2 HN.out).mono ?_
          rintro e w' ⟨rfl, rfl⟩
          go_wp2_with fail
          refine (rtake_bad (w.heap.size + 1) n _ HN.out).mono ?_
          rintro e w' ⟨rfl, rfl⟩

          have HR2 := HR
          have HX2 := HX
          have HB2 := HB

          have hxc := HX2.out.want
          go_wp2_with fail
          refine (want_none w.heap.size q _ HR2.out).mono ?_
          rintro e w' ⟨rfl, rfl⟩
          go_wp2_with fail
          refine (fits_none w.heap.size n q _ HR2.out).mono ?_
          rintro e w' ⟨rfl, rfl⟩
          go_wp2_with fail
          go_roundw
          case rel => exact ⟨k + 1, false, q, by omega, by omega, by omega, by go_num, HR2.out, by omega, by omega, HX2.out, HB2.out⟩
          case measure => simp [intOf]; omega
        have HN : Hid (0 ≤ n ∧ n ≤ 255) := ⟨by omega, by omega⟩
        clear hn
        go_wp2_with fail
        refine (take_none w.heap.size n q _ HR.out HN.out.1 HN.out.2).mono ?_
        rintro e w' ⟨rfl, rfl⟩
        go_wp2_with fail
        refine (rtake_none (w.heap.size + 1) n (-1) _ HX.out HN.out.1 HN.out.2 (by decide)).mono ?_
        rintro e w' ⟨rfl, rfl⟩

        have HR2 := HR
        have HX2 := HX
        have HB2 := HB

        have hxc := HX2.out.want
        go_wp2_with fail
        refine (want_none w.heap.size q _ HR2.out).mono ?_
        rintro e w' ⟨rfl, rfl⟩
        go_wp2_with fail
        refine (fits_none w.heap.size n q _ HR2.out).mono ?_
        rintro e w' ⟨rfl, rfl⟩
        go_wp2_with fail
        go_roundw
        case rel => exact ⟨k + 1, false, q, by omega, by omega, by omega, by go_num, HR2.out, by omega, by omega, HX2.out, HB2.out⟩
        case measure => simp [intOf]; omega
    · have hnx := HB.out
      have fin : ∀ W, W = wr → Below w.heap.size w W := fun W h => by rw [h]; exact hnx
      clear hnx
      by_cases c1 : k < len
      · by_cases c2 : k < len1
        · have c3 : ¬ k < 80 := by omega
          clear hlt
          go_wp2_with fail
          refine (awake_any _).mono ?_
          rintro e w' ⟨rfl, hb⟩
          go_wp2
          go_ret
          exact ⟨rfl, ext_trans HB.out hb⟩
        · clear hlt
          go_wp2_with fail
          refine (awake_any _).mono ?_
          rintro e w' ⟨rfl, hb⟩
          go_wp2
          go_ret
          exact ⟨rfl, ext_trans HB.out hb⟩
      · clear hlt
        go_wp2_with fail
        refine (awake_any _).mono ?_
        rintro e w' ⟨rfl, hb⟩
        go_wp2
        go_ret
        exact ⟨rfl, ext_trans HB.out hb⟩

set_option maxRecDepth 100000 in
theorem lifted (os : Os) (started : os.Started) (H : Type) (enc : TypeId × Value → H) :
    ReturnsInHanded {} Try.checked os 3 .any (Rows.seqsPlaysSpec.pre6 enc Try.prog Try.f3 Rows.seqsPlaysRow.domain false) (Rows.seqsPlaysSpec.post enc Try.prog Try.f3 false true false false) := by
  refine returnsInHanded_of_change_sized (C := Try.checked) own started (by kernel_rfl) Try.func3
    (ChangeSpec.witness6 (enc := enc) (C := Try.checked) false ⟨#[], #[.slice none 0 0, .slice none 0 0], []⟩ 8 (by kernel_rfl) (by kernel_rfl) (by kernel_rfl) (by kernel_rfl)) ?_
  intro W base args ds gs before hval0 hW hcnd hsz0 _
  have hsz : (DataW.weightsEach Try.prog (Try.f3.params.toList ++ Rows.seqsPlaysSpec.plain.varTypes Try.prog) (ds ++ gs)).all (· ≤ reachBytes) = true := hsz0
  have hval : ∀ (j : Nat) t v, Try.f3.params[j]? = some t → args[j]? = some v → Value.okWide Try.prog W .any base t v := hval0
  have hW' := hW
  obtain ⟨p, q, hA0, hV, rfl, hfz, hnd⟩ := hW
  have hA : DataW.TrodAll enc Try.prog W 0 (fun _ => true) true Try.f3.params.toList args.toList ds p := hA0
  rw [Try.params3] at hA hval hsz
  obtain ⟨v0, vs0, d0, ds0, p0, q0, hargs, rfl, rfl, h0, r0⟩ := trodAll_cons hA
  obtain ⟨v1, vs1, d1, ds1, p1, q1, rfl, rfl, rfl, h1, r1⟩ := trodAll_cons r0
  obtain ⟨rfl, rfl, rfl⟩ := trodAll_nil r1
  obtain rfl : args = #[v0, v1] := by cases args; simp_all
  obtain ⟨rfl, rfl⟩ := trodVars_none hV
  have k0 := h0
  have lt0 : ∀ x ∈ p0, x.block < W.heap.size := by obtain ⟨m, hm⟩ := k0; exact DataW.trod_lt m _ _ _ hm
  have k1 := h1
  have lt1 : ∀ x ∈ p1, x.block < W.heap.size := by obtain ⟨m, hm⟩ := k1; exact DataW.trod_lt m _ _ _ hm
  obtain ⟨a0, len0, cap0, rfl⟩ := okWide_slice Try.underlying22 (hval 0 22 v0 rfl rfl)
  obtain ⟨z0, w0, s0⟩ : ∃ zs, IsRow .u8 W a0 len0 cap0 zs ∧ cap0 * 1 ≤ 140737488351232 := by
    obtain ⟨fuel, hf⟩ := h0
    rcases open_ints Try.underlying22 Try.underlying5 (by kernel_rfl) hf with ⟨hcs, _⟩ | ⟨x, l, c, zs, hcs, _, hl, hm, hz, hx, hcell, hwz⟩
    · simp [Value.cells] at hcs
      obtain ⟨rfl, rfl, rfl⟩ := hcs
      exact ⟨[], .inl ⟨rfl, rfl, rfl, rfl⟩, by omega⟩
    · simp [Value.cells] at hcs
      obtain ⟨rfl, rfl, rfl⟩ := hcs
      have hz' : zs.length = cap0 := by simpa using hz
      have hd : d0 = .slice (lits .u8 (zs.take len0)) (lits .u8 (zs.drop len0)) := congrArg Prod.fst hx
      have hroom := sized_slice hsz (j := 0) (t := 22) (e := 5) rfl (by rw [hd]; rfl) Try.underlying22
      rw [show Try.prog.bytesOf 5 = 1 from by kernel_rfl] at hroom
      simp only [lits, List.length_map, List.length_take, List.length_drop, reachBytes] at hroom
      exact ⟨zs, .inr ⟨_, rfl, hl, hm, hz', hcell, hwz⟩, by omega⟩
  obtain ⟨a1, len1, cap1, rfl⟩ := okWide_slice Try.underlying23 (hval 1 23 v1 rfl rfl)
  obtain ⟨z1, w1, s1⟩ : ∃ zs, IsRow .i64 W a1 len1 cap1 zs ∧ cap1 * 8 ≤ 140737488351232 := by
    obtain ⟨fuel, hf⟩ := h1
    rcases open_ints Try.underlying23 Try.underlying3 (by kernel_rfl) hf with ⟨hcs, _⟩ | ⟨x, l, c, zs, hcs, _, hl, hm, hz, hx, hcell, hwz⟩
    · simp [Value.cells] at hcs
      obtain ⟨rfl, rfl, rfl⟩ := hcs
      exact ⟨[], .inl ⟨rfl, rfl, rfl, rfl⟩, by omega⟩
    · simp [Value.cells] at hcs
      obtain ⟨rfl, rfl, rfl⟩ := hcs
      have hz' : zs.length = cap1 := by simpa using hz
      have hd : d1 = .slice (lits .i64 (zs.take len1)) (lits .i64 (zs.drop len1)) := congrArg Prod.fst hx
      have hroom := sized_slice hsz (j := 1) (t := 23) (e := 3) rfl (by rw [hd]; rfl) Try.underlying23
      rw [show Try.prog.bytesOf 3 = 8 from by kernel_rfl] at hroom
      simp only [lits, List.length_map, List.length_take, List.length_drop, reachBytes] at hroom
      exact ⟨zs, .inr ⟨_, rfl, hl, hm, hz', hcell, hwz⟩, by omega⟩
  clear hA0 hval0 hsz0
  refine (walk a0 len0 cap0 z0 a1 len1 cap1 z1 W w0 s0 w1 s1).mono fun e W' ⟨he, bel⟩ => ?_
  subst he
  exact ⟨_, rfl, _, _, _, [], _, [], hW', trodAll_mk1 (shut_bool Try.underlying4 _), (trodAll_cons_mk (Below.trod laidOut (by kernel_rfl) (of_decide_eq_true (by kernel_rfl)) k0 bel lt0) (trodAll_cons_mk (Below.trod laidOut (by kernel_rfl) (of_decide_eq_true (by kernel_rfl)) k1 bel lt1) trodAll_mk0)), rfl, bel.frame _, fun h => by cases h⟩

theorem over : Rows.seqsPlaysRow.holds Try.pinned (OpenSpec.ofChange Rows.seqsPlaysSpec) :=
  OpenClaim.holds_of_wide 3 Try.f3 rfl rfl rfl rfl rfl rfl rfl ⟨rfl, rfl, rfl, rfl, rfl⟩ rfl rfl rfl rfl rfl (by kernel_rfl) Try.func3 (by kernel_rfl)
    (of_decide_eq_true (by kernel_rfl)) (by unfold Func.isWrapper; first | (rw [if_pos (by decide +kernel)]; kernel_rfl) | (rw [if_neg (by decide +kernel)]; exact ⟨rfl, rfl⟩))
    (fun os started H enc _ => lifted os started H enc)

theorem proved : Rows.SeqsPlaysSaid := over
end Go.Proofs.Ytaannopaipjcoab.seqsPlays
