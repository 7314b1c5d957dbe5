/-
  SessionOnce: FOR EVERY INPUT the law returns true and leaves its arguments as they were.
-/
import Derived.Test.YtceiipcdkonnlaaXr
import Derived.Test.YtceiipcdkonnlaaRows
import Derived.WalkKit
import Derived.Deep.RegionHeld3
import Derived.ProofKit
import Derived.OpenShut
import Derived.ShutString
import Derived.ChangeOld
import Derived.Below
import Derived.SizedLaws
import Derived.Lib.SmallJoins
namespace Go.Proofs.Ytceiipcdkonnlaa.sessionOnce
set_option linter.unusedSimpArgs false
open Go.ChangeShapes Go.WideShapes Go.ChangeAt Go.RowKit
open Go.ChangeMaps (open_string shut_string)
set_option linter.unusedVariables false

theorem own : ownKnob Try.prog.godebug = none := by kernel_rfl
theorem laidOut : laidOutB Try.prog = true := by kernel_rfl

open Que Hp Ids Fli Ses
set_option maxHeartbeats 64000000 in
set_option maxRecDepth 100000 in
theorem walk (a0 : Option Addr) (len0 cap0 : Nat) (F : Nat → Bool) (a1 : Option Addr) (len1 cap1 : Nat) (zs : List Int) (w : World) (h0 : IsBools w a0 len0 F) (h1 : IsRow .u8 w a1 len1 cap1 zs) (s1 : cap1 * 1 ≤ 140737488351232) :
    Calls Try.prog 3 #[.slice a0 len0 cap0, .slice a1 len1 cap1] w (Yes w) := by
  obtain ⟨i9, hi9, hy0, hy1, hy2⟩ := info_parts info9
  obtain ⟨hl, hc⟩ := h0
  have hl0 : (len0 : Int) ≤ 9223372036854775807 := by unfold maxLen at hl; omega
  have hl1 : (len1 : Int) ≤ 9223372036854775807 := by have := (IsRow.len_le h1).1; omega
  have hz := Lib.hid (IsRow.cellAt h1)
  replace hc := Lib.hid hc
  clear h1 s1 hl
  have CV := Lib.hid conv_one
  have NW : Hid (Calls Try.prog 8 #[.string ⟨#[99]⟩, .bool false] w fun e w' => ∃ a, e = .returned (.tuple #[.pointer (some ⟨a.s, 0, none⟩), .int .i64 0]) ∧ Ss (fun k => k < w.heap.size) w' a tC false false [] [] [] 0 ∧ Below w.heap.size w w') := Lib.hid (new_ok tC false w (by decide) tC_ne tC_right)
  go_enter Try.func3, Try.ntmps3
  go_wp2_with fail
  refine NW.out.mono ?_
  rintro e w1 ⟨a, rfl, s1, b1⟩
  have I1 := Lib.hid (om_start s1 b1)
  clear s1 b1 NW
  go_wp2_with fail
  go_loopw [7, 8, 9] (fun vw vg iv wr => ∃ (i : Nat) (on : Bool) (T : List Bool) (L : List Se) (l : List Mg) (lost : Int) (G Wt : List ByteArray), iv = .int .i64 (i : Int) ∧ i ≤ len0 ∧ i ≤ 60 ∧ Om w wr a on T L l lost vg vw G Wt i) (fun _ _ iv _ => len0 - (intOf iv).toNat)
  case atStart => exact ⟨0, _, _, _, _, _, _, _, rfl, by omega, by omega, I1.out⟩
  case round =>
    obtain ⟨i, on, T, L, l, lost, G, Wt, rfl, hi, hi2, I⟩ := hrel
    clear I1
    obtain ⟨vga, vgc, rfl⟩ := own_slice I.pg.rg
    obtain ⟨vwa, vwc, rfl⟩ := own_slice I.rw
    have hgl := I.glen
    have hwi := I.wi
    simp only [List.length_nil, Nat.add_zero] at hgl hwi
    have hGl : G.length ≤ 60 := by omega
    have hWl : Wt.length ≤ 60 := by omega
    by_cases hlt : i < len0 ∧ i < 60
    · obtain ⟨hlt0, hlt1⟩ := hlt
      have hll : l.length ≤ 16 := I.pg.ss.le
      obtain ⟨kb, ko, rfl, hk1⟩ : ∃ b o, a0 = some ⟨b, o, none⟩ ∧ ∀ W, Below w.heap.size w W → W.cell? ⟨b, o + i, none⟩ = some (.bool (F i)) := by
        rcases hc.out with h' | ⟨b, o, ha, hb0, h'⟩
        · omega
        · exact ⟨b, o, ha, fun W hW => (hW.cell (by simpa using hb0)).trans (h' i hlt0)⟩
      replace hk1 := Lib.hid hk1
      have hlt0' : (i : Int) < (len0 : Int) := by omega
      have hlt1' : (i : Int) < 60 := by omega
      have hi0 : (0 : Int) ≤ (i : Int) := by omega
      have cv := CV.out wr i
      clear hlt0 hgl hwi
      obtain ⟨tt, htt⟩ : ∃ tt, tt = t1 i := ⟨_, rfl⟩
      rw [← htt] at cv
      clear htt
      cases hF : F i
      · rw [hF] at hk1
        have K1 := Lib.hid (hk1.out ((wr.alloc (.cells #[.int .u8 (i : Int)] 5)).alloc (.cells #[.string ⟨#[116]⟩, .string tt, .int .i64 1, .bool false] 30)) (I.bw.trans ((ext_two _ _ _).mono I.bw.size)))
        have kc := K1.out
        have I2 := Lib.hid (I.add (ext_two wr (.cells #[.int .u8 (i : Int)] 5) (.cells #[.string ⟨#[116]⟩, .string tt, .int .i64 1, .bool false] 30)) (bx := wr.heap.size + 1) (by omega) (by simp))
        have R2 : ((wr.alloc (.cells #[.int .u8 (i : Int)] 5)).alloc (.cells #[.string ⟨#[116]⟩, .string tt, .int .i64 1, .bool false] 30)).heap[wr.heap.size + 1]? = some (.cells #[.string ⟨#[116]⟩, .string tt, .int .i64 1, .bool false] 30 (0, 0)) := by
          have h' := heap_alloc_new (wr.alloc (.cells #[.int .u8 (i : Int)] 5)) (.cells #[.string ⟨#[116]⟩, .string tt, .int .i64 1, .bool false] 30)
          simpa using h'
        obtain ⟨m0, m1, m2, m3, mz⟩ := msg_row R2
        have DL := Lib.hid (deliver I2.out.pg.ss ⟨#[116]⟩ tt 1 2 false (.inl rfl) (by omega) (by omega) I2.out.l0 (I2.out.l1 (by omega)) I2.out.av)
        replace R2 := Lib.hid R2
        clear I hF
        go_wp2_with fail
        generalize hW2 : ((wr.alloc (.cells #[.int .u8 (i : Int)] 5)).alloc (.cells #[.string ⟨#[116]⟩, .string tt, .int .i64 1, .bool false] 30)) = w2 at *
        refine DL.out.mono ?_
        rintro e w3 ⟨v1, T', L', l', P, rfl, s3, k3, o3, e3⟩
        clear m0 m1 m2 m3 mz kc K1 DL cv hW2
        have o3' := o3
        rw [show P.length = ([] : List Se).length + P.length by simp, show pfC P = pkC [] ++ pfC P by simp [pkC]] at o3'
        have PK := pk_at o3'
        have hPl : P.length ≤ 17 := by
          have h' := fl_ln on (if l.length < 16 then l ++ [⟨⟨#[116]⟩, tt, 1, false⟩] else l) T L
          rw [e3] at h'
          have h2 : P.length + l'.length = (if l.length < 16 then l ++ [⟨⟨#[116]⟩, tt, 1, false⟩] else l).length := h'
          split at h2
          · simp at h2; omega
          · omega
        have FR := Lib.hid (firsts_any PK (by simp; omega))
        replace k3 := Lib.hid k3
        clear PK o3 o3'
        by_cases hkp : l.length < 16
        · rw [if_pos hkp] at s3 e3
          rw [decide_eq_true hkp]
          replace s3 := Lib.hid s3
          replace e3 := Lib.hid e3
          go_wp2_with fail
          refine FR.out.mono ?_
          rintro x w4 ⟨v2, rfl, o4, b4⟩
          rw [fst_dk] at o4
          have oG := Lib.hid (I2.out.pg.row k3.out b4)
          have sz4 : w.heap.size ≤ w4.heap.size := Nat.le_trans (Nat.le_trans I2.out.bw.size k3.out.size) b4.size
          replace o4 := Lib.hid o4
          replace b4 := Lib.hid b4
          clear FR
          by_cases hb : i < len1
          · have hb1 : (i : Int) < (len1 : Int) := by omega
            obtain ⟨zb, zo, rfl, hzb, hzz⟩ := hz.out.resolve_left (by omega)
            obtain ⟨z, hze⟩ : ∃ z, z = zs.getD i 0 := ⟨_, rfl⟩
            have hzw := wf_u8 (hzz i hb).2
            have hzc := Lib.hid (fun (W : World) (hW : Below w.heap.size w W) => (hW.cell (p := ⟨zb, zo + i, none⟩) hzb).trans (hzz i hb).1)
            rw [← hze] at hzw hzc
            have z0 : 0 ≤ z := hzw.1
            have z1 : z ≤ 255 := hzw.2
            have z6 : 0 ≤ z % 6 := by omega
            have z7 : z % 6 ≤ 5 := by omega
            clear hzz hze hzw hb
            by_cases hv1 : z % 6 = 1
            · have e1 : (z % 6 == 1) = true := by simpa using hv1
              have e2 : (z % 6 == 2) = false := by rw [hv1]; rfl
              have e4 : ¬ (4 : Int) ≤ z % 6 := by omega
              have e4' : z % 6 < 4 := by omega
              go_wp2_with (first
                | (at_builtin; go_loud (refine wpList_append_rows rfl (.tmp 52) (.tmp 54) 28 rfl w.heap.size w3.heap.size 9 i9 (.string ⟨#[]⟩) 1 16 Try.underlying28 hi9 hy0 hy1 hy2 rfl (by decide) (.slice vga G.length vgc) G.length (stL G) rfl oG.out v2 (px P).length (stL (px P)) rfl o4.out (stL_one _) (by (try simp only [px, List.length_map, List.length_append]); unfold maxLen; omega) (by (try simp only [px, List.length_map, List.length_append]); omega) sz4 ?_); intro v5 w5 o5 g5 hat5; obtain ⟨I5, k5⟩ := I2.out.kept ⟨⟨#[116]⟩, tt, 1, false⟩ (.inl rfl) s3.out k3.out e3.out b4.out (row_app o5) g5 hat5; have m5 := (msg_row ((k5.block _ (Array.getElem?_eq_some_iff.1 R2.out).1 (fun e => e (.inr rfl))).trans R2.out)).2.1; have oW := Lib.hid (own_keep I5.rw (ext_alloc w5 (.cells #[.string tt] 9))); have hnw := Lib.hid (cell_one w5 (.string tt) 9); have szw := I5.bw.size; replace I5 := Lib.hid I5; clear k5)
                | (at_builtin; go_loud (refine wpList_append_own_at _ rfl (.tmp 57) (.tmp 60) 28 rfl w.heap.size 9 i9 (.string ⟨#[]⟩) 1 16 Try.underlying28 hi9 hy0 hy1 hy2 rfl (by decide) (.slice vwa Wt.length vwc) Wt.length (stL Wt) rfl oW.out ⟨w5.heap.size, 0, none⟩ 1 1 [.string tt] rfl rfl hnw.out (by intro u hu; simp at hu; subst hu; rfl) (by unfold maxLen; omega) (by omega) (by simp; omega) ?_); intro v7 w7 o7 g7 _ hat7; have I7 := Lib.hid (I5.out.want (ext_alloc w5 _) (row_app o7) g7 hat7); have cz := hzc.out _ I7.out.bw; have AT := Lib.hid (attach I7.out.pg.ss I7.out.av)))
              refine AT.out.mono ?_
              rintro x x1 ⟨y1, Ty, Ly, ly, Py, rfl, sy, ky, oy, ey⟩
              have hPy : Py.length ≤ 16 := by
                have := (fl_all I7.out.pg.ss.ql ey).2.2.2.2
                have := I7.out.pg.ss.le
                omega
              have PKy := pk_at oy
              have FRy := Lib.hid (firsts_any PKy (by have := I7.out.pg.ss.fs.le; simp; omega))
              replace sy := Lib.hid sy
              replace ky := Lib.hid ky
              replace ey := Lib.hid ey
              clear PKy oy AT
              go_wp2_with fail
              refine FRy.out.mono ?_
              rintro x x2 ⟨y2, rfl, oz, bz⟩
              rw [fst_dk] at oz
              have oGy := Lib.hid (I7.out.pg.row ky.out bz)
              have szy : w.heap.size ≤ x2.heap.size := Nat.le_trans (Nat.le_trans I7.out.bw.size ky.out.size) bz.size
              replace oz := Lib.hid oz
              replace bz := Lib.hid bz
              clear FRy
              go_wp2_with (first
                | (at_builtin; go_loud (refine wpList_append_rows rfl (.tmp 74) (.tmp 77) 28 rfl w.heap.size x1.heap.size 9 i9 (.string ⟨#[]⟩) 1 16 Try.underlying28 hi9 hy0 hy1 hy2 rfl (by decide) v5 (G ++ px P).length (stL (G ++ px P)) rfl oGy.out y2 (px Py).length (stL (px Py)) rfl oz.out (stL_one _) (by (try simp only [px, List.length_map, List.length_append]); unfold maxLen; omega) (by (try simp only [px, List.length_map, List.length_append]); omega) szy ?_); intro v9 w9 o9 g9 hat9; have I9 := Lib.hid ((I7.out.att sy.out ky.out ey.out bz.out (row_app o9) g9 hat9).1)))
              go_roundw
              case rel => exact ⟨i + 1, _, _, _, _, _, _, _, by simp, by omega, by omega, I9.out⟩
              case measure => simp [intOf]; omega
            · by_cases hv2 : z % 6 = 2
              · have e1 : (z % 6 == 1) = false := by simpa using hv1
                have e2 : (z % 6 == 2) = true := by simpa using hv2
                have e4 : ¬ (4 : Int) ≤ z % 6 := by omega
                have e4' : z % 6 < 4 := by omega
                go_wp2_with (first
                  | (at_builtin; go_loud (refine wpList_append_rows rfl (.tmp 52) (.tmp 54) 28 rfl w.heap.size w3.heap.size 9 i9 (.string ⟨#[]⟩) 1 16 Try.underlying28 hi9 hy0 hy1 hy2 rfl (by decide) (.slice vga G.length vgc) G.length (stL G) rfl oG.out v2 (px P).length (stL (px P)) rfl o4.out (stL_one _) (by (try simp only [px, List.length_map, List.length_append]); unfold maxLen; omega) (by (try simp only [px, List.length_map, List.length_append]); omega) sz4 ?_); intro v5 w5 o5 g5 hat5; obtain ⟨I5, k5⟩ := I2.out.kept ⟨⟨#[116]⟩, tt, 1, false⟩ (.inl rfl) s3.out k3.out e3.out b4.out (row_app o5) g5 hat5; have m5 := (msg_row ((k5.block _ (Array.getElem?_eq_some_iff.1 R2.out).1 (fun e => e (.inr rfl))).trans R2.out)).2.1; have oW := Lib.hid (own_keep I5.rw (ext_alloc w5 (.cells #[.string tt] 9))); have hnw := Lib.hid (cell_one w5 (.string tt) 9); have szw := I5.bw.size; replace I5 := Lib.hid I5; clear k5)
                  | (at_builtin; go_loud (refine wpList_append_own_at _ rfl (.tmp 57) (.tmp 60) 28 rfl w.heap.size 9 i9 (.string ⟨#[]⟩) 1 16 Try.underlying28 hi9 hy0 hy1 hy2 rfl (by decide) (.slice vwa Wt.length vwc) Wt.length (stL Wt) rfl oW.out ⟨w5.heap.size, 0, none⟩ 1 1 [.string tt] rfl rfl hnw.out (by intro u hu; simp at hu; subst hu; rfl) (by unfold maxLen; omega) (by omega) (by simp; omega) ?_); intro v7 w7 o7 g7 _ hat7; have I7 := Lib.hid (I5.out.want (ext_alloc w5 _) (row_app o7) g7 hat7); have cz := hzc.out _ I7.out.bw; have DT := Lib.hid (s_detach I7.out.pg.ss)))
                refine DT.out.mono ?_
                rintro x x1 ⟨rfl, sy, ky⟩
                have I9 := Lib.hid (I7.out.det sy ky)
                clear sy ky DT
                go_wp2_with fail
                go_roundw
                case rel => exact ⟨i + 1, _, _, _, _, _, _, _, by simp, by omega, by omega, I9.out⟩
                case measure => simp [intOf]; omega
              · by_cases hv4 : (4 : Int) ≤ z % 6
                · have e1 : (z % 6 == 1) = false := by simpa using hv1
                  have e2 : (z % 6 == 2) = false := by simpa using hv2
                  have e4 : (4 : Int) ≤ z % 6 := hv4
                  go_wp2_with (first
                    | (at_builtin; go_loud (refine wpList_append_rows rfl (.tmp 52) (.tmp 54) 28 rfl w.heap.size w3.heap.size 9 i9 (.string ⟨#[]⟩) 1 16 Try.underlying28 hi9 hy0 hy1 hy2 rfl (by decide) (.slice vga G.length vgc) G.length (stL G) rfl oG.out v2 (px P).length (stL (px P)) rfl o4.out (stL_one _) (by (try simp only [px, List.length_map, List.length_append]); unfold maxLen; omega) (by (try simp only [px, List.length_map, List.length_append]); omega) sz4 ?_); intro v5 w5 o5 g5 hat5; obtain ⟨I5, k5⟩ := I2.out.kept ⟨⟨#[116]⟩, tt, 1, false⟩ (.inl rfl) s3.out k3.out e3.out b4.out (row_app o5) g5 hat5; have m5 := (msg_row ((k5.block _ (Array.getElem?_eq_some_iff.1 R2.out).1 (fun e => e (.inr rfl))).trans R2.out)).2.1; have oW := Lib.hid (own_keep I5.rw (ext_alloc w5 (.cells #[.string tt] 9))); have hnw := Lib.hid (cell_one w5 (.string tt) 9); have szw := I5.bw.size; replace I5 := Lib.hid I5; clear k5)
                    | (at_builtin; go_loud (refine wpList_append_own_at _ rfl (.tmp 57) (.tmp 60) 28 rfl w.heap.size 9 i9 (.string ⟨#[]⟩) 1 16 Try.underlying28 hi9 hy0 hy1 hy2 rfl (by decide) (.slice vwa Wt.length vwc) Wt.length (stL Wt) rfl oW.out ⟨w5.heap.size, 0, none⟩ 1 1 [.string tt] rfl rfl hnw.out (by intro u hu; simp at hu; subst hu; rfl) (by unfold maxLen; omega) (by omega) (by simp; omega) ?_); intro v7 w7 o7 g7 _ hat7; have I7 := Lib.hid (I5.out.want (ext_alloc w5 _) (row_app o7) g7 hat7); have cz := hzc.out _ I7.out.bw; have AN := Lib.hid (answer_any I7.out.pg.ss I7.out.av I7.out.iL I7.out.full)))
                  refine AN.out.mono ?_
                  rintro x x1 ⟨y1, Ty, Ly, ly, Gy, rfl, sy, ky, oy, ty, iy, fy, -⟩
                  have hGy : Gy.length ≤ 16 := by
                    have h' := congrArg List.length ty
                    simp only [Ses.tx, List.length_append, List.length_map] at h'
                    have := I7.out.pg.ss.le
                    omega
                  have oGy := Lib.hid (I7.out.pg.row ky (Below.refl _ _))
                  have szy : w.heap.size ≤ x1.heap.size := Nat.le_trans I7.out.bw.size ky.size
                  replace sy := Lib.hid sy
                  replace ky := Lib.hid ky
                  replace oy := Lib.hid oy
                  replace ty := Lib.hid ty
                  replace iy := Lib.hid iy
                  replace fy := Lib.hid fy
                  clear AN
                  go_wp2_with (first
                    | (at_builtin; go_loud (refine wpList_append_rows rfl (.tmp 85) (.tmp 87) 28 rfl w.heap.size w7.heap.size 9 i9 (.string ⟨#[]⟩) 1 16 Try.underlying28 hi9 hy0 hy1 hy2 rfl (by decide) v5 (G ++ px P).length (stL (G ++ px P)) rfl oGy.out y1 Gy.length (stL Gy) rfl oy.out (stL_one _) (by (try simp only [px, List.length_map, List.length_append]); unfold maxLen; omega) (by (try simp only [px, List.length_map, List.length_append]); omega) szy ?_); intro v9 w9 o9 g9 hat9; have I9 := Lib.hid ((I7.out.ans sy.out ky.out ty.out iy.out (fun ho => (fy.out ho).2) (row_app o9) g9 hat9).1)))
                  go_roundw
                  case rel => exact ⟨i + 1, _, _, _, _, _, _, _, by simp, by omega, by omega, I9.out⟩
                  case measure => simp [intOf]; omega
                · have e1 : (z % 6 == 1) = false := by simpa using hv1
                  have e2 : (z % 6 == 2) = false := by simpa using hv2
                  have e4 : ¬ (4 : Int) ≤ z % 6 := hv4
                  have e4' : z % 6 < 4 := by omega
                  go_wp2_with (first
                    | (at_builtin; go_loud (refine wpList_append_rows rfl (.tmp 52) (.tmp 54) 28 rfl w.heap.size w3.heap.size 9 i9 (.string ⟨#[]⟩) 1 16 Try.underlying28 hi9 hy0 hy1 hy2 rfl (by decide) (.slice vga G.length vgc) G.length (stL G) rfl oG.out v2 (px P).length (stL (px P)) rfl o4.out (stL_one _) (by (try simp only [px, List.length_map, List.length_append]); unfold maxLen; omega) (by (try simp only [px, List.length_map, List.length_append]); omega) sz4 ?_); intro v5 w5 o5 g5 hat5; obtain ⟨I5, k5⟩ := I2.out.kept ⟨⟨#[116]⟩, tt, 1, false⟩ (.inl rfl) s3.out k3.out e3.out b4.out (row_app o5) g5 hat5; have m5 := (msg_row ((k5.block _ (Array.getElem?_eq_some_iff.1 R2.out).1 (fun e => e (.inr rfl))).trans R2.out)).2.1; have oW := Lib.hid (own_keep I5.rw (ext_alloc w5 (.cells #[.string tt] 9))); have hnw := Lib.hid (cell_one w5 (.string tt) 9); have szw := I5.bw.size; replace I5 := Lib.hid I5; clear k5)
                    | (at_builtin; go_loud (refine wpList_append_own_at _ rfl (.tmp 57) (.tmp 60) 28 rfl w.heap.size 9 i9 (.string ⟨#[]⟩) 1 16 Try.underlying28 hi9 hy0 hy1 hy2 rfl (by decide) (.slice vwa Wt.length vwc) Wt.length (stL Wt) rfl oW.out ⟨w5.heap.size, 0, none⟩ 1 1 [.string tt] rfl rfl hnw.out (by intro u hu; simp at hu; subst hu; rfl) (by unfold maxLen; omega) (by omega) (by simp; omega) ?_); intro v7 w7 o7 g7 _ hat7; have I7 := Lib.hid (I5.out.want (ext_alloc w5 _) (row_app o7) g7 hat7); have cz := hzc.out _ I7.out.bw))
                  go_roundw
                  case rel => exact ⟨i + 1, _, _, _, _, _, _, _, by simp, by omega, by omega, I7.out⟩
                  case measure => simp [intOf]; omega
          · have hb1 : ¬ (i : Int) < (len1 : Int) := by omega
            clear hb
            go_wp2_with (first
              | (at_builtin; go_loud (refine wpList_append_rows rfl (.tmp 52) (.tmp 54) 28 rfl w.heap.size w3.heap.size 9 i9 (.string ⟨#[]⟩) 1 16 Try.underlying28 hi9 hy0 hy1 hy2 rfl (by decide) (.slice vga G.length vgc) G.length (stL G) rfl oG.out v2 (px P).length (stL (px P)) rfl o4.out (stL_one _) (by (try simp only [px, List.length_map, List.length_append]); unfold maxLen; omega) (by (try simp only [px, List.length_map, List.length_append]); omega) sz4 ?_); intro v5 w5 o5 g5 hat5; obtain ⟨I5, k5⟩ := I2.out.kept ⟨⟨#[116]⟩, tt, 1, false⟩ (.inl rfl) s3.out k3.out e3.out b4.out (row_app o5) g5 hat5; have m5 := (msg_row ((k5.block _ (Array.getElem?_eq_some_iff.1 R2.out).1 (fun e => e (.inr rfl))).trans R2.out)).2.1; have oW := Lib.hid (own_keep I5.rw (ext_alloc w5 (.cells #[.string tt] 9))); have hnw := Lib.hid (cell_one w5 (.string tt) 9); have szw := I5.bw.size; replace I5 := Lib.hid I5; clear k5)
              | (at_builtin; go_loud (refine wpList_append_own_at _ rfl (.tmp 57) (.tmp 60) 28 rfl w.heap.size 9 i9 (.string ⟨#[]⟩) 1 16 Try.underlying28 hi9 hy0 hy1 hy2 rfl (by decide) (.slice vwa Wt.length vwc) Wt.length (stL Wt) rfl oW.out ⟨w5.heap.size, 0, none⟩ 1 1 [.string tt] rfl rfl hnw.out (by intro u hu; simp at hu; subst hu; rfl) (by unfold maxLen; omega) (by omega) (by simp; omega) ?_); intro v7 w7 o7 g7 _ hat7; have I7 := Lib.hid (I5.out.want (ext_alloc w5 _) (row_app o7) g7 hat7)))
            go_roundw
            case rel => exact ⟨i + 1, _, _, _, _, _, _, _, by simp, by omega, by omega, I7.out⟩
            case measure => simp [intOf]; omega
        · rw [if_neg hkp] at s3 e3
          rw [decide_eq_false hkp]
          replace s3 := Lib.hid s3
          replace e3 := Lib.hid e3
          go_wp2_with fail
          refine FR.out.mono ?_
          rintro x w4 ⟨v2, rfl, o4, b4⟩
          rw [fst_dk] at o4
          have oG := Lib.hid (I2.out.pg.row k3.out b4)
          have sz4 : w.heap.size ≤ w4.heap.size := Nat.le_trans (Nat.le_trans I2.out.bw.size k3.out.size) b4.size
          replace o4 := Lib.hid o4
          replace b4 := Lib.hid b4
          clear FR
          by_cases hb : i < len1
          · have hb1 : (i : Int) < (len1 : Int) := by omega
            obtain ⟨zb, zo, rfl, hzb, hzz⟩ := hz.out.resolve_left (by omega)
            obtain ⟨z, hze⟩ : ∃ z, z = zs.getD i 0 := ⟨_, rfl⟩
            have hzw := wf_u8 (hzz i hb).2
            have hzc := Lib.hid (fun (W : World) (hW : Below w.heap.size w W) => (hW.cell (p := ⟨zb, zo + i, none⟩) hzb).trans (hzz i hb).1)
            rw [← hze] at hzw hzc
            have z0 : 0 ≤ z := hzw.1
            have z1 : z ≤ 255 := hzw.2
            have z6 : 0 ≤ z % 6 := by omega
            have z7 : z % 6 ≤ 5 := by omega
            clear hzz hze hzw hb
            by_cases hv1 : z % 6 = 1
            · have e1 : (z % 6 == 1) = true := by simpa using hv1
              have e2 : (z % 6 == 2) = false := by rw [hv1]; rfl
              have e4 : ¬ (4 : Int) ≤ z % 6 := by omega
              have e4' : z % 6 < 4 := by omega
              go_wp2_with (first
                | (at_builtin; go_loud (refine wpList_append_rows rfl (.tmp 52) (.tmp 54) 28 rfl w.heap.size w3.heap.size 9 i9 (.string ⟨#[]⟩) 1 16 Try.underlying28 hi9 hy0 hy1 hy2 rfl (by decide) (.slice vga G.length vgc) G.length (stL G) rfl oG.out v2 (px P).length (stL (px P)) rfl o4.out (stL_one _) (by (try simp only [px, List.length_map, List.length_append]); unfold maxLen; omega) (by (try simp only [px, List.length_map, List.length_append]); omega) sz4 ?_); intro v5 w5 o5 g5 hat5; have I7 := Lib.hid ((I2.out.gone s3.out k3.out e3.out b4.out (row_app o5) g5 hat5).1.weak (B' := BW w (.slice vwa Wt.length vwc)) (fun k hk => .inl hk) (fun k hk => hk)); have cz := hzc.out _ I7.out.bw; have AT := Lib.hid (attach I7.out.pg.ss I7.out.av)))
              refine AT.out.mono ?_
              rintro x x1 ⟨y1, Ty, Ly, ly, Py, rfl, sy, ky, oy, ey⟩
              have hPy : Py.length ≤ 16 := by
                have := (fl_all I7.out.pg.ss.ql ey).2.2.2.2
                have := I7.out.pg.ss.le
                omega
              have PKy := pk_at oy
              have FRy := Lib.hid (firsts_any PKy (by have := I7.out.pg.ss.fs.le; simp; omega))
              replace sy := Lib.hid sy
              replace ky := Lib.hid ky
              replace ey := Lib.hid ey
              clear PKy oy AT
              go_wp2_with fail
              refine FRy.out.mono ?_
              rintro x x2 ⟨y2, rfl, oz, bz⟩
              rw [fst_dk] at oz
              have oGy := Lib.hid (I7.out.pg.row ky.out bz)
              have szy : w.heap.size ≤ x2.heap.size := Nat.le_trans (Nat.le_trans I7.out.bw.size ky.out.size) bz.size
              replace oz := Lib.hid oz
              replace bz := Lib.hid bz
              clear FRy
              go_wp2_with (first
                | (at_builtin; go_loud (refine wpList_append_rows rfl (.tmp 74) (.tmp 77) 28 rfl w.heap.size x1.heap.size 9 i9 (.string ⟨#[]⟩) 1 16 Try.underlying28 hi9 hy0 hy1 hy2 rfl (by decide) v5 (G ++ px P).length (stL (G ++ px P)) rfl oGy.out y2 (px Py).length (stL (px Py)) rfl oz.out (stL_one _) (by (try simp only [px, List.length_map, List.length_append]); unfold maxLen; omega) (by (try simp only [px, List.length_map, List.length_append]); omega) szy ?_); intro v9 w9 o9 g9 hat9; have I9 := Lib.hid ((I7.out.att sy.out ky.out ey.out bz.out (row_app o9) g9 hat9).1)))
              go_roundw
              case rel => exact ⟨i + 1, _, _, _, _, _, _, _, by simp, by omega, by omega, I9.out⟩
              case measure => simp [intOf]; omega
            · by_cases hv2 : z % 6 = 2
              · have e1 : (z % 6 == 1) = false := by simpa using hv1
                have e2 : (z % 6 == 2) = true := by simpa using hv2
                have e4 : ¬ (4 : Int) ≤ z % 6 := by omega
                have e4' : z % 6 < 4 := by omega
                go_wp2_with (first
                  | (at_builtin; go_loud (refine wpList_append_rows rfl (.tmp 52) (.tmp 54) 28 rfl w.heap.size w3.heap.size 9 i9 (.string ⟨#[]⟩) 1 16 Try.underlying28 hi9 hy0 hy1 hy2 rfl (by decide) (.slice vga G.length vgc) G.length (stL G) rfl oG.out v2 (px P).length (stL (px P)) rfl o4.out (stL_one _) (by (try simp only [px, List.length_map, List.length_append]); unfold maxLen; omega) (by (try simp only [px, List.length_map, List.length_append]); omega) sz4 ?_); intro v5 w5 o5 g5 hat5; have I7 := Lib.hid ((I2.out.gone s3.out k3.out e3.out b4.out (row_app o5) g5 hat5).1.weak (B' := BW w (.slice vwa Wt.length vwc)) (fun k hk => .inl hk) (fun k hk => hk)); have cz := hzc.out _ I7.out.bw; have DT := Lib.hid (s_detach I7.out.pg.ss)))
                refine DT.out.mono ?_
                rintro x x1 ⟨rfl, sy, ky⟩
                have I9 := Lib.hid (I7.out.det sy ky)
                clear sy ky DT
                go_wp2_with fail
                go_roundw
                case rel => exact ⟨i + 1, _, _, _, _, _, _, _, by simp, by omega, by omega, I9.out⟩
                case measure => simp [intOf]; omega
              · by_cases hv4 : (4 : Int) ≤ z % 6
                · have e1 : (z % 6 == 1) = false := by simpa using hv1
                  have e2 : (z % 6 == 2) = false := by simpa using hv2
                  have e4 : (4 : Int) ≤ z % 6 := hv4
                  go_wp2_with (first
                    | (at_builtin; go_loud (refine wpList_append_rows rfl (.tmp 52) (.tmp 54) 28 rfl w.heap.size w3.heap.size 9 i9 (.string ⟨#[]⟩) 1 16 Try.underlying28 hi9 hy0 hy1 hy2 rfl (by decide) (.slice vga G.length vgc) G.length (stL G) rfl oG.out v2 (px P).length (stL (px P)) rfl o4.out (stL_one _) (by (try simp only [px, List.length_map, List.length_append]); unfold maxLen; omega) (by (try simp only [px, List.length_map, List.length_append]); omega) sz4 ?_); intro v5 w5 o5 g5 hat5; have I7 := Lib.hid ((I2.out.gone s3.out k3.out e3.out b4.out (row_app o5) g5 hat5).1.weak (B' := BW w (.slice vwa Wt.length vwc)) (fun k hk => .inl hk) (fun k hk => hk)); have cz := hzc.out _ I7.out.bw; have AN := Lib.hid (answer_any I7.out.pg.ss I7.out.av I7.out.iL I7.out.full)))
                  refine AN.out.mono ?_
                  rintro x x1 ⟨y1, Ty, Ly, ly, Gy, rfl, sy, ky, oy, ty, iy, fy, -⟩
                  have hGy : Gy.length ≤ 16 := by
                    have h' := congrArg List.length ty
                    simp only [Ses.tx, List.length_append, List.length_map] at h'
                    have := I7.out.pg.ss.le
                    omega
                  have oGy := Lib.hid (I7.out.pg.row ky (Below.refl _ _))
                  have szy : w.heap.size ≤ x1.heap.size := Nat.le_trans I7.out.bw.size ky.size
                  replace sy := Lib.hid sy
                  replace ky := Lib.hid ky
                  replace oy := Lib.hid oy
                  replace ty := Lib.hid ty
                  replace iy := Lib.hid iy
                  replace fy := Lib.hid fy
                  clear AN
                  go_wp2_with (first
                    | (at_builtin; go_loud (refine wpList_append_rows rfl (.tmp 85) (.tmp 87) 28 rfl w.heap.size w5.heap.size 9 i9 (.string ⟨#[]⟩) 1 16 Try.underlying28 hi9 hy0 hy1 hy2 rfl (by decide) v5 (G ++ px P).length (stL (G ++ px P)) rfl oGy.out y1 Gy.length (stL Gy) rfl oy.out (stL_one _) (by (try simp only [px, List.length_map, List.length_append]); unfold maxLen; omega) (by (try simp only [px, List.length_map, List.length_append]); omega) szy ?_); intro v9 w9 o9 g9 hat9; have I9 := Lib.hid ((I7.out.ans sy.out ky.out ty.out iy.out (fun ho => (fy.out ho).2) (row_app o9) g9 hat9).1)))
                  go_roundw
                  case rel => exact ⟨i + 1, _, _, _, _, _, _, _, by simp, by omega, by omega, I9.out⟩
                  case measure => simp [intOf]; omega
                · have e1 : (z % 6 == 1) = false := by simpa using hv1
                  have e2 : (z % 6 == 2) = false := by simpa using hv2
                  have e4 : ¬ (4 : Int) ≤ z % 6 := hv4
                  have e4' : z % 6 < 4 := by omega
                  go_wp2_with (first
                    | (at_builtin; go_loud (refine wpList_append_rows rfl (.tmp 52) (.tmp 54) 28 rfl w.heap.size w3.heap.size 9 i9 (.string ⟨#[]⟩) 1 16 Try.underlying28 hi9 hy0 hy1 hy2 rfl (by decide) (.slice vga G.length vgc) G.length (stL G) rfl oG.out v2 (px P).length (stL (px P)) rfl o4.out (stL_one _) (by (try simp only [px, List.length_map, List.length_append]); unfold maxLen; omega) (by (try simp only [px, List.length_map, List.length_append]); omega) sz4 ?_); intro v5 w5 o5 g5 hat5; have I7 := Lib.hid ((I2.out.gone s3.out k3.out e3.out b4.out (row_app o5) g5 hat5).1.weak (B' := BW w (.slice vwa Wt.length vwc)) (fun k hk => .inl hk) (fun k hk => hk)); have cz := hzc.out _ I7.out.bw))
                  go_roundw
                  case rel => exact ⟨i + 1, _, _, _, _, _, _, _, by simp, by omega, by omega, I7.out⟩
                  case measure => simp [intOf]; omega
          · have hb1 : ¬ (i : Int) < (len1 : Int) := by omega
            clear hb
            go_wp2_with (first
              | (at_builtin; go_loud (refine wpList_append_rows rfl (.tmp 52) (.tmp 54) 28 rfl w.heap.size w3.heap.size 9 i9 (.string ⟨#[]⟩) 1 16 Try.underlying28 hi9 hy0 hy1 hy2 rfl (by decide) (.slice vga G.length vgc) G.length (stL G) rfl oG.out v2 (px P).length (stL (px P)) rfl o4.out (stL_one _) (by (try simp only [px, List.length_map, List.length_append]); unfold maxLen; omega) (by (try simp only [px, List.length_map, List.length_append]); omega) sz4 ?_); intro v5 w5 o5 g5 hat5; have I7 := Lib.hid ((I2.out.gone s3.out k3.out e3.out b4.out (row_app o5) g5 hat5).1.weak (B' := BW w (.slice vwa Wt.length vwc)) (fun k hk => .inl hk) (fun k hk => hk))))
            go_roundw
            case rel => exact ⟨i + 1, _, _, _, _, _, _, _, by simp, by omega, by omega, I7.out⟩
            case measure => simp [intOf]; omega
      · rw [hF] at hk1
        have K1 := Lib.hid (hk1.out ((wr.alloc (.cells #[.int .u8 (i : Int)] 5)).alloc (.cells #[.string ⟨#[116]⟩, .string tt, .int .i64 1, .bool false] 30)) (I.bw.trans ((ext_two _ _ _).mono I.bw.size)))
        have kc := K1.out
        have I2 := Lib.hid (I.add (ext_two wr (.cells #[.int .u8 (i : Int)] 5) (.cells #[.string ⟨#[116]⟩, .string tt, .int .i64 2, .bool false] 30)) (bx := wr.heap.size + 1) (by omega) (by simp))
        have R2 : ((wr.alloc (.cells #[.int .u8 (i : Int)] 5)).alloc (.cells #[.string ⟨#[116]⟩, .string tt, .int .i64 2, .bool false] 30)).heap[wr.heap.size + 1]? = some (.cells #[.string ⟨#[116]⟩, .string tt, .int .i64 2, .bool false] 30 (0, 0)) := by
          have h' := heap_alloc_new (wr.alloc (.cells #[.int .u8 (i : Int)] 5)) (.cells #[.string ⟨#[116]⟩, .string tt, .int .i64 2, .bool false] 30)
          simpa using h'
        obtain ⟨m0, m1, m2, m3, mz⟩ := msg_row R2
        have DL := Lib.hid (deliver I2.out.pg.ss ⟨#[116]⟩ tt 2 2 false (.inr rfl) (by omega) (by omega) I2.out.l0 (I2.out.l1 (by omega)) I2.out.av)
        replace R2 := Lib.hid R2
        clear I hF
        go_wp2_with fail
        generalize hW2 : ((wr.alloc (.cells #[.int .u8 (i : Int)] 5)).alloc (.cells #[.string ⟨#[116]⟩, .string tt, .int .i64 2, .bool false] 30)) = w2 at *
        refine DL.out.mono ?_
        rintro e w3 ⟨v1, T', L', l', P, rfl, s3, k3, o3, e3⟩
        clear m0 m1 m2 m3 mz kc K1 DL cv hW2
        have o3' := o3
        rw [show P.length = ([] : List Se).length + P.length by simp, show pfC P = pkC [] ++ pfC P by simp [pkC]] at o3'
        have PK := pk_at o3'
        have hPl : P.length ≤ 17 := by
          have h' := fl_ln on (if l.length < 16 then l ++ [⟨⟨#[116]⟩, tt, 2, false⟩] else l) T L
          rw [e3] at h'
          have h2 : P.length + l'.length = (if l.length < 16 then l ++ [⟨⟨#[116]⟩, tt, 2, false⟩] else l).length := h'
          split at h2
          · simp at h2; omega
          · omega
        have FR := Lib.hid (firsts_any PK (by simp; omega))
        replace k3 := Lib.hid k3
        clear PK o3 o3'
        by_cases hkp : l.length < 16
        · rw [if_pos hkp] at s3 e3
          rw [decide_eq_true hkp]
          replace s3 := Lib.hid s3
          replace e3 := Lib.hid e3
          go_wp2_with fail
          refine FR.out.mono ?_
          rintro x w4 ⟨v2, rfl, o4, b4⟩
          rw [fst_dk] at o4
          have oG := Lib.hid (I2.out.pg.row k3.out b4)
          have sz4 : w.heap.size ≤ w4.heap.size := Nat.le_trans (Nat.le_trans I2.out.bw.size k3.out.size) b4.size
          replace o4 := Lib.hid o4
          replace b4 := Lib.hid b4
          clear FR
          by_cases hb : i < len1
          · have hb1 : (i : Int) < (len1 : Int) := by omega
            obtain ⟨zb, zo, rfl, hzb, hzz⟩ := hz.out.resolve_left (by omega)
            obtain ⟨z, hze⟩ : ∃ z, z = zs.getD i 0 := ⟨_, rfl⟩
            have hzw := wf_u8 (hzz i hb).2
            have hzc := Lib.hid (fun (W : World) (hW : Below w.heap.size w W) => (hW.cell (p := ⟨zb, zo + i, none⟩) hzb).trans (hzz i hb).1)
            rw [← hze] at hzw hzc
            have z0 : 0 ≤ z := hzw.1
            have z1 : z ≤ 255 := hzw.2
            have z6 : 0 ≤ z % 6 := by omega
            have z7 : z % 6 ≤ 5 := by omega
            clear hzz hze hzw hb
            by_cases hv1 : z % 6 = 1
            · have e1 : (z % 6 == 1) = true := by simpa using hv1
              have e2 : (z % 6 == 2) = false := by rw [hv1]; rfl
              have e4 : ¬ (4 : Int) ≤ z % 6 := by omega
              have e4' : z % 6 < 4 := by omega
              go_wp2_with (first
                | (at_builtin; go_loud (refine wpList_append_rows rfl (.tmp 52) (.tmp 54) 28 rfl w.heap.size w3.heap.size 9 i9 (.string ⟨#[]⟩) 1 16 Try.underlying28 hi9 hy0 hy1 hy2 rfl (by decide) (.slice vga G.length vgc) G.length (stL G) rfl oG.out v2 (px P).length (stL (px P)) rfl o4.out (stL_one _) (by (try simp only [px, List.length_map, List.length_append]); unfold maxLen; omega) (by (try simp only [px, List.length_map, List.length_append]); omega) sz4 ?_); intro v5 w5 o5 g5 hat5; obtain ⟨I5, k5⟩ := I2.out.kept ⟨⟨#[116]⟩, tt, 2, false⟩ (.inr rfl) s3.out k3.out e3.out b4.out (row_app o5) g5 hat5; have m5 := (msg_row ((k5.block _ (Array.getElem?_eq_some_iff.1 R2.out).1 (fun e => e (.inr rfl))).trans R2.out)).2.1; have oW := Lib.hid (own_keep I5.rw (ext_alloc w5 (.cells #[.string tt] 9))); have hnw := Lib.hid (cell_one w5 (.string tt) 9); have szw := I5.bw.size; replace I5 := Lib.hid I5; clear k5)
                | (at_builtin; go_loud (refine wpList_append_own_at _ rfl (.tmp 57) (.tmp 60) 28 rfl w.heap.size 9 i9 (.string ⟨#[]⟩) 1 16 Try.underlying28 hi9 hy0 hy1 hy2 rfl (by decide) (.slice vwa Wt.length vwc) Wt.length (stL Wt) rfl oW.out ⟨w5.heap.size, 0, none⟩ 1 1 [.string tt] rfl rfl hnw.out (by intro u hu; simp at hu; subst hu; rfl) (by unfold maxLen; omega) (by omega) (by simp; omega) ?_); intro v7 w7 o7 g7 _ hat7; have I7 := Lib.hid (I5.out.want (ext_alloc w5 _) (row_app o7) g7 hat7); have cz := hzc.out _ I7.out.bw; have AT := Lib.hid (attach I7.out.pg.ss I7.out.av)))
              refine AT.out.mono ?_
              rintro x x1 ⟨y1, Ty, Ly, ly, Py, rfl, sy, ky, oy, ey⟩
              have hPy : Py.length ≤ 16 := by
                have := (fl_all I7.out.pg.ss.ql ey).2.2.2.2
                have := I7.out.pg.ss.le
                omega
              have PKy := pk_at oy
              have FRy := Lib.hid (firsts_any PKy (by have := I7.out.pg.ss.fs.le; simp; omega))
              replace sy := Lib.hid sy
              replace ky := Lib.hid ky
              replace ey := Lib.hid ey
              clear PKy oy AT
              go_wp2_with fail
              refine FRy.out.mono ?_
              rintro x x2 ⟨y2, rfl, oz, bz⟩
              rw [fst_dk] at oz
              have oGy := Lib.hid (I7.out.pg.row ky.out bz)
              have szy : w.heap.size ≤ x2.heap.size := Nat.le_trans (Nat.le_trans I7.out.bw.size ky.out.size) bz.size
              replace oz := Lib.hid oz
              replace bz := Lib.hid bz
              clear FRy
              go_wp2_with (first
                | (at_builtin; go_loud (refine wpList_append_rows rfl (.tmp 74) (.tmp 77) 28 rfl w.heap.size x1.heap.size 9 i9 (.string ⟨#[]⟩) 1 16 Try.underlying28 hi9 hy0 hy1 hy2 rfl (by decide) v5 (G ++ px P).length (stL (G ++ px P)) rfl oGy.out y2 (px Py).length (stL (px Py)) rfl oz.out (stL_one _) (by (try simp only [px, List.length_map, List.length_append]); unfold maxLen; omega) (by (try simp only [px, List.length_map, List.length_append]); omega) szy ?_); intro v9 w9 o9 g9 hat9; have I9 := Lib.hid ((I7.out.att sy.out ky.out ey.out bz.out (row_app o9) g9 hat9).1)))
              go_roundw
              case rel => exact ⟨i + 1, _, _, _, _, _, _, _, by simp, by omega, by omega, I9.out⟩
              case measure => simp [intOf]; omega
            · by_cases hv2 : z % 6 = 2
              · have e1 : (z % 6 == 1) = false := by simpa using hv1
                have e2 : (z % 6 == 2) = true := by simpa using hv2
                have e4 : ¬ (4 : Int) ≤ z % 6 := by omega
                have e4' : z % 6 < 4 := by omega
                go_wp2_with (first
                  | (at_builtin; go_loud (refine wpList_append_rows rfl (.tmp 52) (.tmp 54) 28 rfl w.heap.size w3.heap.size 9 i9 (.string ⟨#[]⟩) 1 16 Try.underlying28 hi9 hy0 hy1 hy2 rfl (by decide) (.slice vga G.length vgc) G.length (stL G) rfl oG.out v2 (px P).length (stL (px P)) rfl o4.out (stL_one _) (by (try simp only [px, List.length_map, List.length_append]); unfold maxLen; omega) (by (try simp only [px, List.length_map, List.length_append]); omega) sz4 ?_); intro v5 w5 o5 g5 hat5; obtain ⟨I5, k5⟩ := I2.out.kept ⟨⟨#[116]⟩, tt, 2, false⟩ (.inr rfl) s3.out k3.out e3.out b4.out (row_app o5) g5 hat5; have m5 := (msg_row ((k5.block _ (Array.getElem?_eq_some_iff.1 R2.out).1 (fun e => e (.inr rfl))).trans R2.out)).2.1; have oW := Lib.hid (own_keep I5.rw (ext_alloc w5 (.cells #[.string tt] 9))); have hnw := Lib.hid (cell_one w5 (.string tt) 9); have szw := I5.bw.size; replace I5 := Lib.hid I5; clear k5)
                  | (at_builtin; go_loud (refine wpList_append_own_at _ rfl (.tmp 57) (.tmp 60) 28 rfl w.heap.size 9 i9 (.string ⟨#[]⟩) 1 16 Try.underlying28 hi9 hy0 hy1 hy2 rfl (by decide) (.slice vwa Wt.length vwc) Wt.length (stL Wt) rfl oW.out ⟨w5.heap.size, 0, none⟩ 1 1 [.string tt] rfl rfl hnw.out (by intro u hu; simp at hu; subst hu; rfl) (by unfold maxLen; omega) (by omega) (by simp; omega) ?_); intro v7 w7 o7 g7 _ hat7; have I7 := Lib.hid (I5.out.want (ext_alloc w5 _) (row_app o7) g7 hat7); have cz := hzc.out _ I7.out.bw; have DT := Lib.hid (s_detach I7.out.pg.ss)))
                refine DT.out.mono ?_
                rintro x x1 ⟨rfl, sy, ky⟩
                have I9 := Lib.hid (I7.out.det sy ky)
                clear sy ky DT
                go_wp2_with fail
                go_roundw
                case rel => exact ⟨i + 1, _, _, _, _, _, _, _, by simp, by omega, by omega, I9.out⟩
                case measure => simp [intOf]; omega
              · by_cases hv4 : (4 : Int) ≤ z % 6
                · have e1 : (z % 6 == 1) = false := by simpa using hv1
                  have e2 : (z % 6 == 2) = false := by simpa using hv2
                  have e4 : (4 : Int) ≤ z % 6 := hv4
                  go_wp2_with (first
                    | (at_builtin; go_loud (refine wpList_append_rows rfl (.tmp 52) (.tmp 54) 28 rfl w.heap.size w3.heap.size 9 i9 (.string ⟨#[]⟩) 1 16 Try.underlying28 hi9 hy0 hy1 hy2 rfl (by decide) (.slice vga G.length vgc) G.length (stL G) rfl oG.out v2 (px P).length (stL (px P)) rfl o4.out (stL_one _) (by (try simp only [px, List.length_map, List.length_append]); unfold maxLen; omega) (by (try simp only [px, List.length_map, List.length_append]); omega) sz4 ?_); intro v5 w5 o5 g5 hat5; obtain ⟨I5, k5⟩ := I2.out.kept ⟨⟨#[116]⟩, tt, 2, false⟩ (.inr rfl) s3.out k3.out e3.out b4.out (row_app o5) g5 hat5; have m5 := (msg_row ((k5.block _ (Array.getElem?_eq_some_iff.1 R2.out).1 (fun e => e (.inr rfl))).trans R2.out)).2.1; have oW := Lib.hid (own_keep I5.rw (ext_alloc w5 (.cells #[.string tt] 9))); have hnw := Lib.hid (cell_one w5 (.string tt) 9); have szw := I5.bw.size; replace I5 := Lib.hid I5; clear k5)
                    | (at_builtin; go_loud (refine wpList_append_own_at _ rfl (.tmp 57) (.tmp 60) 28 rfl w.heap.size 9 i9 (.string ⟨#[]⟩) 1 16 Try.underlying28 hi9 hy0 hy1 hy2 rfl (by decide) (.slice vwa Wt.length vwc) Wt.length (stL Wt) rfl oW.out ⟨w5.heap.size, 0, none⟩ 1 1 [.string tt] rfl rfl hnw.out (by intro u hu; simp at hu; subst hu; rfl) (by unfold maxLen; omega) (by omega) (by simp; omega) ?_); intro v7 w7 o7 g7 _ hat7; have I7 := Lib.hid (I5.out.want (ext_alloc w5 _) (row_app o7) g7 hat7); have cz := hzc.out _ I7.out.bw; have AN := Lib.hid (answer_any I7.out.pg.ss I7.out.av I7.out.iL I7.out.full)))
                  refine AN.out.mono ?_
                  rintro x x1 ⟨y1, Ty, Ly, ly, Gy, rfl, sy, ky, oy, ty, iy, fy, -⟩
                  have hGy : Gy.length ≤ 16 := by
                    have h' := congrArg List.length ty
                    simp only [Ses.tx, List.length_append, List.length_map] at h'
                    have := I7.out.pg.ss.le
                    omega
                  have oGy := Lib.hid (I7.out.pg.row ky (Below.refl _ _))
                  have szy : w.heap.size ≤ x1.heap.size := Nat.le_trans I7.out.bw.size ky.size
                  replace sy := Lib.hid sy
                  replace ky := Lib.hid ky
                  replace oy := Lib.hid oy
                  replace ty := Lib.hid ty
                  replace iy := Lib.hid iy
                  replace fy := Lib.hid fy
                  clear AN
                  go_wp2_with (first
                    | (at_builtin; go_loud (refine wpList_append_rows rfl (.tmp 85) (.tmp 87) 28 rfl w.heap.size w7.heap.size 9 i9 (.string ⟨#[]⟩) 1 16 Try.underlying28 hi9 hy0 hy1 hy2 rfl (by decide) v5 (G ++ px P).length (stL (G ++ px P)) rfl oGy.out y1 Gy.length (stL Gy) rfl oy.out (stL_one _) (by (try simp only [px, List.length_map, List.length_append]); unfold maxLen; omega) (by (try simp only [px, List.length_map, List.length_append]); omega) szy ?_); intro v9 w9 o9 g9 hat9; have I9 := Lib.hid ((I7.out.ans sy.out ky.out ty.out iy.out (fun ho => (fy.out ho).2) (row_app o9) g9 hat9).1)))
                  go_roundw
                  case rel => exact ⟨i + 1, _, _, _, _, _, _, _, by simp, by omega, by omega, I9.out⟩
                  case measure => simp [intOf]; omega
                · have e1 : (z % 6 == 1) = false := by simpa using hv1
                  have e2 : (z % 6 == 2) = false := by simpa using hv2
                  have e4 : ¬ (4 : Int) ≤ z % 6 := hv4
                  have e4' : z % 6 < 4 := by omega
                  go_wp2_with (first
                    | (at_builtin; go_loud (refine wpList_append_rows rfl (.tmp 52) (.tmp 54) 28 rfl w.heap.size w3.heap.size 9 i9 (.string ⟨#[]⟩) 1 16 Try.underlying28 hi9 hy0 hy1 hy2 rfl (by decide) (.slice vga G.length vgc) G.length (stL G) rfl oG.out v2 (px P).length (stL (px P)) rfl o4.out (stL_one _) (by (try simp only [px, List.length_map, List.length_append]); unfold maxLen; omega) (by (try simp only [px, List.length_map, List.length_append]); omega) sz4 ?_); intro v5 w5 o5 g5 hat5; obtain ⟨I5, k5⟩ := I2.out.kept ⟨⟨#[116]⟩, tt, 2, false⟩ (.inr rfl) s3.out k3.out e3.out b4.out (row_app o5) g5 hat5; have m5 := (msg_row ((k5.block _ (Array.getElem?_eq_some_iff.1 R2.out).1 (fun e => e (.inr rfl))).trans R2.out)).2.1; have oW := Lib.hid (own_keep I5.rw (ext_alloc w5 (.cells #[.string tt] 9))); have hnw := Lib.hid (cell_one w5 (.string tt) 9); have szw := I5.bw.size; replace I5 := Lib.hid I5; clear k5)
                    | (at_builtin; go_loud (refine wpList_append_own_at _ rfl (.tmp 57) (.tmp 60) 28 rfl w.heap.size 9 i9 (.string ⟨#[]⟩) 1 16 Try.underlying28 hi9 hy0 hy1 hy2 rfl (by decide) (.slice vwa Wt.length vwc) Wt.length (stL Wt) rfl oW.out ⟨w5.heap.size, 0, none⟩ 1 1 [.string tt] rfl rfl hnw.out (by intro u hu; simp at hu; subst hu; rfl) (by unfold maxLen; omega) (by omega) (by simp; omega) ?_); intro v7 w7 o7 g7 _ hat7; have I7 := Lib.hid (I5.out.want (ext_alloc w5 _) (row_app o7) g7 hat7); have cz := hzc.out _ I7.out.bw))
                  go_roundw
                  case rel => exact ⟨i + 1, _, _, _, _, _, _, _, by simp, by omega, by omega, I7.out⟩
                  case measure => simp [intOf]; omega
          · have hb1 : ¬ (i : Int) < (len1 : Int) := by omega
            clear hb
            go_wp2_with (first
              | (at_builtin; go_loud (refine wpList_append_rows rfl (.tmp 52) (.tmp 54) 28 rfl w.heap.size w3.heap.size 9 i9 (.string ⟨#[]⟩) 1 16 Try.underlying28 hi9 hy0 hy1 hy2 rfl (by decide) (.slice vga G.length vgc) G.length (stL G) rfl oG.out v2 (px P).length (stL (px P)) rfl o4.out (stL_one _) (by (try simp only [px, List.length_map, List.length_append]); unfold maxLen; omega) (by (try simp only [px, List.length_map, List.length_append]); omega) sz4 ?_); intro v5 w5 o5 g5 hat5; obtain ⟨I5, k5⟩ := I2.out.kept ⟨⟨#[116]⟩, tt, 2, false⟩ (.inr rfl) s3.out k3.out e3.out b4.out (row_app o5) g5 hat5; have m5 := (msg_row ((k5.block _ (Array.getElem?_eq_some_iff.1 R2.out).1 (fun e => e (.inr rfl))).trans R2.out)).2.1; have oW := Lib.hid (own_keep I5.rw (ext_alloc w5 (.cells #[.string tt] 9))); have hnw := Lib.hid (cell_one w5 (.string tt) 9); have szw := I5.bw.size; replace I5 := Lib.hid I5; clear k5)
              | (at_builtin; go_loud (refine wpList_append_own_at _ rfl (.tmp 57) (.tmp 60) 28 rfl w.heap.size 9 i9 (.string ⟨#[]⟩) 1 16 Try.underlying28 hi9 hy0 hy1 hy2 rfl (by decide) (.slice vwa Wt.length vwc) Wt.length (stL Wt) rfl oW.out ⟨w5.heap.size, 0, none⟩ 1 1 [.string tt] rfl rfl hnw.out (by intro u hu; simp at hu; subst hu; rfl) (by unfold maxLen; omega) (by omega) (by simp; omega) ?_); intro v7 w7 o7 g7 _ hat7; have I7 := Lib.hid (I5.out.want (ext_alloc w5 _) (row_app o7) g7 hat7)))
            go_roundw
            case rel => exact ⟨i + 1, _, _, _, _, _, _, _, by simp, by omega, by omega, I7.out⟩
            case measure => simp [intOf]; omega
        · rw [if_neg hkp] at s3 e3
          rw [decide_eq_false hkp]
          replace s3 := Lib.hid s3
          replace e3 := Lib.hid e3
          go_wp2_with fail
          refine FR.out.mono ?_
          rintro x w4 ⟨v2, rfl, o4, b4⟩
          rw [fst_dk] at o4
          have oG := Lib.hid (I2.out.pg.row k3.out b4)
          have sz4 : w.heap.size ≤ w4.heap.size := Nat.le_trans (Nat.le_trans I2.out.bw.size k3.out.size) b4.size
          replace o4 := Lib.hid o4
          replace b4 := Lib.hid b4
          clear FR
          by_cases hb : i < len1
          · have hb1 : (i : Int) < (len1 : Int) := by omega
            obtain ⟨zb, zo, rfl, hzb, hzz⟩ := hz.out.resolve_left (by omega)
            obtain ⟨z, hze⟩ : ∃ z, z = zs.getD i 0 := ⟨_, rfl⟩
            have hzw := wf_u8 (hzz i hb).2
            have hzc := Lib.hid (fun (W : World) (hW : Below w.heap.size w W) => (hW.cell (p := ⟨zb, zo + i, none⟩) hzb).trans (hzz i hb).1)
            rw [← hze] at hzw hzc
            have z0 : 0 ≤ z := hzw.1
            have z1 : z ≤ 255 := hzw.2
            have z6 : 0 ≤ z % 6 := by omega
            have z7 : z % 6 ≤ 5 := by omega
            clear hzz hze hzw hb
            by_cases hv1 : z % 6 = 1
            · have e1 : (z % 6 == 1) = true := by simpa using hv1
              have e2 : (z % 6 == 2) = false := by rw [hv1]; rfl
              have e4 : ¬ (4 : Int) ≤ z % 6 := by omega
              have e4' : z % 6 < 4 := by omega
              go_wp2_with (first
                | (at_builtin; go_loud (refine wpList_append_rows rfl (.tmp 52) (.tmp 54) 28 rfl w.heap.size w3.heap.size 9 i9 (.string ⟨#[]⟩) 1 16 Try.underlying28 hi9 hy0 hy1 hy2 rfl (by decide) (.slice vga G.length vgc) G.length (stL G) rfl oG.out v2 (px P).length (stL (px P)) rfl o4.out (stL_one _) (by (try simp only [px, List.length_map, List.length_append]); unfold maxLen; omega) (by (try simp only [px, List.length_map, List.length_append]); omega) sz4 ?_); intro v5 w5 o5 g5 hat5; have I7 := Lib.hid ((I2.out.gone s3.out k3.out e3.out b4.out (row_app o5) g5 hat5).1.weak (B' := BW w (.slice vwa Wt.length vwc)) (fun k hk => .inl hk) (fun k hk => hk)); have cz := hzc.out _ I7.out.bw; have AT := Lib.hid (attach I7.out.pg.ss I7.out.av)))
              refine AT.out.mono ?_
              rintro x x1 ⟨y1, Ty, Ly, ly, Py, rfl, sy, ky, oy, ey⟩
              have hPy : Py.length ≤ 16 := by
                have := (fl_all I7.out.pg.ss.ql ey).2.2.2.2
                have := I7.out.pg.ss.le
                omega
              have PKy := pk_at oy
              have FRy := Lib.hid (firsts_any PKy (by have := I7.out.pg.ss.fs.le; simp; omega))
              replace sy := Lib.hid sy
              replace ky := Lib.hid ky
              replace ey := Lib.hid ey
              clear PKy oy AT
              go_wp2_with fail
              refine FRy.out.mono ?_
              rintro x x2 ⟨y2, rfl, oz, bz⟩
              rw [fst_dk] at oz
              have oGy := Lib.hid (I7.out.pg.row ky.out bz)
              have szy : w.heap.size ≤ x2.heap.size := Nat.le_trans (Nat.le_trans I7.out.bw.size ky.out.size) bz.size
              replace oz := Lib.hid oz
              replace bz := Lib.hid bz
              clear FRy
              go_wp2_with (first
                | (at_builtin; go_loud (refine wpList_append_rows rfl (.tmp 74) (.tmp 77) 28 rfl w.heap.size x1.heap.size 9 i9 (.string ⟨#[]⟩) 1 16 Try.underlying28 hi9 hy0 hy1 hy2 rfl (by decide) v5 (G ++ px P).length (stL (G ++ px P)) rfl oGy.out y2 (px Py).length (stL (px Py)) rfl oz.out (stL_one _) (by (try simp only [px, List.length_map, List.length_append]); unfold maxLen; omega) (by (try simp only [px, List.length_map, List.length_append]); omega) szy ?_); intro v9 w9 o9 g9 hat9; have I9 := Lib.hid ((I7.out.att sy.out ky.out ey.out bz.out (row_app o9) g9 hat9).1)))
              go_roundw
              case rel => exact ⟨i + 1, _, _, _, _, _, _, _, by simp, by omega, by omega, I9.out⟩
              case measure => simp [intOf]; omega
            · by_cases hv2 : z % 6 = 2
              · have e1 : (z % 6 == 1) = false := by simpa using hv1
                have e2 : (z % 6 == 2) = true := by simpa using hv2
                have e4 : ¬ (4 : Int) ≤ z % 6 := by omega
                have e4' : z % 6 < 4 := by omega
                go_wp2_with (first
                  | (at_builtin; go_loud (refine wpList_append_rows rfl (.tmp 52) (.tmp 54) 28 rfl w.heap.size w3.heap.size 9 i9 (.string ⟨#[]⟩) 1 16 Try.underlying28 hi9 hy0 hy1 hy2 rfl (by decide) (.slice vga G.length vgc) G.length (stL G) rfl oG.out v2 (px P).length (stL (px P)) rfl o4.out (stL_one _) (by (try simp only [px, List.length_map, List.length_append]); unfold maxLen; omega) (by (try simp only [px, List.length_map, List.length_append]); omega) sz4 ?_); intro v5 w5 o5 g5 hat5; have I7 := Lib.hid ((I2.out.gone s3.out k3.out e3.out b4.out (row_app o5) g5 hat5).1.weak (B' := BW w (.slice vwa Wt.length vwc)) (fun k hk => .inl hk) (fun k hk => hk)); have cz := hzc.out _ I7.out.bw; have DT := Lib.hid (s_detach I7.out.pg.ss)))
                refine DT.out.mono ?_
                rintro x x1 ⟨rfl, sy, ky⟩
                have I9 := Lib.hid (I7.out.det sy ky)
                clear sy ky DT
                go_wp2_with fail
                go_roundw
                case rel => exact ⟨i + 1, _, _, _, _, _, _, _, by simp, by omega, by omega, I9.out⟩
                case measure => simp [intOf]; omega
              · by_cases hv4 : (4 : Int) ≤ z % 6
                · have e1 : (z % 6 == 1) = false := by simpa using hv1
                  have e2 : (z % 6 == 2) = false := by simpa using hv2
                  have e4 : (4 : Int) ≤ z % 6 := hv4
                  go_wp2_with (first
                    | (at_builtin; go_loud (refine wpList_append_rows rfl (.tmp 52) (.tmp 54) 28 rfl w.heap.size w3.heap.size 9 i9 (.string ⟨#[]⟩) 1 16 Try.underlying28 hi9 hy0 hy1 hy2 rfl (by decide) (.slice vga G.length vgc) G.length (stL G) rfl oG.out v2 (px P).length (stL (px P)) rfl o4.out (stL_one _) (by (try simp only [px, List.length_map, List.length_append]); unfold maxLen; omega) (by (try simp only [px, List.length_map, List.length_append]); omega) sz4 ?_); intro v5 w5 o5 g5 hat5; have I7 := Lib.hid ((I2.out.gone s3.out k3.out e3.out b4.out (row_app o5) g5 hat5).1.weak (B' := BW w (.slice vwa Wt.length vwc)) (fun k hk => .inl hk) (fun k hk => hk)); have cz := hzc.out _ I7.out.bw; have AN := Lib.hid (answer_any I7.out.pg.ss I7.out.av I7.out.iL I7.out.full)))
                  refine AN.out.mono ?_
                  rintro x x1 ⟨y1, Ty, Ly, ly, Gy, rfl, sy, ky, oy, ty, iy, fy, -⟩
                  have hGy : Gy.length ≤ 16 := by
                    have h' := congrArg List.length ty
                    simp only [Ses.tx, List.length_append, List.length_map] at h'
                    have := I7.out.pg.ss.le
                    omega
                  have oGy := Lib.hid (I7.out.pg.row ky (Below.refl _ _))
                  have szy : w.heap.size ≤ x1.heap.size := Nat.le_trans I7.out.bw.size ky.size
                  replace sy := Lib.hid sy
                  replace ky := Lib.hid ky
                  replace oy := Lib.hid oy
                  replace ty := Lib.hid ty
                  replace iy := Lib.hid iy
                  replace fy := Lib.hid fy
                  clear AN
                  go_wp2_with (first
                    | (at_builtin; go_loud (refine wpList_append_rows rfl (.tmp 85) (.tmp 87) 28 rfl w.heap.size w5.heap.size 9 i9 (.string ⟨#[]⟩) 1 16 Try.underlying28 hi9 hy0 hy1 hy2 rfl (by decide) v5 (G ++ px P).length (stL (G ++ px P)) rfl oGy.out y1 Gy.length (stL Gy) rfl oy.out (stL_one _) (by (try simp only [px, List.length_map, List.length_append]); unfold maxLen; omega) (by (try simp only [px, List.length_map, List.length_append]); omega) szy ?_); intro v9 w9 o9 g9 hat9; have I9 := Lib.hid ((I7.out.ans sy.out ky.out ty.out iy.out (fun ho => (fy.out ho).2) (row_app o9) g9 hat9).1)))
                  go_roundw
                  case rel => exact ⟨i + 1, _, _, _, _, _, _, _, by simp, by omega, by omega, I9.out⟩
                  case measure => simp [intOf]; omega
                · have e1 : (z % 6 == 1) = false := by simpa using hv1
                  have e2 : (z % 6 == 2) = false := by simpa using hv2
                  have e4 : ¬ (4 : Int) ≤ z % 6 := hv4
                  have e4' : z % 6 < 4 := by omega
                  go_wp2_with (first
                    | (at_builtin; go_loud (refine wpList_append_rows rfl (.tmp 52) (.tmp 54) 28 rfl w.heap.size w3.heap.size 9 i9 (.string ⟨#[]⟩) 1 16 Try.underlying28 hi9 hy0 hy1 hy2 rfl (by decide) (.slice vga G.length vgc) G.length (stL G) rfl oG.out v2 (px P).length (stL (px P)) rfl o4.out (stL_one _) (by (try simp only [px, List.length_map, List.length_append]); unfold maxLen; omega) (by (try simp only [px, List.length_map, List.length_append]); omega) sz4 ?_); intro v5 w5 o5 g5 hat5; have I7 := Lib.hid ((I2.out.gone s3.out k3.out e3.out b4.out (row_app o5) g5 hat5).1.weak (B' := BW w (.slice vwa Wt.length vwc)) (fun k hk => .inl hk) (fun k hk => hk)); have cz := hzc.out _ I7.out.bw))
                  go_roundw
                  case rel => exact ⟨i + 1, _, _, _, _, _, _, _, by simp, by omega, by omega, I7.out⟩
                  case measure => simp [intOf]; omega
          · have hb1 : ¬ (i : Int) < (len1 : Int) := by omega
            clear hb
            go_wp2_with (first
              | (at_builtin; go_loud (refine wpList_append_rows rfl (.tmp 52) (.tmp 54) 28 rfl w.heap.size w3.heap.size 9 i9 (.string ⟨#[]⟩) 1 16 Try.underlying28 hi9 hy0 hy1 hy2 rfl (by decide) (.slice vga G.length vgc) G.length (stL G) rfl oG.out v2 (px P).length (stL (px P)) rfl o4.out (stL_one _) (by (try simp only [px, List.length_map, List.length_append]); unfold maxLen; omega) (by (try simp only [px, List.length_map, List.length_append]); omega) sz4 ?_); intro v5 w5 o5 g5 hat5; have I7 := Lib.hid ((I2.out.gone s3.out k3.out e3.out b4.out (row_app o5) g5 hat5).1.weak (B' := BW w (.slice vwa Wt.length vwc)) (fun k hk => .inl hk) (fun k hk => hk))))
            go_roundw
            case rel => exact ⟨i + 1, _, _, _, _, _, _, _, by simp, by omega, by omega, I7.out⟩
            case measure => simp [intOf]; omega
    · replace I := Lib.hid I
      by_cases h60 : len0 ≤ 60
      · obtain rfl : i = len0 := by omega
        have hm : (i : Int) ≤ 60 := by omega
        have hx1 : ¬ (i : Int) < (i : Int) := by omega
        have AT := Lib.hid (attach I.out.pg.ss I.out.av)
        clear hlt hgl hwi
        go_wp2_with fail
        refine AT.out.mono ?_
        rintro x x1 ⟨y1, Ty, Ly, ly, Py, rfl, sy, ky, oy, ey⟩
        have hPy : Py.length ≤ 16 := by
          have := (fl_all I.out.pg.ss.ql ey).2.2.2.2
          have := I.out.pg.ss.le
          omega
        have PKy := pk_at oy
        have FRy := Lib.hid (firsts_any PKy (by have := I.out.pg.ss.fs.le; simp; omega))
        replace sy := Lib.hid sy
        replace ky := Lib.hid ky
        replace ey := Lib.hid ey
        clear PKy oy AT
        go_wp2_with fail
        refine FRy.out.mono ?_
        rintro x x2 ⟨y2, rfl, oz, bz⟩
        rw [fst_dk] at oz
        have oGy := Lib.hid (I.out.pg.row ky.out bz)
        have szy : w.heap.size ≤ x2.heap.size := Nat.le_trans (Nat.le_trans I.out.bw.size ky.out.size) bz.size
        replace oz := Lib.hid oz
        replace bz := Lib.hid bz
        clear FRy
        go_wp2_with (first
          | (at_builtin; go_loud (refine wpList_append_rows rfl (.tmp 89) (.tmp 92) 28 rfl w.heap.size x1.heap.size 9 i9 (.string ⟨#[]⟩) 1 16 Try.underlying28 hi9 hy0 hy1 hy2 rfl (by decide) (.slice vga G.length vgc) G.length (stL G) rfl oGy.out y2 (px Py).length (stL (px Py)) rfl oz.out (stL_one _) (by (try simp only [px, List.length_map, List.length_append]); unfold maxLen; omega) (by (try simp only [px, List.length_map, List.length_append]); omega) szy ?_); intro v9 w9 o9 g9 hat9; have I9 := Lib.hid ((I.out.att sy.out ky.out ey.out bz.out (row_app o9) g9 hat9).1)))
        clear sy ky ey oz bz oGy szy o9 g9 hat9
        have hs9 : Ly.length + ly.length ≤ 24 := by
          have h1 := I9.out.pg.ss.fs.le
          have h2 := I9.out.pg.ss.le
          omega
        obtain ⟨G9, hG9⟩ : ∃ G9, G9 = G ++ px Py := ⟨_, rfl⟩
        rw [← hG9] at I9
        clear hG9 hPy
        go_loopw [8, 14] (fun vg rv wq => ∃ (r : Nat) (T : List Bool) (L : List Se) (l : List Mg) (G : List ByteArray), rv = .int .i64 (r : Int) ∧ r ≤ 60 ∧ Om w wq a true T L l lost vg (.slice vwa Wt.length vwc) G Wt i ∧ (L.length + l.length = 0 ∨ L.length + l.length + r ≤ 24)) (fun _ rv _ => 60 - (intOf rv).toNat)
        case atStart => exact ⟨0, _, _, _, _, rfl, by omega, I9.out, by omega⟩
        case round =>
          obtain ⟨r, T, L, l, G, rfl, hr, J, hm24⟩ := hrel
          clear I9 hs9
          obtain ⟨ga, gc, rfl⟩ := own_slice J.pg.rg
          have hGl : G.length ≤ 60 := by
            have h1 := J.glen
            simp only [List.length_nil] at h1
            omega
          replace J := Lib.hid J
          by_cases hr6 : r < 60
          · have hr6' : (r : Int) < 60 := by omega
            have AN := Lib.hid (answer_any J.out.pg.ss J.out.av J.out.iL J.out.full)
            have hml : l.length = 0 ∨ l.length + (r + 1) ≤ 24 := by
              rcases hm24 with h | h
              · left; omega
              · rcases J.out.full rfl with h' | h'
                · left; rw [h']; rfl
                · right; omega
            go_wp2_with fail
            refine AN.out.mono ?_
            rintro x x1 ⟨y1, Tz, Lz, lz, Gz, rfl, sz1, kz, oz, tz, iz, fz, -⟩
            have hGz : Gz.length ≤ 16 := by
              have h' := congrArg List.length tz
              simp only [Ses.tx, List.length_append, List.length_map] at h'
              have := J.out.pg.ss.le
              omega
            have oGz := Lib.hid (J.out.pg.row kz (Below.refl _ _))
            have szz : w.heap.size ≤ x1.heap.size := Nat.le_trans J.out.bw.size kz.size
            have hcz := (fz rfl).1
            replace fz := (fz rfl).2
            replace sz1 := Lib.hid sz1
            replace kz := Lib.hid kz
            replace oz := Lib.hid oz
            replace tz := Lib.hid tz
            replace iz := Lib.hid iz
            replace fz := Lib.hid fz
            clear AN hm24
            go_wp2_with (first
              | (at_builtin; go_loud (refine wpList_append_rows rfl (.tmp 98) (.tmp 100) 28 rfl w.heap.size wr.heap.size 9 i9 (.string ⟨#[]⟩) 1 16 Try.underlying28 hi9 hy0 hy1 hy2 rfl (by decide) (.slice ga G.length gc) G.length (stL G) rfl oGz.out y1 Gz.length (stL Gz) rfl oz.out (stL_one _) (by (try simp only [px, List.length_map, List.length_append]); unfold maxLen; omega) (by (try simp only [px, List.length_map, List.length_append]); omega) szz ?_); intro v9 w9 o9 g9 hat9; have J9 := Lib.hid ((J.out.ans sz1.out kz.out tz.out iz.out (fun _ => fz.out) (row_app o9) g9 hat9).1)))
            go_roundw
            case rel => exact ⟨r + 1, _, _, _, _, by simp, by omega, J9.out, by omega⟩
            case measure => simp [intOf]; omega
          · obtain rfl : r = 60 := by omega
            have hL0 : L = [] := List.eq_nil_of_length_eq_zero (by omega)
            have hl0' : l = [] := List.eq_nil_of_length_eq_zero (by omega)
            subst hL0 hl0'
            have hGW : G = Wt := by
              have h' := J.out.tx
              simpa [Ses.tx] using h'
            subst hGW
            have QU := Lib.hid (s_queue J.out.pg.ss)
            clear hr6 hm24 hr
            go_wp2_with fail
            refine QU.out.mono ?_
            rintro x x1 ⟨y1, rfl, oq, sq, kq, -⟩
            obtain ⟨qa, qc, rfl⟩ := own_slice oq
            have J1 := Lib.hid (J.out.same sq kq)
            have FLT := Lib.hid (s_flight sq)
            clear oq sq kq QU J
            go_wp2_with fail
            refine FLT.out.mono ?_
            rintro x x2 ⟨y2, rfl, of, bf⟩
            obtain ⟨fa, fc, rfl⟩ := own_slice of
            have J2 := Lib.hid (J1.out.ext bf)
            clear of bf FLT J1
            go_wp2_with fail
            go_loopw [15] (fun jv wq => ∃ j : Nat, jv = .int .i64 (j : Int) ∧ j ≤ G.length ∧ Om w wq a true T [] [] lost (.slice ga G.length gc) (.slice vwa G.length vwc) G G i) (fun jv _ => G.length - (intOf jv).toNat)
            case atStart => exact ⟨0, rfl, by omega, J2.out⟩
            case round =>
              obtain ⟨j, rfl, hj, J3⟩ := hrel
              clear J2
              by_cases hjl : j < G.length
              · have hjl' : (j : Int) < (G.length : Int) := by omega
                obtain ⟨gg, gcc, hgv⟩ := own_slice' J3.pg.rg (by omega)
                obtain ⟨hh, hcc, hhv⟩ := own_slice' J3.rw (by omega)
                simp only [Value.slice.injEq] at hgv hhv
                obtain ⟨rfl, -, rfl⟩ := hgv
                obtain ⟨rfl, -, rfl⟩ := hhv
                have hgj : (stL G)[j]? = some (.string G[j]) := by simp [stL, hjl]
                generalize G[j] = sj at hgj
                have KO := Lib.hid (fun W (hb : Below wr.heap.size wr W) => (show W.cell? ⟨gg, j, none⟩ = some (.string sj) ∧ W.cell? ⟨hh, j, none⟩ = some (.string sj) from ⟨own_get (own_keep J3.pg.rg hb) hgj, own_get (own_keep J3.rw hb) hgj⟩))
                obtain ⟨k0, k1⟩ := KO.out _ (Below.refl _ _)
                replace J3 := Lib.hid J3
                clear hgj
                go_wp2_with fail
                go_region_held3 (fun W => W.cell? ⟨gg, j, none⟩ = some (.string sj) ∧ W.cell? ⟨hh, j, none⟩ = some (.string sj))
                  (exact KO.out _ (by repeat (first | exact Below.refl _ _ | refine Below.drew ?_)))
                  (fail)
                all_goals
                  go_wp2_with fail
                  go_roundw
                  case rel => exact ⟨j + 1, by simp, by omega, by first | exact J3.out | exact J3.out.ext (ext_drew _) | exact J3.out.ext (ext_drewN _ _)⟩
                  case measure => simp [intOf]; omega
              · obtain rfl : j = G.length := by omega
                have LO := Lib.hid (s_lost J3.pg.ss)
                have hlo := J3.lo
                simp only [List.length_nil, Nat.add_zero] at hlo
                have hlo2 : (lost == (i : Int) - (G.length : Int)) = true := by simp; omega
                have B3 := Lib.hid J3.bw
                clear hjl hj hlo J3
                go_wp2_with fail
                refine LO.out.mono ?_
                rintro x x4 ⟨rfl, rfl⟩
                go_wp2_with fail
                refine (awake25_any _).mono ?_
                rintro x x5 ⟨rfl, b5⟩
                go_wp2_with fail
                go_ret
                exact ⟨rfl, B3.out.trans (b5.mono B3.out.size)⟩
      · obtain rfl : i = 60 := by omega
        have hm : (60 : Int) < (len0 : Int) := by omega
        have hm' : ¬ (len0 : Int) ≤ 60 := by omega
        have AT := Lib.hid (attach I.out.pg.ss I.out.av)
        clear hlt hgl hwi
        go_wp2_with fail
        refine AT.out.mono ?_
        rintro x x1 ⟨y1, Ty, Ly, ly, Py, rfl, sy, ky, oy, ey⟩
        have hPy : Py.length ≤ 16 := by
          have := (fl_all I.out.pg.ss.ql ey).2.2.2.2
          have := I.out.pg.ss.le
          omega
        have PKy := pk_at oy
        have FRy := Lib.hid (firsts_any PKy (by have := I.out.pg.ss.fs.le; simp; omega))
        replace sy := Lib.hid sy
        replace ky := Lib.hid ky
        replace ey := Lib.hid ey
        clear PKy oy AT
        go_wp2_with fail
        refine FRy.out.mono ?_
        rintro x x2 ⟨y2, rfl, oz, bz⟩
        rw [fst_dk] at oz
        have oGy := Lib.hid (I.out.pg.row ky.out bz)
        have szy : w.heap.size ≤ x2.heap.size := Nat.le_trans (Nat.le_trans I.out.bw.size ky.out.size) bz.size
        replace oz := Lib.hid oz
        replace bz := Lib.hid bz
        clear FRy
        go_wp2_with (first
          | (at_builtin; go_loud (refine wpList_append_rows rfl (.tmp 89) (.tmp 92) 28 rfl w.heap.size x1.heap.size 9 i9 (.string ⟨#[]⟩) 1 16 Try.underlying28 hi9 hy0 hy1 hy2 rfl (by decide) (.slice vga G.length vgc) G.length (stL G) rfl oGy.out y2 (px Py).length (stL (px Py)) rfl oz.out (stL_one _) (by (try simp only [px, List.length_map, List.length_append]); unfold maxLen; omega) (by (try simp only [px, List.length_map, List.length_append]); omega) szy ?_); intro v9 w9 o9 g9 hat9; have I9 := Lib.hid ((I.out.att sy.out ky.out ey.out bz.out (row_app o9) g9 hat9).1)))
        clear sy ky ey oz bz oGy szy o9 g9 hat9
        have hs9 : Ly.length + ly.length ≤ 24 := by
          have h1 := I9.out.pg.ss.fs.le
          have h2 := I9.out.pg.ss.le
          omega
        obtain ⟨G9, hG9⟩ : ∃ G9, G9 = G ++ px Py := ⟨_, rfl⟩
        rw [← hG9] at I9
        clear hG9 hPy
        go_loopw [8, 14] (fun vg rv wq => ∃ (r : Nat) (T : List Bool) (L : List Se) (l : List Mg) (G : List ByteArray), rv = .int .i64 (r : Int) ∧ r ≤ 60 ∧ Om w wq a true T L l lost vg (.slice vwa Wt.length vwc) G Wt 60 ∧ (L.length + l.length = 0 ∨ L.length + l.length + r ≤ 24)) (fun _ rv _ => 60 - (intOf rv).toNat)
        case atStart => exact ⟨0, _, _, _, _, rfl, by omega, I9.out, by omega⟩
        case round =>
          obtain ⟨r, T, L, l, G, rfl, hr, J, hm24⟩ := hrel
          clear I9 hs9
          obtain ⟨ga, gc, rfl⟩ := own_slice J.pg.rg
          have hGl : G.length ≤ 60 := by
            have h1 := J.glen
            simp only [List.length_nil] at h1
            omega
          replace J := Lib.hid J
          by_cases hr6 : r < 60
          · have hr6' : (r : Int) < 60 := by omega
            have AN := Lib.hid (answer_any J.out.pg.ss J.out.av J.out.iL J.out.full)
            have hml : l.length = 0 ∨ l.length + (r + 1) ≤ 24 := by
              rcases hm24 with h | h
              · left; omega
              · rcases J.out.full rfl with h' | h'
                · left; rw [h']; rfl
                · right; omega
            go_wp2_with fail
            refine AN.out.mono ?_
            rintro x x1 ⟨y1, Tz, Lz, lz, Gz, rfl, sz1, kz, oz, tz, iz, fz, -⟩
            have hGz : Gz.length ≤ 16 := by
              have h' := congrArg List.length tz
              simp only [Ses.tx, List.length_append, List.length_map] at h'
              have := J.out.pg.ss.le
              omega
            have oGz := Lib.hid (J.out.pg.row kz (Below.refl _ _))
            have szz : w.heap.size ≤ x1.heap.size := Nat.le_trans J.out.bw.size kz.size
            have hcz := (fz rfl).1
            replace fz := (fz rfl).2
            replace sz1 := Lib.hid sz1
            replace kz := Lib.hid kz
            replace oz := Lib.hid oz
            replace tz := Lib.hid tz
            replace iz := Lib.hid iz
            replace fz := Lib.hid fz
            clear AN hm24
            go_wp2_with (first
              | (at_builtin; go_loud (refine wpList_append_rows rfl (.tmp 98) (.tmp 100) 28 rfl w.heap.size wr.heap.size 9 i9 (.string ⟨#[]⟩) 1 16 Try.underlying28 hi9 hy0 hy1 hy2 rfl (by decide) (.slice ga G.length gc) G.length (stL G) rfl oGz.out y1 Gz.length (stL Gz) rfl oz.out (stL_one _) (by (try simp only [px, List.length_map, List.length_append]); unfold maxLen; omega) (by (try simp only [px, List.length_map, List.length_append]); omega) szz ?_); intro v9 w9 o9 g9 hat9; have J9 := Lib.hid ((J.out.ans sz1.out kz.out tz.out iz.out (fun _ => fz.out) (row_app o9) g9 hat9).1)))
            go_roundw
            case rel => exact ⟨r + 1, _, _, _, _, by simp, by omega, J9.out, by omega⟩
            case measure => simp [intOf]; omega
          · obtain rfl : r = 60 := by omega
            have hL0 : L = [] := List.eq_nil_of_length_eq_zero (by omega)
            have hl0' : l = [] := List.eq_nil_of_length_eq_zero (by omega)
            subst hL0 hl0'
            have hGW : G = Wt := by
              have h' := J.out.tx
              simpa [Ses.tx] using h'
            subst hGW
            have QU := Lib.hid (s_queue J.out.pg.ss)
            clear hr6 hm24 hr
            go_wp2_with fail
            refine QU.out.mono ?_
            rintro x x1 ⟨y1, rfl, oq, sq, kq, -⟩
            obtain ⟨qa, qc, rfl⟩ := own_slice oq
            have J1 := Lib.hid (J.out.same sq kq)
            have FLT := Lib.hid (s_flight sq)
            clear oq sq kq QU J
            go_wp2_with fail
            refine FLT.out.mono ?_
            rintro x x2 ⟨y2, rfl, of, bf⟩
            obtain ⟨fa, fc, rfl⟩ := own_slice of
            have J2 := Lib.hid (J1.out.ext bf)
            clear of bf FLT J1
            go_wp2_with fail
            go_loopw [15] (fun jv wq => ∃ j : Nat, jv = .int .i64 (j : Int) ∧ j ≤ G.length ∧ Om w wq a true T [] [] lost (.slice ga G.length gc) (.slice vwa G.length vwc) G G 60) (fun jv _ => G.length - (intOf jv).toNat)
            case atStart => exact ⟨0, rfl, by omega, J2.out⟩
            case round =>
              obtain ⟨j, rfl, hj, J3⟩ := hrel
              clear J2
              by_cases hjl : j < G.length
              · have hjl' : (j : Int) < (G.length : Int) := by omega
                obtain ⟨gg, gcc, hgv⟩ := own_slice' J3.pg.rg (by omega)
                obtain ⟨hh, hcc, hhv⟩ := own_slice' J3.rw (by omega)
                simp only [Value.slice.injEq] at hgv hhv
                obtain ⟨rfl, -, rfl⟩ := hgv
                obtain ⟨rfl, -, rfl⟩ := hhv
                have hgj : (stL G)[j]? = some (.string G[j]) := by simp [stL, hjl]
                generalize G[j] = sj at hgj
                have KO := Lib.hid (fun W (hb : Below wr.heap.size wr W) => (show W.cell? ⟨gg, j, none⟩ = some (.string sj) ∧ W.cell? ⟨hh, j, none⟩ = some (.string sj) from ⟨own_get (own_keep J3.pg.rg hb) hgj, own_get (own_keep J3.rw hb) hgj⟩))
                obtain ⟨k0, k1⟩ := KO.out _ (Below.refl _ _)
                replace J3 := Lib.hid J3
                clear hgj
                go_wp2_with fail
                go_region_held3 (fun W => W.cell? ⟨gg, j, none⟩ = some (.string sj) ∧ W.cell? ⟨hh, j, none⟩ = some (.string sj))
                  (exact KO.out _ (by repeat (first | exact Below.refl _ _ | refine Below.drew ?_)))
                  (fail)
                all_goals
                  go_wp2_with fail
                  go_roundw
                  case rel => exact ⟨j + 1, by simp, by omega, by first | exact J3.out | exact J3.out.ext (ext_drew _) | exact J3.out.ext (ext_drewN _ _)⟩
                  case measure => simp [intOf]; omega
              · obtain rfl : j = G.length := by omega
                have LO := Lib.hid (s_lost J3.pg.ss)
                have hlo := J3.lo
                simp only [List.length_nil, Nat.add_zero] at hlo
                have hlo2 : (lost == (60 : Int) - (G.length : Int)) = true := by simp; omega
                have B3 := Lib.hid J3.bw
                clear hjl hj hlo J3
                go_wp2_with fail
                refine LO.out.mono ?_
                rintro x x4 ⟨rfl, rfl⟩
                go_wp2_with fail
                refine (awake25_any _).mono ?_
                rintro x x5 ⟨rfl, b5⟩
                go_wp2_with fail
                go_ret
                exact ⟨rfl, B3.out.trans (b5.mono B3.out.size)⟩

set_option maxRecDepth 100000 in
theorem lifted (os : Os) (started : os.Started) (H : Type) (enc : TypeId × Value → H) :
    ReturnsInHanded {} Try.checked os 3 .any (Rows.sessionOnceSpec.pre6 enc Try.prog Try.f3 Rows.sessionOnceRow.domain false) (Rows.sessionOnceSpec.post enc Try.prog Try.f3 false true false false) := by
  refine returnsInHanded_of_change_sized (C := Try.checked) own started (by kernel_rfl) Try.func3
    (ChangeSpec.witness6 (enc := enc) (C := Try.checked) false ⟨#[], #[.slice none 0 0, .slice none 0 0], []⟩ 8 (by kernel_rfl) (by kernel_rfl) (by kernel_rfl) (by kernel_rfl)) ?_
  intro W base args ds gs before hval0 hW hcnd hsz0 _
  have hsz : (DataW.weightsEach Try.prog (Try.f3.params.toList ++ Rows.sessionOnceSpec.plain.varTypes Try.prog) (ds ++ gs)).all (· ≤ reachBytes) = true := hsz0
  have hval : ∀ (j : Nat) t v, Try.f3.params[j]? = some t → args[j]? = some v → Value.okWide Try.prog W .any base t v := hval0
  have hW' := hW
  obtain ⟨p, q, hA0, hV, rfl, hfz, hnd⟩ := hW
  have hA : DataW.TrodAll enc Try.prog W 0 (fun _ => true) true Try.f3.params.toList args.toList ds p := hA0
  rw [Try.params3] at hA hval hsz
  obtain ⟨v0, vs0, d0, ds0, p0, q0, hargs, rfl, rfl, h0, r0⟩ := trodAll_cons hA
  obtain ⟨v1, vs1, d1, ds1, p1, q1, rfl, rfl, rfl, h1, r1⟩ := trodAll_cons r0
  obtain ⟨rfl, rfl, rfl⟩ := trodAll_nil r1
  obtain rfl : args = #[v0, v1] := by cases args; simp_all
  obtain ⟨rfl, rfl⟩ := trodVars_none hV
  have k0 := h0
  have lt0 : ∀ x ∈ p0, x.block < W.heap.size := by obtain ⟨m, hm⟩ := k0; exact DataW.trod_lt m _ _ _ hm
  have k1 := h1
  have lt1 : ∀ x ∈ p1, x.block < W.heap.size := by obtain ⟨m, hm⟩ := k1; exact DataW.trod_lt m _ _ _ hm
  obtain ⟨a0, len0, cap0, rfl⟩ := okWide_slice Try.underlying22 (hval 0 22 v0 rfl rfl)
  obtain ⟨z0, w0⟩ : ∃ B, IsBools W a0 len0 B := by
    obtain ⟨fuel, hf⟩ := h0
    exact open_bools_arg Try.underlying22 Try.underlying4 (by kernel_rfl) hf
  obtain ⟨a1, len1, cap1, rfl⟩ := okWide_slice Try.underlying23 (hval 1 23 v1 rfl rfl)
  obtain ⟨z1, w1, s1⟩ : ∃ zs, IsRow .u8 W a1 len1 cap1 zs ∧ cap1 * 1 ≤ 140737488351232 := by
    obtain ⟨fuel, hf⟩ := h1
    rcases open_ints Try.underlying23 Try.underlying5 (by kernel_rfl) hf with ⟨hcs, _⟩ | ⟨x, l, c, zs, hcs, _, hl, hm, hz, hx, hcell, hwz⟩
    · simp [Value.cells] at hcs
      obtain ⟨rfl, rfl, rfl⟩ := hcs
      exact ⟨[], .inl ⟨rfl, rfl, rfl, rfl⟩, by omega⟩
    · simp [Value.cells] at hcs
      obtain ⟨rfl, rfl, rfl⟩ := hcs
      have hz' : zs.length = cap1 := by simpa using hz
      have hd : d1 = .slice (lits .u8 (zs.take len1)) (lits .u8 (zs.drop len1)) := congrArg Prod.fst hx
      have hroom := sized_slice hsz (j := 1) (t := 23) (e := 5) rfl (by rw [hd]; rfl) Try.underlying23
      rw [show Try.prog.bytesOf 5 = 1 from by kernel_rfl] at hroom
      simp only [lits, List.length_map, List.length_take, List.length_drop, reachBytes] at hroom
      exact ⟨zs, .inr ⟨_, rfl, hl, hm, hz', hcell, hwz⟩, by omega⟩
  clear hA0 hval0 hsz0
  refine (walk a0 len0 cap0 z0 a1 len1 cap1 z1 W w0 w1 s1).mono fun e W' ⟨he, bel⟩ => ?_
  subst he
  exact ⟨_, rfl, _, _, _, [], _, [], hW', trodAll_mk1 (shut_bool Try.underlying4 _), (trodAll_cons_mk (Below.trod laidOut (by kernel_rfl) (of_decide_eq_true (by kernel_rfl)) k0 bel lt0) (trodAll_cons_mk (Below.trod laidOut (by kernel_rfl) (of_decide_eq_true (by kernel_rfl)) k1 bel lt1) trodAll_mk0)), rfl, bel.frame _, fun h => by cases h⟩

theorem over : Rows.sessionOnceRow.holds Try.pinned (OpenSpec.ofChange Rows.sessionOnceSpec) :=
  OpenClaim.holds_of_wide 3 Try.f3 rfl rfl rfl rfl rfl rfl rfl ⟨rfl, rfl, rfl, rfl, rfl⟩ rfl rfl rfl rfl rfl (by kernel_rfl) Try.func3 (by kernel_rfl)
    (of_decide_eq_true (by kernel_rfl)) (by unfold Func.isWrapper; first | (rw [if_pos (by decide +kernel)]; kernel_rfl) | (rw [if_neg (by decide +kernel)]; exact ⟨rfl, rfl⟩))
    (fun os started H enc _ => lifted os started H enc)

theorem proved : Rows.SessionOnceSaid := over
end Go.Proofs.Ytceiipcdkonnlaa.sessionOnce
