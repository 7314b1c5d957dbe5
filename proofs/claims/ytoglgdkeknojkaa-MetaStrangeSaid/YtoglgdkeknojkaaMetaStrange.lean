/-
  MetaStrange: FOR EVERY INPUT the law returns true and leaves its arguments as they were.
-/
import Derived.Test.YtoglgdkeknojkaaMj
import Derived.Test.YtoglgdkeknojkaaOpn
import Derived.Test.YtoglgdkeknojkaaWo
import Derived.Test.YtoglgdkeknojkaaRows
import Derived.WalkKit
import Derived.ProofKit
import Derived.OpenShut
import Derived.ShutString
import Derived.ChangeOld
import Derived.Below
import Derived.SizedLaws
import Derived.Lib.SmallJoins
namespace Go.Proofs.Ytoglgdkeknojkaa.metaStrange
open Go.ChangeShapes Go.WideShapes Go.ChangeAt Go.RowKit
open Go.ChangeMaps (open_string shut_string)
set_option linter.unusedVariables false

theorem own : ownKnob Try.prog.godebug = none := by kernel_rfl
theorem laidOut : laidOutB Try.prog = true := by kernel_rfl

set_option maxHeartbeats 8000000 in
set_option maxRecDepth 100000 in
theorem walk (x0 : Bool) (x1 : ByteArray) (x2 x3 : Int) (x4 x5 x6 x7 : ByteArray) (a1 : Option Addr) (len1 cap1 : Nat) (A : List Fd) (d : Int) (w : World)
    (sx1 : x1.size ≤ 140737488351232) (bx2 : 0 ≤ x2 ∧ x2 ≤ 18446744073709551615) (bx3 : 0 ≤ x3 ∧ x3 ≤ 18446744073709551615) (sx4 : x4.size ≤ 140737488351232) (sx5 : x5.size ≤ 140737488351232) (sx6 : x6.size ≤ 140737488351232) (sx7 : x7.size ≤ 140737488351232)
    (hs : FdsAt w (.slice a1 len1 cap1) A) (hok : ∀ f ∈ A, f.ok) (bd : 0 ≤ d ∧ d ≤ 255) :
    Calls Try.prog 6 #[.agg #[.bool x0, .string x1, .int .u64 x2, .int .u64 x3, .string x4, .string x5, .string x6, .string x7], .slice a1 len1 cap1, .int .u8 d] w (Yes w) := by
  obtain ⟨i0, hi, hz0, hz1, hz2⟩ := info_parts Try.info5
  replace hi := Lib.hid hi
  replace hz0 := Lib.hid hz0
  replace hz1 := Lib.hid hz1
  replace hz2 := Lib.hid hz2
  obtain ⟨j0, hj, hy0, hy1, hy2⟩ := info_parts Try.info41
  replace hj := Lib.hid hj
  replace hy0 := Lib.hid hy0
  replace hy1 := Lib.hid hy1
  replace hy2 := Lib.hid hy2
  obtain ⟨x2, rfl⟩ := Int.eq_ofNat_of_zero_le bx2.1
  obtain ⟨x3, rfl⟩ := Int.eq_ofNat_of_zero_le bx3.1
  obtain ⟨d, rfl⟩ := Int.eq_ofNat_of_zero_le bd.1
  have bd' : (d : Int) ≤ 255 := bd.2
  have hd : (d : Int) % 2 = 0 ∨ (d : Int) % 2 = 1 := by omega
  have okx : Me.ok ⟨x0, x1, x2, x3, x4, x5, x6, x7⟩ := ⟨sx1, by simp only; omega, by simp only; omega, sx4, sx5, sx6, sx7⟩
  clear sx1 bx2 bx3 sx4 sx5 sx6 sx7 bd
  obtain ⟨a1, c1, hv, hl1, hc⟩ := hs
  obtain ⟨rfl, rfl, rfl⟩ : _ = a1 ∧ len1 = A.length ∧ cap1 = c1 := by simpa using hv
  have hl1' : (A.length : Int) ≤ 9223372036854775807 := by omega
  have P1 := Lib.hid (fun w => mput_any ⟨x0, x1, x2, x3, x4, x5, x6, x7⟩ w okx)
  have BK := Lib.hid (back_M okx)
  replace okx := Lib.hid okx
  obtain ⟨E0, hE0⟩ : ∃ E, E = putsE (fieldsK ⟨x0, x1, x2, x3, x4, x5, x6, x7⟩ 8) := ⟨_, rfl⟩
  obtain ⟨L0, hx⟩ : ∃ L, L = putsL (fieldsK ⟨x0, x1, x2, x3, x4, x5, x6, x7⟩ 8) := ⟨_, rfl⟩
  rw [← hE0, ← hx] at P1 BK
  replace hE0 := Lib.hid hE0
  replace hx := Lib.hid hx
  simp only [Me.val, Me.cells] at P1
  have hA1 := Lib.hid (Blk.new w 24 #[.bool x0, .string x1, .int .u64 (x2 : Nat), .int .u64 (x3 : Nat), .string x4, .string x5, .string x6, .string x7])
  have hB := Lib.hid (ext_alloc w (.cells #[.bool x0, .string x1, .int .u64 (x2 : Nat), .int .u64 (x3 : Nat), .string x4, .string x5, .string x6, .string x7] 24))
  replace hc := Lib.hid hc
  replace hok := Lib.hid hok
  replace hd := Lib.hid hd
  clear hv
  go_enter Try.func6, Try.ntmps6
  go_wp2_with fail
  refine (P1.out _).mono ?_
  rintro e w1 ⟨v1, rfl, s1, b1⟩
  have hM1 := Lib.hid (Blk.ext hA1.out b1)
  have B1 := Lib.hid (ext_trans hB.out b1)
  replace s1 := Lib.hid s1
  obtain ⟨p1, q1, rfl, -⟩ := s1.out
  clear b1
  go_wp2_with fail
  go_loopw [9, 10] (fun l i wr => ∃ k : Nat, i = .int .i64 k ∧ k ≤ A.length ∧ k ≤ 20 ∧ wr.ownsRow w1.heap.size 41 4 l (farK A k).length (fcs (farK A k)) ∧ Below w1.heap.size w1 wr) (fun _ i _ => 20 - (intOf i).toNat)
  case atStart => exact ⟨0, rfl, by omega, by omega, World.ownsRow_nil _ _ _ _, Below.refl _ _⟩
  case round =>
    obtain ⟨k, rfl, hk, hk20, hown, hb1⟩ := hrel
    replace hb1 := Lib.hid hb1
    have zr : w1.heap.size ≤ wr.heap.size := hb1.out.size
    have ltw : w.heap.size ≤ w1.heap.size := B1.out.size
    have hfle : (farK A k).length ≤ 20 := Nat.le_trans (farK_le A k) hk20
    have hcase : (k < A.length ∧ k < 20) ∨ k = A.length ∨ (k < A.length ∧ k = 20) := by omega
    rcases hcase with ⟨ka, kb⟩ | hend
    · have ka' : (k : Int) < (A.length : Int) := by omega
      have kb' : (k : Int) < 20 := by omega
      obtain ⟨f, hfk⟩ : ∃ f, A[k]? = some f := ⟨_, List.getElem?_eq_getElem ka⟩
      obtain ⟨b, o, rfl, hbl, hcell⟩ : ∃ b o, a1 = some ⟨b, o, none⟩ ∧ b < w.heap.size ∧ w.rangeAt b (o + k * 4) f.cells := by
        rcases hc.out with h | ⟨b, o, ha, hb, hc⟩
        · subst h; simp at hfk
        · exact ⟨b, o, ha, hb, hc k f hfk⟩
      have hr := rangeAt_keep (rangeAt_keep hcell B1.out hbl) hb1.out (by omega)
      obtain ⟨q0, q1, q2, q3⟩ := rangeAt4 hr
      clear hr hcell
      obtain ⟨⟨n1, n2⟩, ⟨n3, n4⟩, n5, -⟩ := hok.out f (List.mem_of_getElem? hfk)
      have T8 := Lib.hid (farK_take hfk)
      have S8 := Lib.hid (farK_skip hfk)
      replace hfk := Lib.hid hfk
      obtain ⟨fn, fk, fv, ft⟩ := f
      simp only at q0 q1 q2 q3 n1 n2 n3 n4 n5
      by_cases h8 : 8 < fn
      · have hst := T8.out h8
        have hst2 : fcs (farK A (k + 1)) = fcs (farK A k) ++ [.int .i64 fn, .int .i64 fk, .int .u64 (fv : Nat), .string ft] := by rw [hst, fcs_snoc]; rfl
        have hst3 : (farK A (k + 1)).length = (farK A k).length + 1 := by rw [hst]; simp
        generalize farK A k = M at *
        replace hst := Lib.hid hst
        replace hst2 := Lib.hid hst2
        replace hst3 := Lib.hid hst3
        replace hown := Lib.hid hown
        have B2 := Lib.hid (hb1.out.alloc hb1.out.size (.cells #[.int .i64 fn, .int .i64 fk, .int .u64 (fv : Nat), .string ft] 41))
        go_wp2_with (at_builtin; (refine wpList_append_own_at _ rfl (.tmp 37) (.tmp 42) 39 rfl w1.heap.size 41 j0 _ 4 40 Try.underlying39 hj.out hy0.out hy1.out hy2.out rfl (by decide) _ M.length (fcs M) rfl (hown.out.alloc _) ⟨wr.heap.size, 0, none⟩ 1 1 [.int .i64 fn, .int .i64 fk, .int .u64 (fv : Nat), .string ft] rfl rfl (cell_four_new _ _ _ _ _ _ rfl) (by intro u hu; simp at hu; rcases hu with rfl | rfl | rfl | rfl <;> rfl) (by unfold maxLen; omega) (by omega) (by simp; omega) ?_); intro v3 w3 o3 gr3 n3 nb3; clear n3 nb3; have B3 := Lib.hid (B2.out.trans (mgrown (hown.out.alloc _) gr3 (by simp; omega))); clear gr3; replace o3 := Lib.hid o3)
        go_roundw
        case rel => exact ⟨k + 1, by simp, by omega, by omega, by rw [hst2.out, hst3.out]; exact o3.out, B3.out⟩
        case measure => simp [intOf]; omega
      · have hst := S8.out h8
        generalize farK A k = M at *
        replace hst := Lib.hid hst
        replace hown := Lib.hid hown
        go_wp2_with fail
        go_roundw
        case rel => exact ⟨k + 1, by simp, by omega, by omega, by rw [hst.out]; exact hown.out, hb1.out⟩
        case measure => simp [intOf]; omega
    have hfok : ∀ f ∈ farK A k, f.ok := fun f hf => hok.out f (farK_in hf).1
    have hf8 : ∀ f ∈ farK A k, 8 < f.num := fun f hf => (farK_in hf).2
    rcases hend with rfl | ⟨ka, rfl⟩
    · clear hk hk20
      have hF := FdsAt.of_own hown (by omega)
      have Q := Lib.hid ((puts3 _ (farK A A.length) wr hF hfok).2)
      have FM := Lib.hid (fun h1 h2 h3 => far_M okx.out hfok hf8 hfle h1 h2 h3)
      have FO := Lib.hid (of_join (farK A A.length) hfok)
      have ZF := Lib.hid (puts_none (farK A A.length))
      obtain ⟨fa, fc, rfl⟩ := own_slice hown
      clear hown hF hfok hf8
      generalize farK A A.length = F at *
      rw [← hE0.out, ← hx.out] at FM
      generalize putsE F = EF at *
      generalize putsL F = LF at *
      replace hfle := Lib.hid hfle
      go_wp2_with fail
      refine Q.out.mono ?_
      rintro e w3 ⟨v3, rfl, s3, b3⟩
      have t1 := Lib.hid (s1.out.keep (ext_trans hb1.out b3) (Nat.le_refl _))
      replace s3 := Lib.hid s3
      obtain ⟨p3, q3, rfl, -⟩ := s3.out
      have hM3 := Lib.hid (Blk.ext hM1.out (ext_trans hb1.out b3))
      have B3 := Lib.hid (ext_trans B1.out (ext_trans hb1.out b3))
      clear b3
      by_cases hg : E0 = 0 ∧ EF = 0 ∧ L0.length + LF.length ≤ 4096
      · obtain ⟨rfl, rfl, h4⟩ := hg
        obtain ⟨m1, m2⟩ := FM.out rfl rfl h4
        obtain ⟨-, k2, k3⟩ := BK.out rfl
        obtain ⟨-, l2, l3⟩ := FO.out rfl
        have h4' : (L0.length : Int) + LF.length ≤ 4096 := by omega
        have hl1 : ∀ x ∈ LF ++ L0, x < 256 := fun x hx => (List.mem_append.1 hx).elim (l3 x) (k3 x)
        have hl2 : ∀ x ∈ L0 ++ LF, x < 256 := fun x hx => (List.mem_append.1 hx).elim (k3 x) (l3 x)
        replace hl1 := Lib.hid hl1
        replace hl2 := Lib.hid hl2
        replace m1 := Lib.hid m1
        replace m2 := Lib.hid m2
        have m1l : (L0 ++ LF).length ≤ 140737488355328 := by rw [List.length_append]; omega
        have m2l : (LF ++ L0).length ≤ 140737488355328 := by rw [List.length_append]; omega
        replace m1l := Lib.hid m1l
        replace m2l := Lib.hid m2l
        clear k3 l3 BK FO FM ZF
        have k2' : (L0.length : Int) ≤ 4096 := by omega
        have l2' : (LF.length : Int) ≤ 4096 := by omega
        rcases hd.out with he | he
        · have hq7 : ([] : List Nat).length + L0.length ≤ 140737488355328 := by simp; omega
          have hq8 : L0.length + LF.length ≤ 140737488355328 := by omega
          have own0 : (w3.alloc (.cells #[] 5)).ownsRow w3.heap.size 5 1 (.slice (some ⟨w3.heap.size, 0, none⟩) 0 0) ([] : List Nat).length (bl []) := World.ownsRow_lit w3 #[] 0 (Nat.le_refl _) (by unfold maxLen; omega) rfl
          have hA := ((s3.out).keep (ext_alloc w3 (.cells #[] 5)) (Nat.le_refl _)).bytes
          have hC := Lib.hid ((t1.out).bytes)
          have hq : ([] : List Nat).length + LF.length ≤ 140737488355328 := by simp; omega
          have hq2 : LF.length + L0.length ≤ 140737488355328 := by omega
          have z4 : w3.heap.size ≤ (w3.alloc (.cells #[] 5)).heap.size := by simp
          have G0 := Lib.hid (ext_alloc w3 (.cells #[] 5))
          go_wp2_with (first
            | (at_builtin; (refine wpList_append_bytes _ rfl (.tmp 64) (.tmp 65) 25 rfl w3.heap.size 5 i0 Try.underlying25 hi.out hz0.out hz1.out hz2.out _ [] LF rfl own0 hA hq z4 ?_); intro v5 w5 o5 g5 n5; clear n5; rw [List.nil_append] at o5; have g6 := grown_ext own0 g5 z4; have G5 := Lib.hid (G0.out.trans g6); have hC5 := hC.out.keep G5.out (Nat.le_refl _); have z5 : w3.heap.size ≤ w5.heap.size := G5.out.size; clear own0 hA g5 g6)
            | (at_builtin; (refine wpList_append_bytes _ rfl (.tmp 66) (.tmp 67) 25 rfl w3.heap.size 5 i0 Try.underlying25 hi.out hz0.out hz1.out hz2.out v5 LF L0 rfl o5 hC5 hq2 z5 ?_); intro v6 w6 o6 g6 n6; clear n6; have G6 := Lib.hid (G5.out.trans (grown_ext o5 g6 z5)); have u1 := Lib.hid (t1.out.keep G6.out (Nat.le_refl _)); have u3 := Lib.hid (s3.out.keep G6.out (Nat.le_refl _)); have own7 : (w6.alloc (.cells #[] 5)).ownsRow w6.heap.size 5 1 (.slice (some ⟨w6.heap.size, 0, none⟩) 0 0) ([] : List Nat).length (bl []) := World.ownsRow_lit w6 #[] 0 (Nat.le_refl _) (by unfold maxLen; omega) rfl; have hA7 := ((u1.out).keep (ext_alloc w6 (.cells #[] 5)) (Nat.le_refl _)).bytes; have hC7 := Lib.hid ((u3.out).bytes); have z7 : w6.heap.size ≤ (w6.alloc (.cells #[] 5)).heap.size := (by simp); have H0 := Lib.hid (ext_alloc w6 (.cells #[] 5)); clear o5 o6 hC5 g6)
            | (at_builtin; (refine wpList_append_bytes _ rfl (.tmp 72) (.tmp 73) 25 rfl w6.heap.size 5 i0 Try.underlying25 hi.out hz0.out hz1.out hz2.out _ [] L0 rfl own7 hA7 hq7 z7 ?_); intro v7 w7 o7 g7 n7; clear n7; rw [List.nil_append] at o7; have g8 := grown_ext own7 g7 z7; have H7 := Lib.hid (H0.out.trans g8); have hC8 := hC7.out.keep H7.out (Nat.le_refl _); have z8 : w6.heap.size ≤ w7.heap.size := H7.out.size; clear own7 hA7 g7 g8)
            | (at_builtin; (refine wpList_append_bytes _ rfl (.tmp 74) (.tmp 75) 25 rfl w6.heap.size 5 i0 Try.underlying25 hi.out hz0.out hz1.out hz2.out v7 L0 LF rfl o7 hC8 hq8 z8 ?_); intro v8 w8 o8 g8 n8; clear n8; have H8 := Lib.hid (H7.out.trans (grown_ext o7 g8 z8)); clear o7 hC8 g8))
          have FB := Lib.hid (G6.out.trans (H8.out.mono G6.out.size))
          refine (mof12_any _ _ _ (Src.of_own o8) hl2.out m1l.out).mono ?_
          rw [m1.out]
          rintro e w9 ⟨rfl, b9⟩
          clear o8
          have F9 := Lib.hid (FB.out.trans (b9.mono FB.out.size))
          clear b9
          have hM9 := Blk.ext hM3.out F9.out
          obtain ⟨c0, c1, c2, c3, c4, c5, c6, c7⟩ := box8b hM9
          have ltM : w.heap.size < w9.heap.size := Blk.lt hM9
          clear hM9
          simp only [Me.val, Me.cells]
          go_wp2_with fail
          refine (mawake_any _).mono ?_
          rintro e wz ⟨rfl, bz⟩
          go_wp2_with fail
          go_ret
          exact ⟨rfl, ext_trans ((ext_trans B3.out F9.out).alloc (by have := B3.out.size; have := F9.out.size; omega) _) bz⟩
        · have own0 : (w3.alloc (.cells #[] 5)).ownsRow w3.heap.size 5 1 (.slice (some ⟨w3.heap.size, 0, none⟩) 0 0) ([] : List Nat).length (bl []) := World.ownsRow_lit w3 #[] 0 (Nat.le_refl _) (by unfold maxLen; omega) rfl
          have hA := ((s3.out).keep (ext_alloc w3 (.cells #[] 5)) (Nat.le_refl _)).bytes
          have hC := Lib.hid ((t1.out).bytes)
          have hq : ([] : List Nat).length + LF.length ≤ 140737488355328 := by simp; omega
          have hq2 : LF.length + L0.length ≤ 140737488355328 := by omega
          have z4 : w3.heap.size ≤ (w3.alloc (.cells #[] 5)).heap.size := by simp
          have G0 := Lib.hid (ext_alloc w3 (.cells #[] 5))
          go_wp2_with (first
            | (at_builtin; (refine wpList_append_bytes _ rfl (.tmp 64) (.tmp 65) 25 rfl w3.heap.size 5 i0 Try.underlying25 hi.out hz0.out hz1.out hz2.out _ [] LF rfl own0 hA hq z4 ?_); intro v5 w5 o5 g5 n5; clear n5; rw [List.nil_append] at o5; have g6 := grown_ext own0 g5 z4; have G5 := Lib.hid (G0.out.trans g6); have hC5 := hC.out.keep G5.out (Nat.le_refl _); have z5 : w3.heap.size ≤ w5.heap.size := G5.out.size; clear own0 hA g5 g6)
            | (at_builtin; (refine wpList_append_bytes _ rfl (.tmp 66) (.tmp 67) 25 rfl w3.heap.size 5 i0 Try.underlying25 hi.out hz0.out hz1.out hz2.out v5 LF L0 rfl o5 hC5 hq2 z5 ?_); intro v6 w6 o6 g6 n6; clear n6; have G6 := Lib.hid (G5.out.trans (grown_ext o5 g6 z5)); clear o5 hC5 g6))
          have FB := Lib.hid (Below.refl w3.heap.size w3)
          refine (mof12_any _ _ _ (Src.of_own o6) hl1.out m2l.out).mono ?_
          rw [m2.out]
          rintro e w9 ⟨rfl, b9⟩
          clear o6
          have F9 := Lib.hid (FB.out.trans ((G6.out.trans (b9.mono G6.out.size)).mono FB.out.size))
          clear b9
          have hM9 := Blk.ext hM3.out F9.out
          obtain ⟨c0, c1, c2, c3, c4, c5, c6, c7⟩ := box8b hM9
          have ltM : w.heap.size < w9.heap.size := Blk.lt hM9
          clear hM9
          simp only [Me.val, Me.cells]
          go_wp2_with fail
          refine (mawake_any _).mono ?_
          rintro e wz ⟨rfl, bz⟩
          go_wp2_with fail
          go_ret
          exact ⟨rfl, ext_trans ((ext_trans B3.out F9.out).alloc (by have := B3.out.size; have := F9.out.size; omega) _) bz⟩
      · have hbad : (E0 ≠ 0) ∨ (E0 = 0 ∧ EF ≠ 0) ∨ (E0 = 0 ∧ EF = 0 ∧ 4096 < L0.length + LF.length) := by omega
        replace hg := Lib.hid hg
        rcases hbad with h | ⟨rfl, h⟩ | ⟨rfl, rfl, h⟩
        · have n1 : ((E0 : Int) != 0) = true := by simpa using h
          replace h := Lib.hid h
          go_wp2_with fail
          refine (mawake_any _).mono ?_
          rintro e wz ⟨rfl, bz⟩
          go_wp2_with fail
          go_ret
          exact ⟨rfl, ext_trans B3.out bz⟩
        · have n1 : ((EF : Int) != 0) = true := by simpa using h
          replace h := Lib.hid h
          go_wp2_with fail
          refine (mawake_any _).mono ?_
          rintro e wz ⟨rfl, bz⟩
          go_wp2_with fail
          go_ret
          exact ⟨rfl, ext_trans B3.out bz⟩
        · have n1 : (4096 : Int) < (L0.length : Int) + LF.length := by omega
          have k2 := (BK.out rfl).2.1
          have l2 := (FO.out rfl).2.1
          have k2' : (L0.length : Int) ≤ 4096 := by omega
          have l2' : (LF.length : Int) ≤ 4096 := by omega
          replace h := Lib.hid h
          go_wp2_with fail
          refine (mawake_any _).mono ?_
          rintro e wz ⟨rfl, bz⟩
          go_wp2_with fail
          go_ret
          exact ⟨rfl, ext_trans B3.out bz⟩
    · have ka' : ((20 : Nat) : Int) < (A.length : Int) := by omega
      clear hk hk20
      have hF := FdsAt.of_own hown (by omega)
      have Q := Lib.hid ((puts3 _ (farK A 20) wr hF hfok).2)
      have FM := Lib.hid (fun h1 h2 h3 => far_M okx.out hfok hf8 hfle h1 h2 h3)
      have FO := Lib.hid (of_join (farK A 20) hfok)
      have ZF := Lib.hid (puts_none (farK A 20))
      obtain ⟨fa, fc, rfl⟩ := own_slice hown
      clear hown hF hfok hf8
      generalize farK A 20 = F at *
      rw [← hE0.out, ← hx.out] at FM
      generalize putsE F = EF at *
      generalize putsL F = LF at *
      replace hfle := Lib.hid hfle
      go_wp2_with fail
      refine Q.out.mono ?_
      rintro e w3 ⟨v3, rfl, s3, b3⟩
      have t1 := Lib.hid (s1.out.keep (ext_trans hb1.out b3) (Nat.le_refl _))
      replace s3 := Lib.hid s3
      obtain ⟨p3, q3, rfl, -⟩ := s3.out
      have hM3 := Lib.hid (Blk.ext hM1.out (ext_trans hb1.out b3))
      have B3 := Lib.hid (ext_trans B1.out (ext_trans hb1.out b3))
      clear b3
      by_cases hg : E0 = 0 ∧ EF = 0 ∧ L0.length + LF.length ≤ 4096
      · obtain ⟨rfl, rfl, h4⟩ := hg
        obtain ⟨m1, m2⟩ := FM.out rfl rfl h4
        obtain ⟨-, k2, k3⟩ := BK.out rfl
        obtain ⟨-, l2, l3⟩ := FO.out rfl
        have h4' : (L0.length : Int) + LF.length ≤ 4096 := by omega
        have hl1 : ∀ x ∈ LF ++ L0, x < 256 := fun x hx => (List.mem_append.1 hx).elim (l3 x) (k3 x)
        have hl2 : ∀ x ∈ L0 ++ LF, x < 256 := fun x hx => (List.mem_append.1 hx).elim (k3 x) (l3 x)
        replace hl1 := Lib.hid hl1
        replace hl2 := Lib.hid hl2
        replace m1 := Lib.hid m1
        replace m2 := Lib.hid m2
        have m1l : (L0 ++ LF).length ≤ 140737488355328 := by rw [List.length_append]; omega
        have m2l : (LF ++ L0).length ≤ 140737488355328 := by rw [List.length_append]; omega
        replace m1l := Lib.hid m1l
        replace m2l := Lib.hid m2l
        clear k3 l3 BK FO FM ZF
        have k2' : (L0.length : Int) ≤ 4096 := by omega
        have l2' : (LF.length : Int) ≤ 4096 := by omega
        rcases hd.out with he | he
        · have hq7 : ([] : List Nat).length + L0.length ≤ 140737488355328 := by simp; omega
          have hq8 : L0.length + LF.length ≤ 140737488355328 := by omega
          have own0 : (w3.alloc (.cells #[] 5)).ownsRow w3.heap.size 5 1 (.slice (some ⟨w3.heap.size, 0, none⟩) 0 0) ([] : List Nat).length (bl []) := World.ownsRow_lit w3 #[] 0 (Nat.le_refl _) (by unfold maxLen; omega) rfl
          have hA := ((s3.out).keep (ext_alloc w3 (.cells #[] 5)) (Nat.le_refl _)).bytes
          have hC := Lib.hid ((t1.out).bytes)
          have hq : ([] : List Nat).length + LF.length ≤ 140737488355328 := by simp; omega
          have hq2 : LF.length + L0.length ≤ 140737488355328 := by omega
          have z4 : w3.heap.size ≤ (w3.alloc (.cells #[] 5)).heap.size := by simp
          have G0 := Lib.hid (ext_alloc w3 (.cells #[] 5))
          go_wp2_with (first
            | (at_builtin; (refine wpList_append_bytes _ rfl (.tmp 64) (.tmp 65) 25 rfl w3.heap.size 5 i0 Try.underlying25 hi.out hz0.out hz1.out hz2.out _ [] LF rfl own0 hA hq z4 ?_); intro v5 w5 o5 g5 n5; clear n5; rw [List.nil_append] at o5; have g6 := grown_ext own0 g5 z4; have G5 := Lib.hid (G0.out.trans g6); have hC5 := hC.out.keep G5.out (Nat.le_refl _); have z5 : w3.heap.size ≤ w5.heap.size := G5.out.size; clear own0 hA g5 g6)
            | (at_builtin; (refine wpList_append_bytes _ rfl (.tmp 66) (.tmp 67) 25 rfl w3.heap.size 5 i0 Try.underlying25 hi.out hz0.out hz1.out hz2.out v5 LF L0 rfl o5 hC5 hq2 z5 ?_); intro v6 w6 o6 g6 n6; clear n6; have G6 := Lib.hid (G5.out.trans (grown_ext o5 g6 z5)); have u1 := Lib.hid (t1.out.keep G6.out (Nat.le_refl _)); have u3 := Lib.hid (s3.out.keep G6.out (Nat.le_refl _)); have own7 : (w6.alloc (.cells #[] 5)).ownsRow w6.heap.size 5 1 (.slice (some ⟨w6.heap.size, 0, none⟩) 0 0) ([] : List Nat).length (bl []) := World.ownsRow_lit w6 #[] 0 (Nat.le_refl _) (by unfold maxLen; omega) rfl; have hA7 := ((u1.out).keep (ext_alloc w6 (.cells #[] 5)) (Nat.le_refl _)).bytes; have hC7 := Lib.hid ((u3.out).bytes); have z7 : w6.heap.size ≤ (w6.alloc (.cells #[] 5)).heap.size := (by simp); have H0 := Lib.hid (ext_alloc w6 (.cells #[] 5)); clear o5 o6 hC5 g6)
            | (at_builtin; (refine wpList_append_bytes _ rfl (.tmp 72) (.tmp 73) 25 rfl w6.heap.size 5 i0 Try.underlying25 hi.out hz0.out hz1.out hz2.out _ [] L0 rfl own7 hA7 hq7 z7 ?_); intro v7 w7 o7 g7 n7; clear n7; rw [List.nil_append] at o7; have g8 := grown_ext own7 g7 z7; have H7 := Lib.hid (H0.out.trans g8); have hC8 := hC7.out.keep H7.out (Nat.le_refl _); have z8 : w6.heap.size ≤ w7.heap.size := H7.out.size; clear own7 hA7 g7 g8)
            | (at_builtin; (refine wpList_append_bytes _ rfl (.tmp 74) (.tmp 75) 25 rfl w6.heap.size 5 i0 Try.underlying25 hi.out hz0.out hz1.out hz2.out v7 L0 LF rfl o7 hC8 hq8 z8 ?_); intro v8 w8 o8 g8 n8; clear n8; have H8 := Lib.hid (H7.out.trans (grown_ext o7 g8 z8)); clear o7 hC8 g8))
          have FB := Lib.hid (G6.out.trans (H8.out.mono G6.out.size))
          refine (mof12_any _ _ _ (Src.of_own o8) hl2.out m1l.out).mono ?_
          rw [m1.out]
          rintro e w9 ⟨rfl, b9⟩
          clear o8
          have F9 := Lib.hid (FB.out.trans (b9.mono FB.out.size))
          clear b9
          have hM9 := Blk.ext hM3.out F9.out
          obtain ⟨c0, c1, c2, c3, c4, c5, c6, c7⟩ := box8b hM9
          have ltM : w.heap.size < w9.heap.size := Blk.lt hM9
          clear hM9
          simp only [Me.val, Me.cells]
          go_wp2_with fail
          refine (mawake_any _).mono ?_
          rintro e wz ⟨rfl, bz⟩
          go_wp2_with fail
          go_ret
          exact ⟨rfl, ext_trans ((ext_trans B3.out F9.out).alloc (by have := B3.out.size; have := F9.out.size; omega) _) bz⟩
        · have own0 : (w3.alloc (.cells #[] 5)).ownsRow w3.heap.size 5 1 (.slice (some ⟨w3.heap.size, 0, none⟩) 0 0) ([] : List Nat).length (bl []) := World.ownsRow_lit w3 #[] 0 (Nat.le_refl _) (by unfold maxLen; omega) rfl
          have hA := ((s3.out).keep (ext_alloc w3 (.cells #[] 5)) (Nat.le_refl _)).bytes
          have hC := Lib.hid ((t1.out).bytes)
          have hq : ([] : List Nat).length + LF.length ≤ 140737488355328 := by simp; omega
          have hq2 : LF.length + L0.length ≤ 140737488355328 := by omega
          have z4 : w3.heap.size ≤ (w3.alloc (.cells #[] 5)).heap.size := by simp
          have G0 := Lib.hid (ext_alloc w3 (.cells #[] 5))
          go_wp2_with (first
            | (at_builtin; (refine wpList_append_bytes _ rfl (.tmp 64) (.tmp 65) 25 rfl w3.heap.size 5 i0 Try.underlying25 hi.out hz0.out hz1.out hz2.out _ [] LF rfl own0 hA hq z4 ?_); intro v5 w5 o5 g5 n5; clear n5; rw [List.nil_append] at o5; have g6 := grown_ext own0 g5 z4; have G5 := Lib.hid (G0.out.trans g6); have hC5 := hC.out.keep G5.out (Nat.le_refl _); have z5 : w3.heap.size ≤ w5.heap.size := G5.out.size; clear own0 hA g5 g6)
            | (at_builtin; (refine wpList_append_bytes _ rfl (.tmp 66) (.tmp 67) 25 rfl w3.heap.size 5 i0 Try.underlying25 hi.out hz0.out hz1.out hz2.out v5 LF L0 rfl o5 hC5 hq2 z5 ?_); intro v6 w6 o6 g6 n6; clear n6; have G6 := Lib.hid (G5.out.trans (grown_ext o5 g6 z5)); clear o5 hC5 g6))
          have FB := Lib.hid (Below.refl w3.heap.size w3)
          refine (mof12_any _ _ _ (Src.of_own o6) hl1.out m2l.out).mono ?_
          rw [m2.out]
          rintro e w9 ⟨rfl, b9⟩
          clear o6
          have F9 := Lib.hid (FB.out.trans ((G6.out.trans (b9.mono G6.out.size)).mono FB.out.size))
          clear b9
          have hM9 := Blk.ext hM3.out F9.out
          obtain ⟨c0, c1, c2, c3, c4, c5, c6, c7⟩ := box8b hM9
          have ltM : w.heap.size < w9.heap.size := Blk.lt hM9
          clear hM9
          simp only [Me.val, Me.cells]
          go_wp2_with fail
          refine (mawake_any _).mono ?_
          rintro e wz ⟨rfl, bz⟩
          go_wp2_with fail
          go_ret
          exact ⟨rfl, ext_trans ((ext_trans B3.out F9.out).alloc (by have := B3.out.size; have := F9.out.size; omega) _) bz⟩
      · have hbad : (E0 ≠ 0) ∨ (E0 = 0 ∧ EF ≠ 0) ∨ (E0 = 0 ∧ EF = 0 ∧ 4096 < L0.length + LF.length) := by omega
        replace hg := Lib.hid hg
        rcases hbad with h | ⟨rfl, h⟩ | ⟨rfl, rfl, h⟩
        · have n1 : ((E0 : Int) != 0) = true := by simpa using h
          replace h := Lib.hid h
          go_wp2_with fail
          refine (mawake_any _).mono ?_
          rintro e wz ⟨rfl, bz⟩
          go_wp2_with fail
          go_ret
          exact ⟨rfl, ext_trans B3.out bz⟩
        · have n1 : ((EF : Int) != 0) = true := by simpa using h
          replace h := Lib.hid h
          go_wp2_with fail
          refine (mawake_any _).mono ?_
          rintro e wz ⟨rfl, bz⟩
          go_wp2_with fail
          go_ret
          exact ⟨rfl, ext_trans B3.out bz⟩
        · have n1 : (4096 : Int) < (L0.length : Int) + LF.length := by omega
          have k2 := (BK.out rfl).2.1
          have l2 := (FO.out rfl).2.1
          have k2' : (L0.length : Int) ≤ 4096 := by omega
          have l2' : (LF.length : Int) ≤ 4096 := by omega
          replace h := Lib.hid h
          go_wp2_with fail
          refine (mawake_any _).mono ?_
          rintro e wz ⟨rfl, bz⟩
          go_wp2_with fail
          go_ret
          exact ⟨rfl, ext_trans B3.out bz⟩

set_option maxRecDepth 100000 in
theorem lifted (os : Os) (started : os.Started) (H : Type) (enc : TypeId × Value → H) :
    ReturnsInHanded {} Try.checked os 6 .any (Rows.metaStrangeSpec.pre6 enc Try.prog Try.f6 Rows.metaStrangeRow.domain false) (Rows.metaStrangeSpec.post enc Try.prog Try.f6 false true false false) := by
  refine returnsInHanded_of_change_sized (C := Try.checked) own started (by kernel_rfl) Try.func6
    (ChangeSpec.witness6 (enc := enc) (C := Try.checked) false ⟨#[], #[.agg #[.bool false, .string ByteArray.empty, .int .u64 0, .int .u64 0, .string ByteArray.empty, .string ByteArray.empty, .string ByteArray.empty, .string ByteArray.empty], .slice none 0 0, .int .u8 0], []⟩ 8 (by kernel_rfl) (by kernel_rfl) (by kernel_rfl) (by kernel_rfl)) ?_
  intro W base args ds gs before hval0 hW hcnd hsz0 _
  have hsz : (DataW.weightsEach Try.prog (Try.f6.params.toList ++ Rows.metaStrangeSpec.plain.varTypes Try.prog) (ds ++ gs)).all (· ≤ reachBytes) = true := hsz0
  have hval : ∀ (j : Nat) t v, Try.f6.params[j]? = some t → args[j]? = some v → Value.okWide Try.prog W .any base t v := hval0
  have hW' := hW
  obtain ⟨p, q, hA0, hV, rfl, hfz, hnd⟩ := hW
  have hA : DataW.TrodAll enc Try.prog W 0 (fun _ => true) true Try.f6.params.toList args.toList ds p := hA0
  rw [Try.params6] at hA hval hsz
  obtain ⟨v0, vs0, d0, ds0, p0, q0, hargs, rfl, rfl, h0, r0⟩ := trodAll_cons hA
  obtain ⟨v1, vs1, d1, ds1, p1, q1, rfl, rfl, rfl, h1, r1⟩ := trodAll_cons r0
  obtain ⟨v2, vs2, d2, ds2, p2, q2, rfl, rfl, rfl, h2, r2⟩ := trodAll_cons r1
  obtain ⟨rfl, rfl, rfl⟩ := trodAll_nil r2
  obtain rfl : args = #[v0, v1, v2] := by cases args; simp_all
  obtain ⟨rfl, rfl⟩ := trodVars_none hV
  have k0 := h0
  have lt0 : ∀ x ∈ p0, x.block < W.heap.size := by obtain ⟨m, hm⟩ := k0; exact DataW.trod_lt m _ _ _ hm
  have k1 := h1
  have lt1 : ∀ x ∈ p1, x.block < W.heap.size := by obtain ⟨m, hm⟩ := k1; exact DataW.trod_lt m _ _ _ hm
  have k2 := h2
  have lt2 : ∀ x ∈ p2, x.block < W.heap.size := by obtain ⟨m, hm⟩ := k2; exact DataW.trod_lt m _ _ _ hm
  obtain ⟨cs0, rfl, sz0⟩ := okWide_struct Try.underlying24 (hval 0 24 _ rfl rfl)
  obtain ⟨fu0, hf0⟩ := h0
  obtain ⟨a0_0, a0_1, a0_2, a0_3, a0_4, a0_5, a0_6, a0_7, q0, z0, wa0_2, wa0_3⟩ := open_t24 hf0
  obtain rfl : cs0 = #[.bool a0_0, .string a0_1, .int .u64 a0_2, .int .u64 a0_3, .string a0_4, .string a0_5, .string a0_6, .string a0_7] := by
    have := congrArg List.toArray q0
    simpa [Value.cells] using this
  obtain ⟨rfl, rfl⟩ := Prod.mk.inj z0
  have sa0_1 : a0_1.size ≤ 140737488351232 := by
    have hm := List.all_eq_true.1 hsz a0_1.data.toList.length (DataW.weights_mem_each (j := 0) (t := 24) rfl rfl _ (by simp [DataW.weights, DataW.weightsEach, Try.underlying3, Try.underlying4, Try.underlying9, Try.underlying22, Try.underlying24]))
    simp only [Array.length_toList, reachBytes] at hm
    exact of_decide_eq_true hm
  have ba0_2 := wf_u64 wa0_2
  have ba0_3 := wf_u64 wa0_3
  have sa0_4 : a0_4.size ≤ 140737488351232 := by
    have hm := List.all_eq_true.1 hsz a0_4.data.toList.length (DataW.weights_mem_each (j := 0) (t := 24) rfl rfl _ (by simp [DataW.weights, DataW.weightsEach, Try.underlying3, Try.underlying4, Try.underlying9, Try.underlying22, Try.underlying24]))
    simp only [Array.length_toList, reachBytes] at hm
    exact of_decide_eq_true hm
  have sa0_5 : a0_5.size ≤ 140737488351232 := by
    have hm := List.all_eq_true.1 hsz a0_5.data.toList.length (DataW.weights_mem_each (j := 0) (t := 24) rfl rfl _ (by simp [DataW.weights, DataW.weightsEach, Try.underlying3, Try.underlying4, Try.underlying9, Try.underlying22, Try.underlying24]))
    simp only [Array.length_toList, reachBytes] at hm
    exact of_decide_eq_true hm
  have sa0_6 : a0_6.size ≤ 140737488351232 := by
    have hm := List.all_eq_true.1 hsz a0_6.data.toList.length (DataW.weights_mem_each (j := 0) (t := 24) rfl rfl _ (by simp [DataW.weights, DataW.weightsEach, Try.underlying3, Try.underlying4, Try.underlying9, Try.underlying22, Try.underlying24]))
    simp only [Array.length_toList, reachBytes] at hm
    exact of_decide_eq_true hm
  have sa0_7 : a0_7.size ≤ 140737488351232 := by
    have hm := List.all_eq_true.1 hsz a0_7.data.toList.length (DataW.weights_mem_each (j := 0) (t := 24) rfl rfl _ (by simp [DataW.weights, DataW.weightsEach, Try.underlying3, Try.underlying4, Try.underlying9, Try.underlying22, Try.underlying24]))
    simp only [Array.length_toList, reachBytes] at hm
    exact of_decide_eq_true hm
  obtain ⟨a1, len1, cap1, rfl⟩ := okWide_slice Try.underlying39 (hval 1 39 v1 rfl rfl)
  obtain ⟨z1, w1, s1⟩ : ∃ l : List Fd, FdsAt W (.slice a1 len1 cap1) l ∧ ∀ f ∈ l, f.ok := by
    obtain ⟨fuel, hf⟩ := h1
    exact open_fds hf (fun n hn => by
      have hm := List.all_eq_true.1 hsz n (DataW.weights_mem_each (j := 1) (t := 39) rfl rfl _ hn)
      simpa [reachBytes] using of_decide_eq_true hm)
  obtain ⟨a2, rfl, rfl, rfl, w2⟩ := open_int Try.underlying5 (hval 2 5 v2 rfl rfl) h2
  have b2 := wf_u8 w2
  clear hA0 hval0 hsz0
  refine (walk a0_0 a0_1 a0_2 a0_3 a0_4 a0_5 a0_6 a0_7 a1 len1 cap1 z1 a2 W sa0_1 ba0_2 ba0_3 sa0_4 sa0_5 sa0_6 sa0_7 w1 s1 b2).mono fun e W' ⟨he, bel⟩ => ?_
  subst he
  exact ⟨_, rfl, _, _, _, [], _, [], hW', trodAll_mk1 (shut_bool Try.underlying4 _), (trodAll_cons_mk (Below.trod laidOut (by kernel_rfl) (of_decide_eq_true (by kernel_rfl)) k0 bel lt0) (trodAll_cons_mk (Below.trod laidOut (by kernel_rfl) (of_decide_eq_true (by kernel_rfl)) k1 bel lt1) (trodAll_cons_mk (Below.trod laidOut (by kernel_rfl) (of_decide_eq_true (by kernel_rfl)) k2 bel lt2) trodAll_mk0))), rfl, bel.frame _, fun h => by cases h⟩

theorem over : Rows.metaStrangeRow.holds Try.pinned (OpenSpec.ofChange Rows.metaStrangeSpec) :=
  OpenClaim.holds_of_wide 6 Try.f6 rfl rfl rfl rfl rfl rfl rfl ⟨rfl, rfl, rfl, rfl, rfl⟩ rfl rfl rfl rfl rfl (by kernel_rfl) Try.func6 (by kernel_rfl)
    (of_decide_eq_true (by kernel_rfl)) (by unfold Func.isWrapper; first | (rw [if_pos (by decide +kernel)]; kernel_rfl) | (rw [if_neg (by decide +kernel)]; exact ⟨rfl, rfl⟩))
    (fun os started H enc _ => lifted os started H enc)

theorem proved : Rows.MetaStrangeSaid := over
end Go.Proofs.Ytoglgdkeknojkaa.metaStrange
