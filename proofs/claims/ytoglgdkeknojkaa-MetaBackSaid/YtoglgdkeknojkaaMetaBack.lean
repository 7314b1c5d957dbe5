/-
  MetaBack: FOR EVERY INPUT the law returns true and leaves its arguments as they were.
-/
import Derived.Test.YtoglgdkeknojkaaMj
import Derived.Test.YtoglgdkeknojkaaOpn
import Derived.Test.YtoglgdkeknojkaaRows
import Derived.WalkKit
import Derived.Deep.RegionHeld3
import Derived.ProofKit
import Derived.OpenShut
import Derived.ShutString
import Derived.ChangeOld
import Derived.Below
import Derived.SizedLaws
import Derived.Lib.SmallJoins
namespace Go.Proofs.Ytoglgdkeknojkaa.metaBack
open Go.ChangeShapes Go.WideShapes Go.ChangeAt Go.RowKit
open Go.ChangeMaps (open_string shut_string)
set_option linter.unusedVariables false

theorem own : ownKnob Try.prog.godebug = none := by kernel_rfl
theorem laidOut : laidOutB Try.prog = true := by kernel_rfl

theorem keep3 {w2 W W' : World} {g1 g2 g3 : Nat} {a0 a1 a2 a3 a4 a5 a6 a7 b0 b1 b2 b3 b4 b5 b6 b7 c0 c1 c2 c3 c4 c5 c6 c7 : Value} (h : W.cell? ⟨g1, 0, none⟩ = some a0 ∧ W.cell? ⟨g1, 1, none⟩ = some a1 ∧ W.cell? ⟨g1, 2, none⟩ = some a2 ∧ W.cell? ⟨g1, 3, none⟩ = some a3 ∧ W.cell? ⟨g1, 4, none⟩ = some a4 ∧ W.cell? ⟨g1, 5, none⟩ = some a5 ∧ W.cell? ⟨g1, 6, none⟩ = some a6 ∧ W.cell? ⟨g1, 7, none⟩ = some a7 ∧ W.cell? ⟨g2, 0, none⟩ = some b0 ∧ W.cell? ⟨g2, 1, none⟩ = some b1 ∧ W.cell? ⟨g2, 2, none⟩ = some b2 ∧ W.cell? ⟨g2, 3, none⟩ = some b3 ∧ W.cell? ⟨g2, 4, none⟩ = some b4 ∧ W.cell? ⟨g2, 5, none⟩ = some b5 ∧ W.cell? ⟨g2, 6, none⟩ = some b6 ∧ W.cell? ⟨g2, 7, none⟩ = some b7 ∧ W.cell? ⟨g3, 0, none⟩ = some c0 ∧ W.cell? ⟨g3, 1, none⟩ = some c1 ∧ W.cell? ⟨g3, 2, none⟩ = some c2 ∧ W.cell? ⟨g3, 3, none⟩ = some c3 ∧ W.cell? ⟨g3, 4, none⟩ = some c4 ∧ W.cell? ⟨g3, 5, none⟩ = some c5 ∧ W.cell? ⟨g3, 6, none⟩ = some c6 ∧ W.cell? ⟨g3, 7, none⟩ = some c7 ∧ Below w2.heap.size w2 W) (hb : Below W.heap.size W W') :
    W'.cell? ⟨g1, 0, none⟩ = some a0 ∧ W'.cell? ⟨g1, 1, none⟩ = some a1 ∧ W'.cell? ⟨g1, 2, none⟩ = some a2 ∧ W'.cell? ⟨g1, 3, none⟩ = some a3 ∧ W'.cell? ⟨g1, 4, none⟩ = some a4 ∧ W'.cell? ⟨g1, 5, none⟩ = some a5 ∧ W'.cell? ⟨g1, 6, none⟩ = some a6 ∧ W'.cell? ⟨g1, 7, none⟩ = some a7 ∧ W'.cell? ⟨g2, 0, none⟩ = some b0 ∧ W'.cell? ⟨g2, 1, none⟩ = some b1 ∧ W'.cell? ⟨g2, 2, none⟩ = some b2 ∧ W'.cell? ⟨g2, 3, none⟩ = some b3 ∧ W'.cell? ⟨g2, 4, none⟩ = some b4 ∧ W'.cell? ⟨g2, 5, none⟩ = some b5 ∧ W'.cell? ⟨g2, 6, none⟩ = some b6 ∧ W'.cell? ⟨g2, 7, none⟩ = some b7 ∧ W'.cell? ⟨g3, 0, none⟩ = some c0 ∧ W'.cell? ⟨g3, 1, none⟩ = some c1 ∧ W'.cell? ⟨g3, 2, none⟩ = some c2 ∧ W'.cell? ⟨g3, 3, none⟩ = some c3 ∧ W'.cell? ⟨g3, 4, none⟩ = some c4 ∧ W'.cell? ⟨g3, 5, none⟩ = some c5 ∧ W'.cell? ⟨g3, 6, none⟩ = some c6 ∧ W'.cell? ⟨g3, 7, none⟩ = some c7 ∧ Below w2.heap.size w2 W' := by
  obtain ⟨h0, h1, h2, h3, h4, h5, h6, h7, h8, h9, h10, h11, h12, h13, h14, h15, h16, h17, h18, h19, h20, h21, h22, h23, hz⟩ := h
  have l1 := World.block_lt_of_cell? W _ h0
  have l2 := World.block_lt_of_cell? W _ h8
  have l3 := World.block_lt_of_cell? W _ h16
  simp only at l1 l2 l3
  exact ⟨(hb.cell (by simpa using l1)).trans h0, (hb.cell (by simpa using l1)).trans h1, (hb.cell (by simpa using l1)).trans h2, (hb.cell (by simpa using l1)).trans h3, (hb.cell (by simpa using l1)).trans h4, (hb.cell (by simpa using l1)).trans h5, (hb.cell (by simpa using l1)).trans h6, (hb.cell (by simpa using l1)).trans h7, (hb.cell (by simpa using l2)).trans h8, (hb.cell (by simpa using l2)).trans h9, (hb.cell (by simpa using l2)).trans h10, (hb.cell (by simpa using l2)).trans h11, (hb.cell (by simpa using l2)).trans h12, (hb.cell (by simpa using l2)).trans h13, (hb.cell (by simpa using l2)).trans h14, (hb.cell (by simpa using l2)).trans h15, (hb.cell (by simpa using l3)).trans h16, (hb.cell (by simpa using l3)).trans h17, (hb.cell (by simpa using l3)).trans h18, (hb.cell (by simpa using l3)).trans h19, (hb.cell (by simpa using l3)).trans h20, (hb.cell (by simpa using l3)).trans h21, (hb.cell (by simpa using l3)).trans h22, (hb.cell (by simpa using l3)).trans h23, ext_trans hz hb⟩
set_option maxHeartbeats 8000000 in
set_option maxRecDepth 100000 in
theorem walk (x0 : Bool) (x1 : ByteArray) (x2 x3 : Int) (x4 x5 x6 x7 : ByteArray) (y0 : Bool) (y1 : ByteArray) (y2 y3 : Int) (y4 y5 y6 y7 : ByteArray) (w : World)
    (sx1 : x1.size ≤ 140737488351232) (bx2 : 0 ≤ x2 ∧ x2 ≤ 18446744073709551615) (bx3 : 0 ≤ x3 ∧ x3 ≤ 18446744073709551615) (sx4 : x4.size ≤ 140737488351232) (sx5 : x5.size ≤ 140737488351232) (sx6 : x6.size ≤ 140737488351232) (sx7 : x7.size ≤ 140737488351232)
    (sy1 : y1.size ≤ 140737488351232) (by2 : 0 ≤ y2 ∧ y2 ≤ 18446744073709551615) (by3 : 0 ≤ y3 ∧ y3 ≤ 18446744073709551615) (sy4 : y4.size ≤ 140737488351232) (sy5 : y5.size ≤ 140737488351232) (sy6 : y6.size ≤ 140737488351232) (sy7 : y7.size ≤ 140737488351232) :
    Calls Try.prog 5 #[.agg #[.bool x0, .string x1, .int .u64 x2, .int .u64 x3, .string x4, .string x5, .string x6, .string x7], .agg #[.bool y0, .string y1, .int .u64 y2, .int .u64 y3, .string y4, .string y5, .string y6, .string y7]] w (Yes w) := by
  obtain ⟨i0, hi, hz0, hz1, hz2⟩ := info_parts Try.info5
  replace hi := Lib.hid hi
  replace hz0 := Lib.hid hz0
  replace hz1 := Lib.hid hz1
  replace hz2 := Lib.hid hz2
  obtain ⟨x2, rfl⟩ := Int.eq_ofNat_of_zero_le bx2.1
  obtain ⟨x3, rfl⟩ := Int.eq_ofNat_of_zero_le bx3.1
  obtain ⟨y2, rfl⟩ := Int.eq_ofNat_of_zero_le by2.1
  obtain ⟨y3, rfl⟩ := Int.eq_ofNat_of_zero_le by3.1
  have okx : Me.ok ⟨x0, x1, x2, x3, x4, x5, x6, x7⟩ := ⟨sx1, by simp only; omega, by simp only; omega, sx4, sx5, sx6, sx7⟩
  have oky : Me.ok ⟨y0, y1, y2, y3, y4, y5, y6, y7⟩ := ⟨sy1, by simp only; omega, by simp only; omega, sy4, sy5, sy6, sy7⟩
  clear sx1 bx2 bx3 sx4 sx5 sx6 sx7 sy1 by2 by3 sy4 sy5 sy6 sy7
  have P1 := Lib.hid (fun w => mput_any ⟨x0, x1, x2, x3, x4, x5, x6, x7⟩ w okx)
  have P2 := Lib.hid (fun w => mput_any ⟨y0, y1, y2, y3, y4, y5, y6, y7⟩ w oky)
  have J1 := Lib.hid (fun w => joined9_any ⟨x0, x1, x2, x3, x4, x5, x6, x7⟩ ⟨y0, y1, y2, y3, y4, y5, y6, y7⟩ w)
  have BK := Lib.hid (back_M okx)
  have BL := Lib.hid (back_M oky)
  have TW := Lib.hid (two_M okx oky)
  have Z1 := Lib.hid (puts_none (fieldsK ⟨x0, x1, x2, x3, x4, x5, x6, x7⟩ 8))
  have Z2 := Lib.hid (puts_none (fieldsK ⟨y0, y1, y2, y3, y4, y5, y6, y7⟩ 8))
  clear okx oky
  generalize putsE (fieldsK ⟨x0, x1, x2, x3, x4, x5, x6, x7⟩ 8) = E1 at *
  generalize putsL (fieldsK ⟨x0, x1, x2, x3, x4, x5, x6, x7⟩ 8) = L1 at *
  generalize putsE (fieldsK ⟨y0, y1, y2, y3, y4, y5, y6, y7⟩ 8) = E2 at *
  generalize putsL (fieldsK ⟨y0, y1, y2, y3, y4, y5, y6, y7⟩ 8) = L2 at *
  generalize joinK ⟨x0, x1, x2, x3, x4, x5, x6, x7⟩ ⟨y0, y1, y2, y3, y4, y5, y6, y7⟩ 8 = J at *
  obtain ⟨j0, j1, j2, j3, j4, j5, j6, j7⟩ := J
  unfold MeP at J1
  simp only [Me.val, Me.cells] at P1 P2 J1
  have hA1 : Blk ((w.alloc (.cells #[.bool x0, .string x1, .int .u64 (x2 : Nat), .int .u64 (x3 : Nat), .string x4, .string x5, .string x6, .string x7] 24)).alloc (.cells #[.bool y0, .string y1, .int .u64 (y2 : Nat), .int .u64 (y3 : Nat), .string y4, .string y5, .string y6, .string y7] 24)) w.heap.size 24 #[.bool x0, .string x1, .int .u64 (x2 : Nat), .int .u64 (x3 : Nat), .string x4, .string x5, .string x6, .string x7] := Blk.alloc (Blk.new w 24 _) _
  have hA2 : Blk ((w.alloc (.cells #[.bool x0, .string x1, .int .u64 (x2 : Nat), .int .u64 (x3 : Nat), .string x4, .string x5, .string x6, .string x7] 24)).alloc (.cells #[.bool y0, .string y1, .int .u64 (y2 : Nat), .int .u64 (y3 : Nat), .string y4, .string y5, .string y6, .string y7] 24)) (w.heap.size + 1) 24 #[.bool y0, .string y1, .int .u64 (y2 : Nat), .int .u64 (y3 : Nat), .string y4, .string y5, .string y6, .string y7] := by
    have h := Blk.new (w.alloc (.cells #[.bool x0, .string x1, .int .u64 (x2 : Nat), .int .u64 (x3 : Nat), .string x4, .string x5, .string x6, .string x7] 24)) 24 #[.bool y0, .string y1, .int .u64 (y2 : Nat), .int .u64 (y3 : Nat), .string y4, .string y5, .string y6, .string y7]
    rw [show (w.alloc (.cells #[.bool x0, .string x1, .int .u64 (x2 : Nat), .int .u64 (x3 : Nat), .string x4, .string x5, .string x6, .string x7] 24)).heap.size = w.heap.size + 1 by simp] at h
    exact h
  have hB := Lib.hid ((ext_alloc w (.cells #[.bool x0, .string x1, .int .u64 (x2 : Nat), .int .u64 (x3 : Nat), .string x4, .string x5, .string x6, .string x7] 24)).alloc (by simp) (.cells #[.bool y0, .string y1, .int .u64 (y2 : Nat), .int .u64 (y3 : Nat), .string y4, .string y5, .string y6, .string y7] 24))
  replace hA1 := Lib.hid hA1
  replace hA2 := Lib.hid hA2
  go_enter Try.func5, Try.ntmps5
  go_wp2_with fail
  refine (P1.out _).mono ?_
  rintro e w1 ⟨v1, rfl, s1, b1⟩
  have hM1 := Lib.hid (Blk.ext hA1.out b1)
  have hN1 := Blk.ext hA2.out b1
  have B1 := Lib.hid (hB.out.trans (b1.mono hB.out.size))
  obtain ⟨d0, d1, d2, d3, d4, d5, d6, d7⟩ := box8b hN1
  replace hN1 := Lib.hid hN1
  replace s1 := Lib.hid s1
  obtain ⟨p1, q1, rfl, -⟩ := s1.out
  clear b1
  go_wp2_with fail
  refine (P2.out _).mono ?_
  rintro e w2 ⟨v2, rfl, s2, b2⟩
  replace s1 := Lib.hid (s1.out.keep b2 (Nat.le_refl _))
  replace s2 := Lib.hid s2
  obtain ⟨p2, q2, rfl, -⟩ := s2.out
  have B2 := Lib.hid (ext_trans B1.out b2)
  have hM2 := Lib.hid (Blk.ext hM1.out b2)
  have hN2 := Lib.hid (Blk.ext hN1.out b2)
  clear b2 d0 d1 d2 d3 d4 d5 d6 d7 B1 hM1 hN1
  by_cases hg : E1 = 0 ∧ E2 = 0
  · obtain ⟨rfl, rfl⟩ := hg
    obtain ⟨k1, k2, k3⟩ := BK.out rfl
    obtain ⟨-, m2, m3⟩ := BL.out rfl
    have O1 := Lib.hid (mof12_any _ L1 w2 s1.out k3 (by omega))
    unfold OfM at O1
    rw [k1] at O1
    simp only [Me.val, Me.cells] at O1
    have hlt : ∀ x ∈ L1 ++ L2, x < 256 := fun x hx => (List.mem_append.1 hx).elim (k3 x) (m3 x)
    replace hlt := Lib.hid hlt
    have k2' : (L1.length : Int) ≤ 4096 := by omega
    have m2' : (L2.length : Int) ≤ 4096 := by omega
    replace TW := Lib.hid (fun h => TW.out rfl rfl h)
    clear k1 k3 m3 BK BL Z1 Z2
    go_wp2_with fail
    refine O1.out.mono ?_
    rintro e w3 ⟨rfl, b3⟩
    have hT3 := Lib.hid (Blk.new w3 24 #[.bool x0, .string x1, .int .u64 (x2 : Nat), .int .u64 (x3 : Nat), .string x4, .string x5, .string x6, .string x7])
    have F3 := Lib.hid (b3.alloc b3.size (.cells #[.bool x0, .string x1, .int .u64 (x2 : Nat), .int .u64 (x3 : Nat), .string x4, .string x5, .string x6, .string x7] 24))
    clear b3
    go_wp2_with fail
    refine (P1.out _).mono ?_
    rintro e w4 ⟨v4, rfl, s4, b4⟩
    have F4 := Lib.hid (ext_trans F3.out b4)
    have hT4 := Blk.ext hT3.out b4
    obtain ⟨c0, c1, c2, c3, c4, c5, c6, c7⟩ := box8b hT4
    have hM4 := Blk.ext hM2.out F4.out
    have hN4 := Lib.hid (Blk.ext hN2.out F4.out)
    obtain ⟨d0, d1, d2, d3, d4, d5, d6, d7⟩ := box8b hM4
    have t1 := (s1.out.keep F4.out (Nat.le_refl _)).bytes.conv (P := Try.prog) Try.underlying25 Try.underlying5 Try.underlying9
    have t4 := s4.bytes.conv (P := Try.prog) Try.underlying25 Try.underlying5 Try.underlying9
    obtain ⟨p4, q4, rfl, -⟩ := s4
    replace hM4 := Lib.hid hM4
    clear b4 hT4
    generalize strB L1 = T at t1 t4
    by_cases h4 : L1.length + L2.length ≤ 4096
    · have h4' : (L1.length : Int) + L2.length ≤ 4096 := by omega
      have O2 := TW.out h4
      have own0 : (w4.alloc (.cells #[] 5)).ownsRow w4.heap.size 5 1 (.slice (some ⟨w4.heap.size, 0, none⟩) 0 0) ([] : List Nat).length (bl []) := World.ownsRow_lit w4 #[] 0 (Nat.le_refl _) (by unfold maxLen; omega) rfl
      have hA := ((s1.out.keep F4.out (Nat.le_refl _)).keep (ext_alloc w4 (.cells #[] 5)) (Nat.le_refl _)).bytes
      have hC := Lib.hid ((s2.out.keep F4.out (Nat.le_refl _)).bytes)
      have hq : ([] : List Nat).length + L1.length ≤ 140737488355328 := by simp; omega
      have hq2 : L1.length + L2.length ≤ 140737488355328 := by omega
      have z4 : w4.heap.size ≤ (w4.alloc (.cells #[] 5)).heap.size := by simp
      have G0 := Lib.hid (ext_alloc w4 (.cells #[] 5))
      replace O2 := Lib.hid O2
      replace h4 := Lib.hid h4
      go_wp2_with (first
        | (at_builtin; (refine wpList_append_bytes _ rfl (.tmp 86) (.tmp 87) 25 rfl w4.heap.size 5 i0 Try.underlying25 hi.out hz0.out hz1.out hz2.out _ [] L1 rfl own0 hA hq z4 ?_); intro v5 w5 o5 g5 n5; clear n5; rw [List.nil_append] at o5; have g6 := grown_ext own0 g5 z4; have G5 := Lib.hid (G0.out.trans g6); have hC5 := hC.out.keep G5.out (Nat.le_refl _); have z5 : w4.heap.size ≤ w5.heap.size := G5.out.size; clear own0 hA g5 g6)
        | (at_builtin; (refine wpList_append_bytes _ rfl (.tmp 88) (.tmp 89) 25 rfl w4.heap.size 5 i0 Try.underlying25 hi.out hz0.out hz1.out hz2.out v5 L1 L2 rfl o5 hC5 hq2 z5 ?_); intro v6 w6 o6 g6 n6; clear n6; have G6 := Lib.hid (G5.out.trans (grown_ext o5 g6 z5)); clear o5 hC5 g6))
      have hl12 : (L1 ++ L2).length ≤ 140737488355328 := by rw [List.length_append]; omega
      refine (mof12_any v6 (L1 ++ L2) w6 (Src.of_own o6) hlt.out hl12).mono ?_
      rw [O2.out]
      rintro e w7 ⟨rfl, b7⟩
      clear o6 c0 c1 c2 c3 c4 c5 c6 c7 d0 d1 d2 d3 d4 d5 d6 d7
      have F6 := Lib.hid (G6.out.trans (b7.mono G6.out.size))
      clear b7
      have F7 := Lib.hid (F6.out.trans ((ext_alloc w7 (.cells #[.bool j0, .string j1, .int .u64 (j2 : Nat), .int .u64 (j3 : Nat), .string j4, .string j5, .string j6, .string j7] 24)).mono F6.out.size))
      have hT7 := Blk.new w7 24 #[.bool j0, .string j1, .int .u64 (j2 : Nat), .int .u64 (j3 : Nat), .string j4, .string j5, .string j6, .string j7]
      have hM7 := Blk.ext hM4.out F7.out
      have hN7 := Blk.ext hN4.out F7.out
      obtain ⟨f0, f1, f2, f3, f4, f5, f6, f7⟩ := box8b hT7
      obtain ⟨c0, c1, c2, c3, c4, c5, c6, c7⟩ := box8b hM7
      obtain ⟨d0, d1, d2, d3, d4, d5, d6, d7⟩ := box8b hN7
      have B7 := Lib.hid (ext_trans (ext_trans B2.out F4.out) F7.out)
      clear hT7 hM7 hN7 F6 F7 t1 t4
      simp only [Me.val, Me.cells]
      go_wp2_with fail
      go_region_held3 (fun W => W.cell? ⟨w7.heap.size, 0, none⟩ = some (.bool j0) ∧ W.cell? ⟨w7.heap.size, 1, none⟩ = some (.string j1) ∧ W.cell? ⟨w7.heap.size, 2, none⟩ = some (.int .u64 (j2 : Nat)) ∧ W.cell? ⟨w7.heap.size, 3, none⟩ = some (.int .u64 (j3 : Nat)) ∧ W.cell? ⟨w7.heap.size, 4, none⟩ = some (.string j4) ∧ W.cell? ⟨w7.heap.size, 5, none⟩ = some (.string j5) ∧ W.cell? ⟨w7.heap.size, 6, none⟩ = some (.string j6) ∧ W.cell? ⟨w7.heap.size, 7, none⟩ = some (.string j7) ∧ W.cell? ⟨w.heap.size, 0, none⟩ = some (.bool x0) ∧ W.cell? ⟨w.heap.size, 1, none⟩ = some (.string x1) ∧ W.cell? ⟨w.heap.size, 2, none⟩ = some (.int .u64 (x2 : Nat)) ∧ W.cell? ⟨w.heap.size, 3, none⟩ = some (.int .u64 (x3 : Nat)) ∧ W.cell? ⟨w.heap.size, 4, none⟩ = some (.string x4) ∧ W.cell? ⟨w.heap.size, 5, none⟩ = some (.string x5) ∧ W.cell? ⟨w.heap.size, 6, none⟩ = some (.string x6) ∧ W.cell? ⟨w.heap.size, 7, none⟩ = some (.string x7) ∧ W.cell? ⟨w.heap.size + 1, 0, none⟩ = some (.bool y0) ∧ W.cell? ⟨w.heap.size + 1, 1, none⟩ = some (.string y1) ∧ W.cell? ⟨w.heap.size + 1, 2, none⟩ = some (.int .u64 (y2 : Nat)) ∧ W.cell? ⟨w.heap.size + 1, 3, none⟩ = some (.int .u64 (y3 : Nat)) ∧ W.cell? ⟨w.heap.size + 1, 4, none⟩ = some (.string y4) ∧ W.cell? ⟨w.heap.size + 1, 5, none⟩ = some (.string y5) ∧ W.cell? ⟨w.heap.size + 1, 6, none⟩ = some (.string y6) ∧ W.cell? ⟨w.heap.size + 1, 7, none⟩ = some (.string y7) ∧ Below (w7.alloc (.cells #[.bool j0, .string j1, .int .u64 (j2 : Nat), .int .u64 (j3 : Nat), .string j4, .string j5, .string j6, .string j7] 24)).heap.size (w7.alloc (.cells #[.bool j0, .string j1, .int .u64 (j2 : Nat), .int .u64 (j3 : Nat), .string j4, .string j5, .string j6, .string j7] 24)) W) (first | exact ⟨f0, f1, f2, f3, f4, f5, f6, f7, c0, c1, c2, c3, c4, c5, c6, c7, d0, d1, d2, d3, d4, d5, d6, d7, ext_drew _⟩ | exact keep3 (‹_ ∧ _ ∧ _ ∧ _ ∧ _ ∧ _ ∧ _ ∧ _ ∧ _ ∧ _ ∧ _ ∧ _ ∧ _ ∧ _ ∧ _ ∧ _ ∧ _ ∧ _ ∧ _ ∧ _ ∧ _ ∧ _ ∧ _ ∧ _ ∧ Below (w7.alloc (.cells #[.bool j0, .string j1, .int .u64 (j2 : Nat), .int .u64 (j3 : Nat), .string j4, .string j5, .string j6, .string j7] 24)).heap.size (w7.alloc (.cells #[.bool j0, .string j1, .int .u64 (j2 : Nat), .int .u64 (j3 : Nat), .string j4, .string j5, .string j6, .string j7] 24)) _›) hb)
        (first | (go_at_call 9; refine (J1.out _).mono ?_; rintro e w' ⟨rfl, hb⟩) | (go_at_call 11; refine (mawake_any _).mono ?_; rintro e w' ⟨rfl, hb⟩))
      go_wp2_with fail
      go_ret
      exact ⟨rfl, ext_trans B7.out (‹_ ∧ _ ∧ _ ∧ _ ∧ _ ∧ _ ∧ _ ∧ _ ∧ _ ∧ _ ∧ _ ∧ _ ∧ _ ∧ _ ∧ _ ∧ _ ∧ _ ∧ _ ∧ _ ∧ _ ∧ _ ∧ _ ∧ _ ∧ _ ∧ Below (w7.alloc (.cells #[.bool j0, .string j1, .int .u64 (j2 : Nat), .int .u64 (j3 : Nat), .string j4, .string j5, .string j6, .string j7] 24)).heap.size (w7.alloc (.cells #[.bool j0, .string j1, .int .u64 (j2 : Nat), .int .u64 (j3 : Nat), .string j4, .string j5, .string j6, .string j7] 24)) _›).2.2.2.2.2.2.2.2.2.2.2.2.2.2.2.2.2.2.2.2.2.2.2.2⟩
    · have h4' : (4096 : Int) < (L1.length : Int) + L2.length := by omega
      replace h4 := Lib.hid h4
      have B4 := Lib.hid (ext_trans B2.out F4.out)
      go_wp2_with fail
      refine (mawake_any _).mono ?_
      rintro e w5 ⟨rfl, b5⟩
      go_wp2_with fail
      go_ret
      exact ⟨rfl, ext_trans B4.out b5⟩
  · have hbad : (E1 ≠ 0 ∧ E2 ≠ 0) ∨ (E1 = 0 ∧ E2 ≠ 0) ∨ (E1 ≠ 0 ∧ E2 = 0) := by omega
    replace hg := Lib.hid hg
    rcases hbad with ⟨h, h'⟩ | ⟨rfl, h'⟩ | ⟨h, rfl⟩
    · have n1 : ((E1 : Int) != 0) = true := by simpa using h
      have n2 : ((E1 : Int) == 0) = false := by simpa using h
      have n3 : ((E2 : Int) == 0) = false := by simpa using h'
      obtain rfl := Z1.out h
      obtain rfl := Z2.out h'
      replace h := Lib.hid h
      replace h' := Lib.hid h'
      simp only [List.length_nil] at *
      go_wp2_with fail
      refine (mawake_any _).mono ?_
      rintro e w5 ⟨rfl, b5⟩
      go_wp2_with fail
      go_ret
      exact ⟨rfl, ext_trans B2.out b5⟩
    · have n1 : ((E2 : Int) != 0) = true := by simpa using h'
      have n3 : ((E2 : Int) == 0) = false := by simpa using h'
      obtain rfl := Z2.out h'
      replace h' := Lib.hid h'
      simp only [List.length_nil] at *
      go_wp2_with fail
      refine (mawake_any _).mono ?_
      rintro e w5 ⟨rfl, b5⟩
      go_wp2_with fail
      go_ret
      exact ⟨rfl, ext_trans B2.out b5⟩
    · have n1 : ((E1 : Int) != 0) = true := by simpa using h
      have n2 : ((E1 : Int) == 0) = false := by simpa using h
      obtain rfl := Z1.out h
      replace h := Lib.hid h
      simp only [List.length_nil] at *
      go_wp2_with fail
      refine (mawake_any _).mono ?_
      rintro e w5 ⟨rfl, b5⟩
      go_wp2_with fail
      go_ret
      exact ⟨rfl, ext_trans B2.out b5⟩

set_option maxRecDepth 100000 in
theorem lifted (os : Os) (started : os.Started) (H : Type) (enc : TypeId × Value → H) :
    ReturnsInHanded {} Try.checked os 5 .any (Rows.metaBackSpec.pre6 enc Try.prog Try.f5 Rows.metaBackRow.domain false) (Rows.metaBackSpec.post enc Try.prog Try.f5 false true false false) := by
  refine returnsInHanded_of_change_sized (C := Try.checked) own started (by kernel_rfl) Try.func5
    (ChangeSpec.witness6 (enc := enc) (C := Try.checked) false ⟨#[], #[.agg #[.bool false, .string ByteArray.empty, .int .u64 0, .int .u64 0, .string ByteArray.empty, .string ByteArray.empty, .string ByteArray.empty, .string ByteArray.empty], .agg #[.bool false, .string ByteArray.empty, .int .u64 0, .int .u64 0, .string ByteArray.empty, .string ByteArray.empty, .string ByteArray.empty, .string ByteArray.empty]], []⟩ 8 (by kernel_rfl) (by kernel_rfl) (by kernel_rfl) (by kernel_rfl)) ?_
  intro W base args ds gs before hval0 hW hcnd hsz0 _
  have hsz : (DataW.weightsEach Try.prog (Try.f5.params.toList ++ Rows.metaBackSpec.plain.varTypes Try.prog) (ds ++ gs)).all (· ≤ reachBytes) = true := hsz0
  have hval : ∀ (j : Nat) t v, Try.f5.params[j]? = some t → args[j]? = some v → Value.okWide Try.prog W .any base t v := hval0
  have hW' := hW
  obtain ⟨p, q, hA0, hV, rfl, hfz, hnd⟩ := hW
  have hA : DataW.TrodAll enc Try.prog W 0 (fun _ => true) true Try.f5.params.toList args.toList ds p := hA0
  rw [Try.params5] at hA hval hsz
  obtain ⟨v0, vs0, d0, ds0, p0, q0, hargs, rfl, rfl, h0, r0⟩ := trodAll_cons hA
  obtain ⟨v1, vs1, d1, ds1, p1, q1, rfl, rfl, rfl, h1, r1⟩ := trodAll_cons r0
  obtain ⟨rfl, rfl, rfl⟩ := trodAll_nil r1
  obtain rfl : args = #[v0, v1] := by cases args; simp_all
  obtain ⟨rfl, rfl⟩ := trodVars_none hV
  have k0 := h0
  have lt0 : ∀ x ∈ p0, x.block < W.heap.size := by obtain ⟨m, hm⟩ := k0; exact DataW.trod_lt m _ _ _ hm
  have k1 := h1
  have lt1 : ∀ x ∈ p1, x.block < W.heap.size := by obtain ⟨m, hm⟩ := k1; exact DataW.trod_lt m _ _ _ hm
  obtain ⟨cs0, rfl, sz0⟩ := okWide_struct Try.underlying24 (hval 0 24 _ rfl rfl)
  obtain ⟨fu0, hf0⟩ := h0
  obtain ⟨a0_0, a0_1, a0_2, a0_3, a0_4, a0_5, a0_6, a0_7, q0, z0, wa0_2, wa0_3⟩ := open_t24 hf0
  obtain rfl : cs0 = #[.bool a0_0, .string a0_1, .int .u64 a0_2, .int .u64 a0_3, .string a0_4, .string a0_5, .string a0_6, .string a0_7] := by
    have := congrArg List.toArray q0
    simpa [Value.cells] using this
  obtain ⟨rfl, rfl⟩ := Prod.mk.inj z0
  have sa0_1 : a0_1.size ≤ 140737488351232 := by
    have hm := List.all_eq_true.1 hsz a0_1.data.toList.length (DataW.weights_mem_each (j := 0) (t := 24) rfl rfl _ (by simp [DataW.weights, DataW.weightsEach, Try.underlying4, Try.underlying9, Try.underlying22, Try.underlying24]))
    simp only [Array.length_toList, reachBytes] at hm
    exact of_decide_eq_true hm
  have ba0_2 := wf_u64 wa0_2
  have ba0_3 := wf_u64 wa0_3
  have sa0_4 : a0_4.size ≤ 140737488351232 := by
    have hm := List.all_eq_true.1 hsz a0_4.data.toList.length (DataW.weights_mem_each (j := 0) (t := 24) rfl rfl _ (by simp [DataW.weights, DataW.weightsEach, Try.underlying4, Try.underlying9, Try.underlying22, Try.underlying24]))
    simp only [Array.length_toList, reachBytes] at hm
    exact of_decide_eq_true hm
  have sa0_5 : a0_5.size ≤ 140737488351232 := by
    have hm := List.all_eq_true.1 hsz a0_5.data.toList.length (DataW.weights_mem_each (j := 0) (t := 24) rfl rfl _ (by simp [DataW.weights, DataW.weightsEach, Try.underlying4, Try.underlying9, Try.underlying22, Try.underlying24]))
    simp only [Array.length_toList, reachBytes] at hm
    exact of_decide_eq_true hm
  have sa0_6 : a0_6.size ≤ 140737488351232 := by
    have hm := List.all_eq_true.1 hsz a0_6.data.toList.length (DataW.weights_mem_each (j := 0) (t := 24) rfl rfl _ (by simp [DataW.weights, DataW.weightsEach, Try.underlying4, Try.underlying9, Try.underlying22, Try.underlying24]))
    simp only [Array.length_toList, reachBytes] at hm
    exact of_decide_eq_true hm
  have sa0_7 : a0_7.size ≤ 140737488351232 := by
    have hm := List.all_eq_true.1 hsz a0_7.data.toList.length (DataW.weights_mem_each (j := 0) (t := 24) rfl rfl _ (by simp [DataW.weights, DataW.weightsEach, Try.underlying4, Try.underlying9, Try.underlying22, Try.underlying24]))
    simp only [Array.length_toList, reachBytes] at hm
    exact of_decide_eq_true hm
  obtain ⟨cs1, rfl, sz1⟩ := okWide_struct Try.underlying24 (hval 1 24 _ rfl rfl)
  obtain ⟨fu1, hf1⟩ := h1
  obtain ⟨a1_0, a1_1, a1_2, a1_3, a1_4, a1_5, a1_6, a1_7, q1, z1, wa1_2, wa1_3⟩ := open_t24 hf1
  obtain rfl : cs1 = #[.bool a1_0, .string a1_1, .int .u64 a1_2, .int .u64 a1_3, .string a1_4, .string a1_5, .string a1_6, .string a1_7] := by
    have := congrArg List.toArray q1
    simpa [Value.cells] using this
  obtain ⟨rfl, rfl⟩ := Prod.mk.inj z1
  have sa1_1 : a1_1.size ≤ 140737488351232 := by
    have hm := List.all_eq_true.1 hsz a1_1.data.toList.length (DataW.weights_mem_each (j := 1) (t := 24) rfl rfl _ (by simp [DataW.weights, DataW.weightsEach, Try.underlying4, Try.underlying9, Try.underlying22, Try.underlying24]))
    simp only [Array.length_toList, reachBytes] at hm
    exact of_decide_eq_true hm
  have ba1_2 := wf_u64 wa1_2
  have ba1_3 := wf_u64 wa1_3
  have sa1_4 : a1_4.size ≤ 140737488351232 := by
    have hm := List.all_eq_true.1 hsz a1_4.data.toList.length (DataW.weights_mem_each (j := 1) (t := 24) rfl rfl _ (by simp [DataW.weights, DataW.weightsEach, Try.underlying4, Try.underlying9, Try.underlying22, Try.underlying24]))
    simp only [Array.length_toList, reachBytes] at hm
    exact of_decide_eq_true hm
  have sa1_5 : a1_5.size ≤ 140737488351232 := by
    have hm := List.all_eq_true.1 hsz a1_5.data.toList.length (DataW.weights_mem_each (j := 1) (t := 24) rfl rfl _ (by simp [DataW.weights, DataW.weightsEach, Try.underlying4, Try.underlying9, Try.underlying22, Try.underlying24]))
    simp only [Array.length_toList, reachBytes] at hm
    exact of_decide_eq_true hm
  have sa1_6 : a1_6.size ≤ 140737488351232 := by
    have hm := List.all_eq_true.1 hsz a1_6.data.toList.length (DataW.weights_mem_each (j := 1) (t := 24) rfl rfl _ (by simp [DataW.weights, DataW.weightsEach, Try.underlying4, Try.underlying9, Try.underlying22, Try.underlying24]))
    simp only [Array.length_toList, reachBytes] at hm
    exact of_decide_eq_true hm
  have sa1_7 : a1_7.size ≤ 140737488351232 := by
    have hm := List.all_eq_true.1 hsz a1_7.data.toList.length (DataW.weights_mem_each (j := 1) (t := 24) rfl rfl _ (by simp [DataW.weights, DataW.weightsEach, Try.underlying4, Try.underlying9, Try.underlying22, Try.underlying24]))
    simp only [Array.length_toList, reachBytes] at hm
    exact of_decide_eq_true hm
  clear hA0 hval0 hsz0
  refine (walk a0_0 a0_1 a0_2 a0_3 a0_4 a0_5 a0_6 a0_7 a1_0 a1_1 a1_2 a1_3 a1_4 a1_5 a1_6 a1_7 W sa0_1 ba0_2 ba0_3 sa0_4 sa0_5 sa0_6 sa0_7 sa1_1 ba1_2 ba1_3 sa1_4 sa1_5 sa1_6 sa1_7).mono fun e W' ⟨he, bel⟩ => ?_
  subst he
  exact ⟨_, rfl, _, _, _, [], _, [], hW', trodAll_mk1 (shut_bool Try.underlying4 _), (trodAll_cons_mk (Below.trod laidOut (by kernel_rfl) (of_decide_eq_true (by kernel_rfl)) k0 bel lt0) (trodAll_cons_mk (Below.trod laidOut (by kernel_rfl) (of_decide_eq_true (by kernel_rfl)) k1 bel lt1) trodAll_mk0)), rfl, bel.frame _, fun h => by cases h⟩

theorem over : Rows.metaBackRow.holds Try.pinned (OpenSpec.ofChange Rows.metaBackSpec) :=
  OpenClaim.holds_of_wide 5 Try.f5 rfl rfl rfl rfl rfl rfl rfl ⟨rfl, rfl, rfl, rfl, rfl⟩ rfl rfl rfl rfl rfl (by kernel_rfl) Try.func5 (by kernel_rfl)
    (of_decide_eq_true (by kernel_rfl)) (by unfold Func.isWrapper; first | (rw [if_pos (by decide +kernel)]; kernel_rfl) | (rw [if_neg (by decide +kernel)]; exact ⟨rfl, rfl⟩))
    (fun os started H enc _ => lifted os started H enc)

theorem proved : Rows.MetaBackSaid := over
end Go.Proofs.Ytoglgdkeknojkaa.metaBack
