/-
  ValueBack: FOR EVERY INPUT the law returns true and leaves its arguments as they were; the package's tables are laid (a card).
-/
import Derived.Test.YtoglgdkeknojkaaDoorAj
import Derived.Test.YtoglgdkeknojkaaDoorCards
import Derived.Test.YtoglgdkeknojkaaDoorTie
import Derived.WalkKit
import Derived.Deep.DeepMust
import Derived.ProofKit
import Derived.OpenShut
import Derived.ChangeOld
import Derived.Below
import Derived.SizedLaws
import Derived.Lib.SmallJoins
import Derived.Deep.DeepHandedRow
import Derived.Lib.LaidTab
namespace Go.Proofs.YtoglgdkeknojkaaDoor.valueBack
open Go.ChangeShapes Go.WideShapes Go.ChangeAt Go.RowKit
open Go.ChangeMaps (open_string shut_string)
set_option linter.unusedVariables false

theorem own : ownKnob Tryd.prog.godebug = none := by kernel_rfl
theorem laidOut : laidOutB Tryd.prog = true := by kernel_rfl

theorem len1 {v : Va} {b : Int} (h : (putVL v b true).length ≤ 1) : ((putVL v b true).length : Int) ≤ 1 := by omega
theorem wantV {w w1 : World} {g : Nat} {u : Va} (h : VB w g u) (hb : Below w.heap.size w w1) : VB w1 g u := Blk.ext h hb
set_option maxHeartbeats 4000000 in
set_option maxRecDepth 100000 in
theorem walk (k1 n1 : Int) (s1 : ByteArray) (k2 n2 : Int) (s2 : ByteArray) (b0 : Int) (w : World) (ht : Tabs w) (bk1 : -9223372036854775808 ≤ k1 ∧ k1 ≤ 9223372036854775807) (bn1 : 0 ≤ n1 ∧ n1 ≤ 18446744073709551615) (hs1 : s1.size ≤ 140737488351232)
    (bk2 : -9223372036854775808 ≤ k2 ∧ k2 ≤ 9223372036854775807) (bn2 : 0 ≤ n2 ∧ n2 ≤ 18446744073709551615) (hs2 : s2.size ≤ 140737488351232) (bb : 0 ≤ b0 ∧ b0 ≤ 255) :
    Calls Tryd.prog 5 #[.agg #[.int .i64 k1, .int .u64 n1, .string s1], .agg #[.int .i64 k2, .int .u64 n2, .string s2], .int .u8 b0] w (Yes w) := by
  obtain ⟨n1, rfl⟩ := Int.eq_ofNat_of_zero_le bn1.1
  obtain ⟨n2, rfl⟩ := Int.eq_ofNat_of_zero_le bn2.1
  have hm1 : n1 ≤ 18446744073709551615 := by omega
  have hm2 : n2 ≤ 18446744073709551615 := by omega
  have hbn : ¬ (1 + b0 < 1 ∨ 1000 < 1 + b0) := by omega
  have h1b : 1 ≤ 1 + b0 := by omega
  have h2b : 1 + b0 ≤ 256 := by omega
  have P1 := Lib.hid (fun w ht => vput_any 7 (.inl rfl) (Va.mk k1 n1 s1) (1 + b0) true w ht hm1)
  have P2 := Lib.hid (fun w ht => vput_any 7 (.inl rfl) (Va.mk k2 n2 s2) (1 + b0) true w ht hm2)
  have R1 := Lib.hid (fun w ht => right_any 10 (.inl rfl) (Va.mk k1 n1 s1) w ht hm1)
  have R2 := Lib.hid (fun w ht => right_any 10 (.inl rfl) (Va.mk k2 n2 s2) w ht hm2)
  have Aw := Lib.hid fun W (hW : Below w.heap.size w W) => vawake_any W (ht.keep hW)
  have TK := Lib.hid fun W (hW : Below w.heap.size w W) => ht.keep hW
  have E1 := (putVE_raw (Va.mk k1 n1 s1) (1 + b0) hbn).1
  have E2 := (putVE_raw (Va.mk k2 n2 s2) (1 + b0) hbn).1
  have TW := @ofVs_two (Va.mk k1 n1 s1) (Va.mk k2 n2 s2) (1 + b0)
  have F1 := @put_fine (Va.mk k1 n1 s1) (1 + b0)
  have F2 := @put_fine (Va.mk k2 n2 s2) (1 + b0)
  rw [E1] at P1
  rw [E2] at P2
  simp only [Va.val] at P1 P2 R1 R2
  have hA0 := Lib.hid ((e_alloc w (.cells #[.int .i64 k1, .int .u64 (n1 : Nat), .string s1] 24)).trans ((e_alloc (w.alloc (.cells #[.int .i64 k1, .int .u64 (n1 : Nat), .string s1] 24)) (.cells #[.int .i64 k2, .int .u64 (n2 : Nat), .string s2] 24)).mono (by simp)))
  have V1 : VB ((w.alloc (.cells #[.int .i64 k1, .int .u64 (n1 : Nat), .string s1] 24)).alloc (.cells #[.int .i64 k2, .int .u64 (n2 : Nat), .string s2] 24)) w.heap.size ⟨k1, n1, s1⟩ := Blk.alloc (Blk.new w 24 _) _
  have V2 : VB ((w.alloc (.cells #[.int .i64 k1, .int .u64 (n1 : Nat), .string s1] 24)).alloc (.cells #[.int .i64 k2, .int .u64 (n2 : Nat), .string s2] 24)) (w.heap.size + 1) ⟨k2, n2, s2⟩ := by
    have h := Blk.new (w.alloc (.cells #[.int .i64 k1, .int .u64 (n1 : Nat), .string s1] 24)) 24 #[.int .i64 k2, .int .u64 (n2 : Nat), .string s2]
    rw [show (w.alloc (.cells #[.int .i64 k1, .int .u64 (n1 : Nat), .string s1] 24)).heap.size = w.heap.size + 1 by simp] at h
    exact h
  replace V1 := Lib.hid V1
  replace V2 := Lib.hid V2
  by_cases hR : rightE (Va.mk k1 n1 s1) = 0 ∧ rightE (Va.mk k2 n2 s2) = 0
  · obtain ⟨hR1, hR2⟩ := hR
    have TW0 := TW hR1 hR2 hbn
    clear TW
    obtain ⟨G1, N1⟩ := F1 hR1 h1b h2b hm1 hs1
    obtain ⟨G2, N2⟩ := F2 hR2 h1b h2b hm2 hs2
    rw [hR1] at P1 E1
    rw [hR2] at P2 E2
    by_cases hk2 : k2 = 0
    · have TW : ofVal (1 + b0) true (putVL (Va.mk k1 n1 s1) (1 + b0) true ++ putVL (Va.mk k2 n2 s2) (1 + b0) true) = (⟨k1, n1, s1⟩, 0) := by
        unfold ofVal
        rw [if_neg hbn]
        show ofVs (1 + b0) 7 _ v0 = _
        rw [TW0]
        show (if k2 = 0 then _ else _, (0 : Int)) = _
        rw [if_pos hk2]
      clear TW0
      have GA : ∀ f ∈ putVL (Va.mk k1 n1 s1) (1 + b0) true ++ putVL (Va.mk k2 n2 s2) (1 + b0) true, f.ok ∧ wrE f = 0 := fun f hf => (List.mem_append.1 hf).elim (G1 f) (G2 f)
      clear F1 F2 G1 G2
      generalize putVL (Va.mk k1 n1 s1) (1 + b0) true = L1 at *
      generalize putVL (Va.mk k2 n2 s2) (1 + b0) true = L2 at *
      have NA : (L1 ++ L2).length ≤ 2 := by rw [List.length_append]; omega
      have NA' : ((L1 ++ L2).length : Int) ≤ 2 := by omega
      have PF := puts_few GA NA
      have OJ := of_join (L1 ++ L2) (fun f hf => (GA f hf).1)
      have OF := Lib.hid (fun v W (hv : FdsAt W v (L1 ++ L2)) (hW : Below w.heap.size w W) => of15_any v _ (1 + b0) true W hv (ht.keep hW) (fun f hf => (GA f hf).1))
      rw [TW] at OF
      unfold OfV at OF
      have WP := Lib.hid (fun v W (hv : FdsAt W v (L1 ++ L2)) => wput_any v _ W hv GA)
      replace TW := Lib.hid TW
      have hkb : (k2 == 0) = true := by simpa using hk2
      replace hk2 := Lib.hid hk2
      replace PF := Lib.hid PF
      replace GA := Lib.hid GA
      replace OJ := Lib.hid OJ
      replace E1 := Lib.hid E1
      replace E2 := Lib.hid E2
      replace hR1 := Lib.hid hR1
      replace hR2 := Lib.hid hR2
      clear ht hbn R1 R2
      obtain ⟨j0, hj, hy0, hy1, hy2⟩ := info_parts Tryd.info48
      replace hj := Lib.hid hj
      replace hy0 := Lib.hid hy0
      replace hy1 := Lib.hid hy1
      replace hy2 := Lib.hid hy2
      simp only [Va.val] at OF
      go_enter Tryd.func5, Tryd.ntmps5
      go_wp2_with fail
      refine (P1.out _ (TK.out _ hA0.out)).mono ?_
      rintro e w1 ⟨x1, y1, z1, rfl, f1, b1⟩
      have B1 := Lib.hid (ext_trans hA0.out b1)
      have V11 := Lib.hid (Blk.ext V1.out b1)
      have V21 := Lib.hid (Blk.ext V2.out b1)
      obtain ⟨d0, d1, d2, -⟩ := VB.cells (v := ⟨k2, n2, s2⟩) V21.out
      simp only at d0 d1 d2
      replace f1 := Lib.hid f1
      clear b1
      go_wp2_with fail
      refine (P2.out _ (TK.out _ B1.out)).mono ?_
      rintro e w2 ⟨x2, y2, z2, rfl, f2, b2⟩
      have B2 := Lib.hid (ext_trans B1.out b2)
      have V12 := Lib.hid (Blk.ext V11.out b2)
      have V22 := Lib.hid (Blk.ext V21.out b2)
      have f1' := Lib.hid (f1.out.keep b2 (Nat.le_refl _))
      replace f2 := Lib.hid f2
      clear d0 d1 d2 b2
      have own0 : (w2.alloc (.cells #[] 48)).ownsRow w2.heap.size 48 4 (.slice (some ⟨w2.heap.size, 0, none⟩) 0 0) ([] : List Fd).length (fcs []) := World.ownsRow_lit w2 #[] 0 (Nat.le_refl _) (by unfold maxLen; omega) rfl
      have hA5 := f1'.out.keep (ext_alloc w2 (.cells #[] 48)) (Nat.le_refl _)
      have hB5 := Lib.hid f2.out
      have r1 : ([] : List Fd).length + L1.length ≤ 1000000 := by simp; omega
      have r2 : L1.length + L2.length ≤ 1000000 := by omega
      have z5 : w2.heap.size ≤ (w2.alloc (.cells #[] 48)).heap.size := by simp
      have G0 := Lib.hid (ext_alloc w2 (.cells #[] 48))
      go_wp2_with (first
        | (at_builtin; (refine wpList_append_fds _ rfl (.tmp 54) (.tmp 55) 25 rfl w2.heap.size 48 j0 _ Tryd.underlying25 hj.out hy0.out rfl hy1.out hy2.out _ [] L1 rfl own0 hA5 r1 z5 ?_); intro v3 w3 o3 g3; rw [List.nil_append] at o3; have g4 := fgrown_ext own0 g3 z5; have F3 := Lib.hid (G0.out.trans g4); have hB3 := hB5.out.keep F3.out (Nat.le_refl _); have z3 : w2.heap.size ≤ w3.heap.size := F3.out.size; clear own0 hA5 g3 g4)
        | (at_builtin; go_must (((refine wpList_append_fds _ rfl (.tmp 56) (.tmp 57) 25 rfl w2.heap.size 48 j0 _ Tryd.underlying25 hj.out hy0.out rfl hy1.out hy2.out v3 L1 L2 rfl o3 hB3 r2 z3 ?_); intro v4 w4 o4 g4; have F4 := Lib.hid (F3.out.trans (fgrown_ext o3 g4 z3)); clear o3 hB3 g4; have q4 := VB.cells (v := ⟨k2, n2, s2⟩) (Blk.ext V22.out F4.out); have q5 := VB.cells (v := ⟨k1, n1, s1⟩) (Blk.ext V12.out F4.out); (obtain ⟨t0, t1, t2, -⟩ := q4); (obtain ⟨s0', s1', s2', -⟩ := q5); (try simp only at t0 t1 t2 s0' s1' s2'); have lt0 : w.heap.size < w4.heap.size := Blk.lt (Blk.ext V12.out F4.out); have lt1 : w.heap.size + 1 < w4.heap.size := Blk.lt (Blk.ext V22.out F4.out)))))
      have F5 := FdsAt.of_own o4 (by omega)
      have bw4 := Lib.hid (B2.out.trans (F4.out.mono B2.out.size))
      have O4 := Lib.hid (fun W (hW : Below w4.heap.size w4 W) => OF.out v4 W (F5.keep hW (Nat.le_refl _)) (ext_trans bw4.out hW))
      have W4 := Lib.hid (fun W (hW : Below w4.heap.size w4 W) => WP.out v4 W (F5.keep hW (Nat.le_refl _)))
      have al4 := Lib.hid (ext_alloc w4 (.cells #[.int .i64 k1, .int .u64 (n1 : Nat), .string s1] 24))
      clear F5 o4 t0 t1 t2 s0' s1' s2'
      refine (O4.out _ al4.out).mono ?_
      rintro e w5 ⟨rfl, b5⟩
      obtain ⟨u0, u1, u2⟩ := box3 b5
      have B5 := Lib.hid (ext_trans al4.out b5)
      have lt5 := World.block_lt_of_cell? _ _ u0
      simp only at lt5
      have al5 := Lib.hid (ext_trans B5.out (ext_alloc w5 (.cells #[.int .i64 k1, .int .u64 (n1 : Nat), .string s1] 24)))
      have VW := Lib.hid (Blk.alloc (Blk.ext (Blk.new w4 24 #[.int .i64 k1, .int .u64 (n1 : Nat), .string s1]) b5) (.cells #[.int .i64 k1, .int .u64 (n1 : Nat), .string s1] 24))
      replace b5 := Lib.hid b5
      go_wp2_with fail
      refine (W4.out _ al5.out).mono ?_
      rintro e w6 ⟨v6, rfl, sr6, b6⟩
      have B6 := Lib.hid (ext_trans al5.out b6)
      have VW6 := Lib.hid (Blk.ext VW.out b6)
      clear u0 u1 u2 lt5 b6
      rcases PF.out with hp | hp
      · obtain ⟨J1, J2, J3⟩ := OJ.out hp
        have OA := of_any v6 _ w6 sr6 J3 (by omega)
        rw [J1] at OA
        rw [hp]
        replace OA := Lib.hid OA
        replace J1 := Lib.hid J1
        replace hp := Lib.hid hp
        obtain ⟨a6, c6, hv6, -⟩ := sr6
        generalize (putsL (L1 ++ L2)).length = len6 at *
        subst hv6
        clear J2 J3
        go_wp2_with fail
        refine OA.out.mono ?_
        rintro e w7 ⟨v7, rfl, f7, b7⟩
        have B7 := Lib.hid (ext_trans B6.out b7)
        have VW7 := Lib.hid (Blk.ext VW6.out b7)
        have O7 := Lib.hid (OF.out v7 w7 f7 (ext_trans bw4.out B7.out))
        obtain ⟨a7, c7, hv7, -⟩ := f7
        generalize (L1 ++ L2).length = len7 at *
        subst hv7
        clear b7
        go_wp2_with fail
        refine O7.out.mono ?_
        rintro e w8 ⟨rfl, b8⟩
        have B8 := Lib.hid (ext_trans B7.out b8)
        have VW8 := Lib.hid (Blk.ext VW7.out b8)
        obtain ⟨u0, u1, u2, -⟩ := VB.cells (v := ⟨k1, n1, s1⟩) VW8.out
        simp only at u0 u1 u2
        have lt8 : w4.heap.size < w8.heap.size := Blk.lt VW8.out
        have B9 := Lib.hid (ext_trans bw4.out (ext_trans B8.out (ext_alloc w8 (.cells #[.int .i64 k1, .int .u64 (n1 : Nat), .string s1] 24))))
        clear b8
        go_wp2_with fail
        refine (Aw.out _ B9.out).mono ?_
        rintro e w9 ⟨rfl, b9⟩
        go_wp2_with fail
        go_ret
        exact ⟨rfl, ext_trans B9.out b9⟩
      · rw [hp]
        obtain ⟨a6, c6, hv6, -⟩ := sr6
        generalize (putsL (L1 ++ L2)).length = len6 at *
        subst hv6
        have B6' := Lib.hid (ext_trans bw4.out B6.out)
        go_wp2_with fail
        refine (Aw.out _ B6'.out).mono ?_
        rintro e w9 ⟨rfl, b9⟩
        go_wp2_with fail
        go_ret
        exact ⟨rfl, ext_trans B6'.out b9⟩
    · have TW : ofVal (1 + b0) true (putVL (Va.mk k1 n1 s1) (1 + b0) true ++ putVL (Va.mk k2 n2 s2) (1 + b0) true) = (⟨k2, n2, s2⟩, 0) := by
        unfold ofVal
        rw [if_neg hbn]
        show ofVs (1 + b0) 7 _ v0 = _
        rw [TW0]
        show (if k2 = 0 then _ else _, (0 : Int)) = _
        rw [if_neg hk2]
      clear TW0
      have GA : ∀ f ∈ putVL (Va.mk k1 n1 s1) (1 + b0) true ++ putVL (Va.mk k2 n2 s2) (1 + b0) true, f.ok ∧ wrE f = 0 := fun f hf => (List.mem_append.1 hf).elim (G1 f) (G2 f)
      clear F1 F2 G1 G2
      generalize putVL (Va.mk k1 n1 s1) (1 + b0) true = L1 at *
      generalize putVL (Va.mk k2 n2 s2) (1 + b0) true = L2 at *
      have NA : (L1 ++ L2).length ≤ 2 := by rw [List.length_append]; omega
      have NA' : ((L1 ++ L2).length : Int) ≤ 2 := by omega
      have PF := puts_few GA NA
      have OJ := of_join (L1 ++ L2) (fun f hf => (GA f hf).1)
      have OF := Lib.hid (fun v W (hv : FdsAt W v (L1 ++ L2)) (hW : Below w.heap.size w W) => of15_any v _ (1 + b0) true W hv (ht.keep hW) (fun f hf => (GA f hf).1))
      rw [TW] at OF
      unfold OfV at OF
      have WP := Lib.hid (fun v W (hv : FdsAt W v (L1 ++ L2)) => wput_any v _ W hv GA)
      replace TW := Lib.hid TW
      have hkb : (k2 == 0) = false := by simpa using hk2
      replace hk2 := Lib.hid hk2
      replace PF := Lib.hid PF
      replace GA := Lib.hid GA
      replace OJ := Lib.hid OJ
      replace E1 := Lib.hid E1
      replace E2 := Lib.hid E2
      replace hR1 := Lib.hid hR1
      replace hR2 := Lib.hid hR2
      clear ht hbn R1 R2
      obtain ⟨j0, hj, hy0, hy1, hy2⟩ := info_parts Tryd.info48
      replace hj := Lib.hid hj
      replace hy0 := Lib.hid hy0
      replace hy1 := Lib.hid hy1
      replace hy2 := Lib.hid hy2
      simp only [Va.val] at OF
      go_enter Tryd.func5, Tryd.ntmps5
      go_wp2_with fail
      refine (P1.out _ (TK.out _ hA0.out)).mono ?_
      rintro e w1 ⟨x1, y1, z1, rfl, f1, b1⟩
      have B1 := Lib.hid (ext_trans hA0.out b1)
      have V11 := Lib.hid (Blk.ext V1.out b1)
      have V21 := Lib.hid (Blk.ext V2.out b1)
      obtain ⟨d0, d1, d2, -⟩ := VB.cells (v := ⟨k2, n2, s2⟩) V21.out
      simp only at d0 d1 d2
      replace f1 := Lib.hid f1
      clear b1
      go_wp2_with fail
      refine (P2.out _ (TK.out _ B1.out)).mono ?_
      rintro e w2 ⟨x2, y2, z2, rfl, f2, b2⟩
      have B2 := Lib.hid (ext_trans B1.out b2)
      have V12 := Lib.hid (Blk.ext V11.out b2)
      have V22 := Lib.hid (Blk.ext V21.out b2)
      have f1' := Lib.hid (f1.out.keep b2 (Nat.le_refl _))
      replace f2 := Lib.hid f2
      clear d0 d1 d2 b2
      have own0 : (w2.alloc (.cells #[] 48)).ownsRow w2.heap.size 48 4 (.slice (some ⟨w2.heap.size, 0, none⟩) 0 0) ([] : List Fd).length (fcs []) := World.ownsRow_lit w2 #[] 0 (Nat.le_refl _) (by unfold maxLen; omega) rfl
      have hA5 := f1'.out.keep (ext_alloc w2 (.cells #[] 48)) (Nat.le_refl _)
      have hB5 := Lib.hid f2.out
      have r1 : ([] : List Fd).length + L1.length ≤ 1000000 := by simp; omega
      have r2 : L1.length + L2.length ≤ 1000000 := by omega
      have z5 : w2.heap.size ≤ (w2.alloc (.cells #[] 48)).heap.size := by simp
      have G0 := Lib.hid (ext_alloc w2 (.cells #[] 48))
      go_wp2_with (first
        | (at_builtin; (refine wpList_append_fds _ rfl (.tmp 54) (.tmp 55) 25 rfl w2.heap.size 48 j0 _ Tryd.underlying25 hj.out hy0.out rfl hy1.out hy2.out _ [] L1 rfl own0 hA5 r1 z5 ?_); intro v3 w3 o3 g3; rw [List.nil_append] at o3; have g4 := fgrown_ext own0 g3 z5; have F3 := Lib.hid (G0.out.trans g4); have hB3 := hB5.out.keep F3.out (Nat.le_refl _); have z3 : w2.heap.size ≤ w3.heap.size := F3.out.size; clear own0 hA5 g3 g4)
        | (at_builtin; go_must (((refine wpList_append_fds _ rfl (.tmp 56) (.tmp 57) 25 rfl w2.heap.size 48 j0 _ Tryd.underlying25 hj.out hy0.out rfl hy1.out hy2.out v3 L1 L2 rfl o3 hB3 r2 z3 ?_); intro v4 w4 o4 g4; have F4 := Lib.hid (F3.out.trans (fgrown_ext o3 g4 z3)); clear o3 hB3 g4; have q4 := VB.cells (v := ⟨k2, n2, s2⟩) (Blk.ext V22.out F4.out); have q5 := VB.cells (v := ⟨k1, n1, s1⟩) (Blk.ext V12.out F4.out); (obtain ⟨t0, t1, t2, -⟩ := q4); (obtain ⟨s0', s1', s2', -⟩ := q5); (try simp only at t0 t1 t2 s0' s1' s2'); have lt0 : w.heap.size < w4.heap.size := Blk.lt (Blk.ext V12.out F4.out); have lt1 : w.heap.size + 1 < w4.heap.size := Blk.lt (Blk.ext V22.out F4.out)))))
      have F5 := FdsAt.of_own o4 (by omega)
      have bw4 := Lib.hid (B2.out.trans (F4.out.mono B2.out.size))
      have O4 := Lib.hid (fun W (hW : Below w4.heap.size w4 W) => OF.out v4 W (F5.keep hW (Nat.le_refl _)) (ext_trans bw4.out hW))
      have W4 := Lib.hid (fun W (hW : Below w4.heap.size w4 W) => WP.out v4 W (F5.keep hW (Nat.le_refl _)))
      have al4 := Lib.hid (ext_alloc w4 (.cells #[.int .i64 k2, .int .u64 (n2 : Nat), .string s2] 24))
      clear F5 o4 t0 t1 t2 s0' s1' s2'
      refine (O4.out _ al4.out).mono ?_
      rintro e w5 ⟨rfl, b5⟩
      obtain ⟨u0, u1, u2⟩ := box3 b5
      have B5 := Lib.hid (ext_trans al4.out b5)
      have lt5 := World.block_lt_of_cell? _ _ u0
      simp only at lt5
      have al5 := Lib.hid (ext_trans B5.out (ext_alloc w5 (.cells #[.int .i64 k2, .int .u64 (n2 : Nat), .string s2] 24)))
      have VW := Lib.hid (Blk.alloc (Blk.ext (Blk.new w4 24 #[.int .i64 k2, .int .u64 (n2 : Nat), .string s2]) b5) (.cells #[.int .i64 k2, .int .u64 (n2 : Nat), .string s2] 24))
      replace b5 := Lib.hid b5
      go_wp2_with fail
      refine (W4.out _ al5.out).mono ?_
      rintro e w6 ⟨v6, rfl, sr6, b6⟩
      have B6 := Lib.hid (ext_trans al5.out b6)
      have VW6 := Lib.hid (Blk.ext VW.out b6)
      clear u0 u1 u2 lt5 b6
      rcases PF.out with hp | hp
      · obtain ⟨J1, J2, J3⟩ := OJ.out hp
        have OA := of_any v6 _ w6 sr6 J3 (by omega)
        rw [J1] at OA
        rw [hp]
        replace OA := Lib.hid OA
        replace J1 := Lib.hid J1
        replace hp := Lib.hid hp
        obtain ⟨a6, c6, hv6, -⟩ := sr6
        generalize (putsL (L1 ++ L2)).length = len6 at *
        subst hv6
        clear J2 J3
        go_wp2_with fail
        refine OA.out.mono ?_
        rintro e w7 ⟨v7, rfl, f7, b7⟩
        have B7 := Lib.hid (ext_trans B6.out b7)
        have VW7 := Lib.hid (Blk.ext VW6.out b7)
        have O7 := Lib.hid (OF.out v7 w7 f7 (ext_trans bw4.out B7.out))
        obtain ⟨a7, c7, hv7, -⟩ := f7
        generalize (L1 ++ L2).length = len7 at *
        subst hv7
        clear b7
        go_wp2_with fail
        refine O7.out.mono ?_
        rintro e w8 ⟨rfl, b8⟩
        have B8 := Lib.hid (ext_trans B7.out b8)
        have VW8 := Lib.hid (Blk.ext VW7.out b8)
        obtain ⟨u0, u1, u2, -⟩ := VB.cells (v := ⟨k2, n2, s2⟩) VW8.out
        simp only at u0 u1 u2
        have lt8 : w4.heap.size < w8.heap.size := Blk.lt VW8.out
        have B9 := Lib.hid (ext_trans bw4.out (ext_trans B8.out (ext_alloc w8 (.cells #[.int .i64 k2, .int .u64 (n2 : Nat), .string s2] 24))))
        clear b8
        go_wp2_with fail
        refine (Aw.out _ B9.out).mono ?_
        rintro e w9 ⟨rfl, b9⟩
        go_wp2_with fail
        go_ret
        exact ⟨rfl, ext_trans B9.out b9⟩
      · rw [hp]
        obtain ⟨a6, c6, hv6, -⟩ := sr6
        generalize (putsL (L1 ++ L2)).length = len6 at *
        subst hv6
        have B6' := Lib.hid (ext_trans bw4.out B6.out)
        go_wp2_with fail
        refine (Aw.out _ B6'.out).mono ?_
        rintro e w9 ⟨rfl, b9⟩
        go_wp2_with fail
        go_ret
        exact ⟨rfl, ext_trans B6'.out b9⟩
  · have hR' : rightE (Va.mk k1 n1 s1) ≠ 0 ∨ (rightE (Va.mk k1 n1 s1) = 0 ∧ rightE (Va.mk k2 n2 s2) ≠ 0) := by
      by_cases h : rightE (Va.mk k1 n1 s1) = 0
      · exact .inr ⟨h, fun h2 => hR ⟨h, h2⟩⟩
      · exact .inl h
    clear TW F1 F2 hR
    generalize rightE (Va.mk k1 n1 s1) = e1 at *
    generalize rightE (Va.mk k2 n2 s2) = e2 at *
    generalize putVL (Va.mk k1 n1 s1) (1 + b0) true = L1 at *
    generalize putVL (Va.mk k2 n2 s2) (1 + b0) true = L2 at *
    replace E1 := Lib.hid E1
    replace E2 := Lib.hid E2
    clear ht hbn
    rcases hR' with h | ⟨rfl, h⟩
    · have hd : (e1 != 0) = true := by simpa using h
      replace h := Lib.hid h
      go_enter Tryd.func5, Tryd.ntmps5
      go_wp2_with fail
      refine (P1.out _ (TK.out _ hA0.out)).mono ?_
      rintro e w1 ⟨x1, y1, z1, rfl, -, b1⟩
      have B1 := Lib.hid (ext_trans hA0.out b1)
      have V11 := Lib.hid (Blk.ext V1.out b1)
      have V21 := Lib.hid (Blk.ext V2.out b1)
      obtain ⟨c0, c1, c2, -⟩ := VB.cells (v := ⟨k1, n1, s1⟩) V11.out
      obtain ⟨d0, d1, d2, -⟩ := VB.cells (v := ⟨k2, n2, s2⟩) V21.out
      simp only at c0 c1 c2 d0 d1 d2
      clear b1
      go_wp2_with fail
      refine (P2.out _ (TK.out _ B1.out)).mono ?_
      rintro e w2 ⟨x2, y2, z2, rfl, -, b2⟩
      have B2 := Lib.hid (ext_trans B1.out b2)
      have V12 := Lib.hid (Blk.ext V11.out b2)
      clear c0 c1 c2 d0 d1 d2 b2
      obtain ⟨c0, c1, c2, -⟩ := VB.cells (v := ⟨k1, n1, s1⟩) V12.out
      simp only at c0 c1 c2
      go_wp2_with fail
      refine (R1.out _ (TK.out _ B2.out)).mono ?_
      rintro e w3 ⟨rfl, b3⟩
      have B3 := Lib.hid (ext_trans B2.out b3)
      clear c0 c1 c2 b3
      go_wp2_with fail
      refine (Aw.out _ B3.out).mono ?_
      rintro e w4 ⟨rfl, b4⟩
      go_wp2_with fail
      go_ret
      exact ⟨rfl, ext_trans B3.out b4⟩
    · have hd : (e2 != 0) = true := by simpa using h
      replace h := Lib.hid h
      go_enter Tryd.func5, Tryd.ntmps5
      go_wp2_with fail
      refine (P1.out _ (TK.out _ hA0.out)).mono ?_
      rintro e w1 ⟨x1, y1, z1, rfl, -, b1⟩
      have B1 := Lib.hid (ext_trans hA0.out b1)
      have V11 := Lib.hid (Blk.ext V1.out b1)
      have V21 := Lib.hid (Blk.ext V2.out b1)
      obtain ⟨d0, d1, d2, -⟩ := VB.cells (v := ⟨k2, n2, s2⟩) V21.out
      simp only at d0 d1 d2
      clear b1
      go_wp2_with fail
      refine (P2.out _ (TK.out _ B1.out)).mono ?_
      rintro e w2 ⟨x2, y2, z2, rfl, -, b2⟩
      have B2 := Lib.hid (ext_trans B1.out b2)
      have V12 := Lib.hid (Blk.ext V11.out b2)
      have V22 := Lib.hid (Blk.ext V21.out b2)
      clear d0 d1 d2 b2
      obtain ⟨c0, c1, c2, -⟩ := VB.cells (v := ⟨k1, n1, s1⟩) V12.out
      simp only at c0 c1 c2
      go_wp2_with fail
      refine (R1.out _ (TK.out _ B2.out)).mono ?_
      rintro e w3 ⟨rfl, b3⟩
      have B3 := Lib.hid (ext_trans B2.out b3)
      have V23 := Lib.hid (Blk.ext V22.out b3)
      clear c0 c1 c2 b3
      obtain ⟨d0, d1, d2, -⟩ := VB.cells (v := ⟨k2, n2, s2⟩) V23.out
      simp only at d0 d1 d2
      go_wp2_with fail
      refine (R2.out _ (TK.out _ B3.out)).mono ?_
      rintro e w4 ⟨rfl, b4⟩
      have B4 := Lib.hid (ext_trans B3.out b4)
      clear d0 d1 d2 b4
      go_wp2_with fail
      refine (Aw.out _ B4.out).mono ?_
      rintro e w5 ⟨rfl, b5⟩
      go_wp2_with fail
      go_ret
      exact ⟨rfl, ext_trans B4.out b5⟩

theorem contract (F : Stop.Interp) (H : Type) (enc : TypeId × Value → H) (W : World) (base : Nat) (args : Array Value) (ds gs : List (DataW H)) (before : List MemPlace)
    (hval : ∀ (j : Nat) t v, Tryd.f5.params[j]? = some t → args[j]? = some v → Value.okWide Tryd.prog W .any base t v)
    (hW : DataW.Whole enc Tryd.prog Tryd.f5.params.toList Rows.valueBackSpec.vars false W args.toList ds gs before)
    
    (hsz : (DataW.weightsEach Tryd.prog (Tryd.f5.params.toList ++ (OpenSpec.ofChange Rows.valueBackSpec).bare.plain.varTypes Tryd.prog) (ds ++ gs)).all (· ≤ reachBytes) = true) (hL : laidMetH Tryd.prog Rows.valueBackRow.laid W) :
    Calls Tryd.prog 5 args W fun e W' => ∃ v, e = .returned v ∧ ((OpenSpec.ofChange Rows.valueBackSpec).at F).post enc Tryd.prog Tryd.f5 false true false false W args v W' := by
  have hW' := hW
  obtain ⟨p, q, hA0, hV, rfl, hfz, hnd⟩ := hW
  have hA : DataW.TrodAll enc Tryd.prog W 0 (fun _ => true) true Tryd.f5.params.toList args.toList ds p := hA0
  rw [Tryd.params5] at hA hval hsz
  obtain ⟨v0, vs0, d0, ds0, p0, q0, hargs, rfl, rfl, h0, r0⟩ := trodAll_cons hA
  obtain ⟨v1, vs1, d1, ds1, p1, q1, rfl, rfl, rfl, h1, r1⟩ := trodAll_cons r0
  obtain ⟨v2, vs2, d2, ds2, p2, q2, rfl, rfl, rfl, h2, r2⟩ := trodAll_cons r1
  obtain ⟨rfl, rfl, rfl⟩ := trodAll_nil r2
  obtain rfl : args = #[v0, v1, v2] := by cases args; simp_all
  obtain ⟨rfl, rfl⟩ := trodVars_none hV
  have k0 := h0
  have lt0 : ∀ x ∈ p0, x.block < W.heap.size := by obtain ⟨m, hm⟩ := k0; exact DataW.trod_lt m _ _ _ hm
  have k1 := h1
  have lt1 : ∀ x ∈ p1, x.block < W.heap.size := by obtain ⟨m, hm⟩ := k1; exact DataW.trod_lt m _ _ _ hm
  have k2 := h2
  have lt2 : ∀ x ∈ p2, x.block < W.heap.size := by obtain ⟨m, hm⟩ := k2; exact DataW.trod_lt m _ _ _ hm
  obtain ⟨x0_0, x0_1, x0_2, y0_0, y0_1, y0_2, n0, rfl, rfl, rfl, t0_0, t0_1, t0_2⟩ := Joins.open_agg3 Tryd.underlying24 (by kernel_rfl) (by kernel_rfl) (hval 0 24 _ rfl rfl) h0
  obtain ⟨a0_0, q0_0, z0_0, w0_0⟩ := DataW.trod_int Tryd.underlying3 t0_0
  obtain rfl : x0_0 = .int .i64 a0_0 := by simpa using q0_0
  have b0_0 := wf_i64 w0_0
  obtain ⟨a0_1, q0_1, z0_1, w0_1⟩ := DataW.trod_int Tryd.underlying22 t0_1
  obtain rfl : x0_1 = .int .u64 a0_1 := by simpa using q0_1
  have b0_1 := wf_u64 w0_1
  obtain ⟨a0_2, q0_2, z0_2, w0_2⟩ := DataW.trod_string Tryd.underlying9 t0_2
  obtain rfl : x0_2 = .string a0_2 := by simpa using q0_2
  have s0_2 : a0_2.size ≤ 140737488351232 := by
    have hm := List.all_eq_true.1 hsz a0_2.data.toList.length (DataW.weights_mem_each (j := 0) (t := 24) rfl rfl _ (by rw [z0_2]; simp [DataW.weights, Tryd.underlying24, DataW.weightsEach]))
    simp only [Array.length_toList, reachBytes] at hm
    exact of_decide_eq_true hm
  obtain ⟨x1_0, x1_1, x1_2, y1_0, y1_1, y1_2, n1, rfl, rfl, rfl, t1_0, t1_1, t1_2⟩ := Joins.open_agg3 Tryd.underlying24 (by kernel_rfl) (by kernel_rfl) (hval 1 24 _ rfl rfl) h1
  obtain ⟨a1_0, q1_0, z1_0, w1_0⟩ := DataW.trod_int Tryd.underlying3 t1_0
  obtain rfl : x1_0 = .int .i64 a1_0 := by simpa using q1_0
  have b1_0 := wf_i64 w1_0
  obtain ⟨a1_1, q1_1, z1_1, w1_1⟩ := DataW.trod_int Tryd.underlying22 t1_1
  obtain rfl : x1_1 = .int .u64 a1_1 := by simpa using q1_1
  have b1_1 := wf_u64 w1_1
  obtain ⟨a1_2, q1_2, z1_2, w1_2⟩ := DataW.trod_string Tryd.underlying9 t1_2
  obtain rfl : x1_2 = .string a1_2 := by simpa using q1_2
  have s1_2 : a1_2.size ≤ 140737488351232 := by
    have hm := List.all_eq_true.1 hsz a1_2.data.toList.length (DataW.weights_mem_each (j := 1) (t := 24) rfl rfl _ (by rw [z1_2]; simp [DataW.weights, Tryd.underlying24, DataW.weightsEach]))
    simp only [Array.length_toList, reachBytes] at hm
    exact of_decide_eq_true hm
  obtain ⟨a2, rfl, rfl, rfl, w2⟩ := open_int Tryd.underlying5 (hval 2 5 v2 rfl rfl) h2
  have b2 := wf_u8 w2
  clear hA0
  refine (walk a0_0 a0_1 a0_2 a1_0 a1_1 a1_2 a2 W (tabs_of hL) b0_0 b0_1 s0_2 b1_0 b1_1 s1_2 b2).mono fun e W' ⟨he, bel⟩ => ?_
  subst he
  exact ⟨_, rfl, _, _, _, [], _, [], hW', trodAll_mk1 (shut_bool Tryd.underlying4 _), (trodAll_cons_mk (Below.trod laidOut (by kernel_rfl) (of_decide_eq_true (by kernel_rfl)) k0 bel lt0) (trodAll_cons_mk (Below.trod laidOut (by kernel_rfl) (of_decide_eq_true (by kernel_rfl)) k1 bel lt1) (trodAll_cons_mk (Below.trod laidOut (by kernel_rfl) (of_decide_eq_true (by kernel_rfl)) k2 bel lt2) trodAll_mk0))), rfl, bel.frame _, fun h => by cases h⟩

/-- A world for the witness: the settled one, the tables holding what their initialisers lay. -/
noncomputable def laidWorld (os : Os) : World :=
  { World.holding Tryd.prog os ⟨#[], #[], []⟩ with heap := (((World.holding Tryd.prog os ⟨#[], #[], []⟩).heap.modify 0 (fun
      | .cells _ t frozen => .cells #[.int .i64 0, .int .i64 0, .int .i64 0, .int .i64 5, .int .i64 1, .int .i64 0, .int .i64 2, .int .i64 2] t frozen
      | o => o)).modify 1 (fun
      | .cells _ t frozen => .cells #[.int .u64 18446744073709551615, .int .u64 4294967295, .int .u64 18446744073709551615, .int .u64 4294967295, .int .u64 18446744073709551615, .int .u64 1, .int .u64 18446744073709551615, .int .u64 18446744073709551615] t frozen
      | o => o)) }
theorem laid_met (os : Os) : laidMet Tryd.prog Rows.valueBackRow.laid ((laidWorld os).forCall (fun _ _ => 0) ⟨#[], #[.agg #[.int .i64 0, .int .u64 0, .string ByteArray.empty], .agg #[.int .i64 0, .int .u64 0, .string ByteArray.empty], .int .u8 0], []⟩).memory :=
  laidMet_of_run' 8 (by kernel_rfl) (by kernel_rfl)
theorem reads (os : Os) {H : Type} (enc : TypeId × Value → H) : ∃ places, DataW.whole enc Tryd.prog ((laidWorld os).forCall (fun _ _ => 0) ⟨#[], #[.agg #[.int .i64 0, .int .u64 0, .string ByteArray.empty], .agg #[.int .i64 0, .int .u64 0, .string ByteArray.empty], .int .u8 0], []⟩).memory Tryd.f5.params.toList Rows.valueBackSpec.vars false #[Value.agg #[.int .i64 0, .int .u64 0, .string ByteArray.empty], .agg #[.int .i64 0, .int .u64 0, .string ByteArray.empty], .int .u8 0].toList 8 = some ([.agg [.lit (.int .i64 0), .lit (.int .u64 0), .lit (.string [])], .agg [.lit (.int .i64 0), .lit (.int .u64 0), .lit (.string [])], .lit (.int .u8 0)], [], places) :=
  ⟨[], by kernel_rfl⟩

set_option maxRecDepth 100000 in
theorem lifted (os : Os) (started : os.Started) (H : Type) (enc : TypeId × Value → H) (F : Stop.Interp) :
    ReturnsInHanded {} Tryd.checked os 5 .any ((OpenSpec.ofChange Rows.valueBackSpec).preRow enc Tryd.prog Tryd.f5 Rows.valueBackRow.domain false Rows.valueBackRow.laid) (((OpenSpec.ofChange Rows.valueBackSpec).at F).post enc Tryd.prog Tryd.f5 false true false false) := by
  obtain ⟨places, hx⟩ := reads os enc
  refine returnsInHanded_of_row (C := Tryd.checked) (s := (OpenSpec.ofChange Rows.valueBackSpec)) own started (by kernel_rfl) Tryd.func5
    (witness_row_at (enc := enc) (C := Tryd.checked) false (laidWorld os) #[.agg #[.int .i64 0, .int .u64 0, .string ByteArray.empty], .agg #[.int .i64 0, .int .u64 0, .string ByteArray.empty], .int .u8 0] rfl (by kernel_rfl) (by kernel_rfl) (by kernel_rfl)
      (OpenSpec.preRow_of_cond 8 hx (by kernel_rfl) (fun k hk => by cases hk) (by kernel_rfl) (laid_met os))) ?_
  intro W base args ds gs before hval hW _ hcnd hsz hL _ _
  exact contract F H enc W base args ds gs before hval hW  hsz hL

theorem said : Rows.ValueBackSaid :=
  OpenClaim.holds_of_cond 5 Tryd.f5 rfl rfl rfl rfl rfl rfl rfl ⟨rfl, rfl, rfl, rfl, rfl⟩ rfl rfl rfl rfl rfl (by kernel_rfl) Tryd.func5 (by kernel_rfl)
    (of_decide_eq_true (by kernel_rfl)) (by unfold Func.isWrapper; first | (rw [if_pos (by decide +kernel)]; kernel_rfl) | (rw [if_neg (by decide +kernel)]; exact ⟨rfl, rfl⟩))
    (fun os started H enc _ F => by rw [OpenClaim.pre_eq_preRow]; exact lifted os started H enc F)

theorem plain (f : FuncId) (fn : Func) (hf : Tryd.pinned.checked.prog.funcNamed "crier/crierlaw05.ValueBack" = some f) (hfn : Tryd.pinned.checked.prog.funcs[f]? = some fn) :
    false = Tryd.pinned.checked.prog.looks [] ∧ ∀ (j : Nat) t, fn.params[j]? = some t → Tryd.pinned.checked.prog.wantsStandIn t = false := by
  obtain rfl : f = 5 := Option.some.inj ((show Tryd.prog.funcNamed "crier/crierlaw05.ValueBack" = some 5 by kernel_rfl).symm.trans hf) |>.symm
  obtain rfl : fn = Tryd.f5 := (Option.some.inj (Tryd.func5.symm.trans hfn)).symm
  refine ⟨by kernel_rfl, fun j t ht => ?_⟩
  rw [Tryd.params5] at ht
  have : t = 5 ∨ t = 24 := by have := Array.mem_of_getElem? ht; simp at this; first | exact this | omega | grind
  rcases this with rfl | rfl
  · exact (show Tryd.prog.wantsStandIn 5 = false by kernel_rfl)
  · exact (show Tryd.prog.wantsStandIn 24 = false by kernel_rfl)

/-- THE CARD. -/
theorem proved : Rows.ValueBackCardSaid :=
  Claim7.holds_tied_plain_at .later [] _ _ _ _ said (fun _ h => by cases h) (by kernel_rfl) (fun _ h => by cases h) valueBack_row_tie rfl ⟨rfl, rfl⟩ (by kernel_rfl) rfl plain (by kernel_rfl)
end Go.Proofs.YtoglgdkeknojkaaDoor.valueBack
