/-
  WireGroups: FOR EVERY INPUT the law returns true and leaves its arguments as they were.
-/
import Derived.Test.YtgegphmfdcninaaWo
import Derived.Test.YtgegphmfdcninaaWu
import Derived.Test.YtgegphmfdcninaaRows
import Derived.WalkKit
import Derived.ProofKit
import Derived.OpenShut
import Derived.ShutString
import Derived.ChangeOld
import Derived.Below
import Derived.SizedLaws
import Derived.Lib.SmallJoins
namespace Go.Proofs.Ytgegphmfdcninaa.wireGroups
open Go.ChangeShapes Go.WideShapes Go.ChangeAt Go.RowKit
open Go.ChangeMaps (open_string shut_string)
set_option linter.unusedVariables false

theorem own : ownKnob Try.prog.godebug = none := by kernel_rfl
theorem laidOut : laidOutB Try.prog = true := by kernel_rfl

set_option maxHeartbeats 4000000 in
set_option maxRecDepth 100000 in
theorem walk (a0 : Option Addr) (len0 cap0 : Nat) (A : List Fd) (a1 : Option Addr) (len1 cap1 : Nat) (B : List Fd) (m d : Int) (w : World) (hs0 : FdsAt w (.slice a0 len0 cap0) A) (hok0 : ∀ f ∈ A, f.ok) (hs1 : FdsAt w (.slice a1 len1 cap1) B) (hok1 : ∀ f ∈ B, f.ok) (bm : 0 ≤ m ∧ m ≤ 65535) (bd : 0 ≤ d ∧ d ≤ 255) :
    Calls Try.prog 6 #[.slice a0 len0 cap0, .slice a1 len1 cap1, .int .u16 m, .int .u8 d] w (Yes w) := by
  obtain ⟨i0, hi, hz0, hz1, hz2⟩ := info_parts Try.info5
  replace hi := Lib.hid hi
  replace hz0 := Lib.hid hz0
  replace hz1 := Lib.hid hz1
  replace hz2 := Lib.hid hz2
  obtain ⟨j0, hj, hy0, hy1, hy2⟩ := info_parts Try.info39
  replace hj := Lib.hid hj
  replace hy0 := Lib.hid hy0
  replace hy1 := Lib.hid hy1
  replace hy2 := Lib.hid hy2
  obtain rfl : len0 = A.length := by
    obtain ⟨a', c', hv, -⟩ := hs0
    simp only [Value.slice.injEq] at hv
    exact hv.2.1
  obtain rfl : len1 = B.length := by
    obtain ⟨a', c', hv, -⟩ := hs1
    simp only [Value.slice.injEq] at hv
    exact hv.2.1
  obtain ⟨m, rfl⟩ := Int.eq_ofNat_of_zero_le bm.1
  obtain ⟨d, rfl⟩ := Int.eq_ofNat_of_zero_le bd.1
  have P := Lib.hid (puts3 _ A w hs0 hok0).1
  have R := Lib.hid fun w' (hb : Below w.heap.size w w') => (puts3 _ B w' (hs1.keep hb (Nat.le_refl _)) hok1).1
  obtain ⟨N1, hN⟩ : ∃ N, N = m % 2000 := ⟨_, rfl⟩
  obtain ⟨K, hK⟩ : ∃ K, K = d % 10 := ⟨_, rfl⟩
  have hN1 : N1 ≤ 1999 := by omega
  have hK1 : K ≤ 9 := by omega
  have qN : (m : Int) % 2000 = (N1 : Int) := by omega
  have qK : (d : Int) % 10 = (K : Int) := by omega
  have bN : (N1 : Int) ≤ 1999 := by omega
  have bK : (K : Int) ≤ 9 := by omega
  have hm' : (m : Int) ≤ 65535 := bm.2
  have hd' : (d : Int) ≤ 255 := bd.2
  clear bm bd
  replace hs0 := Lib.hid hs0
  replace hs1 := Lib.hid hs1
  replace hN := Lib.hid hN
  replace hK := Lib.hid hK
  have hE0 : ∃ E, E = putsE A := ⟨_, rfl⟩
  obtain ⟨E0, hE0⟩ := hE0
  have hE1 : ∃ E, E = putsE B := ⟨_, rfl⟩
  obtain ⟨E1, hE1⟩ := hE1
  have hx : ∃ x, x = putsL A := ⟨_, rfl⟩
  obtain ⟨x, hx⟩ := hx
  have hy : ∃ x, x = putsL B := ⟨_, rfl⟩
  obtain ⟨y, hy⟩ := hy
  rw [← hE0, ← hx] at P
  rw [← hE1, ← hy] at R
  replace hE0 := Lib.hid hE0
  replace hE1 := Lib.hid hE1
  replace hx := Lib.hid hx
  replace hy := Lib.hid hy
  replace hok0 := Lib.hid hok0
  replace hok1 := Lib.hid hok1
  by_cases e0 : E0 = 0
  · by_cases e1 : E1 = 0
    · subst e0 e1
      obtain ⟨X0, x4, xlt⟩ := of_join A hok0.out hE0.out.symm
      obtain ⟨Y0, y4, ylt⟩ := of_join B hok1.out hE1.out.symm
      have hA6 : A.length ≤ 256 := by have := ofR_le (putsL A); rw [X0] at this; exact this
      have hB6 : B.length ≤ 256 := by have := ofR_le (putsL B); rw [Y0] at this; exact this
      have wA := puts_all hok0.out hE0.out.symm
      have wB := puts_all hok1.out hE1.out.symm
      have jx : x = joinL A := by rw [hx.out]; unfold putsL; rw [if_pos hE0.out.symm]
      have jy : y = joinL B := by rw [hy.out]; unfold putsL; rw [if_pos hE1.out.symm]
      rw [← hx.out] at x4 xlt
      rw [← hy.out] at y4 ylt
      clear X0 Y0 hok0 hok1
      have hA6' : (A.length : Int) ≤ 256 := by omega
      have hB6' : (B.length : Int) ≤ 256 := by omega
      have x4' : (x.length : Int) ≤ 4096 := by omega
      have y4' : (y.length : Int) ≤ 4096 := by omega
      replace jx := Lib.hid jx
      replace jy := Lib.hid jy
      replace wA := Lib.hid wA
      replace wB := Lib.hid wB
      replace xlt := Lib.hid xlt
      replace ylt := Lib.hid ylt
      go_enter Try.func6, Try.ntmps6
      go_wp2_with fail
      refine (P.out).mono ?_
      rintro e w1 ⟨v1, rfl, s1, b1⟩
      replace s1 := Lib.hid s1
      obtain ⟨p1, c1, rfl, -⟩ := s1.out
      replace b1 := Lib.hid b1
      go_wp2_with fail
      refine (R.out _ b1.out).mono ?_
      rintro e w2 ⟨v2, rfl, s2, b2⟩
      have s1' := Lib.hid (s1.out.keep b2 (Nat.le_refl _))
      replace s2 := Lib.hid s2
      obtain ⟨p2, c2, rfl, -⟩ := s2.out
      have B2 := Lib.hid (ext_trans b1.out b2)
      clear b2 s1 P R
      by_cases hg1 : A.length + B.length ≤ 256
      · by_cases hg2 : x.length + y.length + y.length + 60 ≤ 4096
        · have hg1' : (A.length : Int) + B.length ≤ 256 := by omega
          have hg2' : (x.length : Int) + y.length + y.length + 60 ≤ 4096 := by omega
          have own0 : (w2.alloc (.cells #[] 5)).ownsRow w2.heap.size 5 1 (.slice (some ⟨w2.heap.size, 0, none⟩) 0 0) ([] : List Nat).length (bl []) := World.ownsRow_lit w2 #[] 0 (Nat.le_refl _) (by unfold maxLen; omega) rfl
          have hA := (s1'.out.keep (ext_alloc w2 (.cells #[] 5)) (Nat.le_refl _)).bytes
          have hq : ([] : List Nat).length + x.length ≤ 140737488355328 := by simp; omega
          have z2 : w2.heap.size ≤ (w2.alloc (.cells #[] 5)).heap.size := by simp
          have F0 := Lib.hid (ext_alloc w2 (.cells #[] 5))
          replace hg1 := Lib.hid hg1
          obtain ⟨O, hO⟩ : ∃ O, O = putL 9 (8 * (1 + N1) + 3) := ⟨_, rfl⟩
          obtain ⟨C, hC⟩ : ∃ C, C = putL 9 (8 * (1 + N1) + 4) := ⟨_, rfl⟩
          have hO2 := Lib.hid (show O.length ≤ 2 by rw [hO]; exact putL_two _ (by omega))
          have hC2 := Lib.hid (show C.length ≤ 2 by rw [hC]; exact putL_two _ (by omega))
          have TO : ∀ w', Calls Try.prog 18 #[.int .u64 (8 * (1 + (N1 : Int)) + 3)] w' (Bs O w') := fun w' => by
            have := bs_rput (8 * (1 + N1) + 3) w' (by omega)
            rw [show ((8 * (1 + N1) + 3 : Nat) : Int) = 8 * (1 + (N1 : Int)) + 3 by omega, ← hO] at this
            exact this
          have TC : ∀ w', Calls Try.prog 18 #[.int .u64 (8 * (1 + (N1 : Int)) + 4)] w' (Bs C w') := fun w' => by
            have := bs_rput (8 * (1 + N1) + 4) w' (by omega)
            rw [show ((8 * (1 + N1) + 4 : Nat) : Int) = 8 * (1 + (N1 : Int)) + 4 by omega, ← hC] at this
            exact this
          replace TO := Lib.hid TO
          replace TC := Lib.hid TC
          replace hO := Lib.hid hO
          replace hC := Lib.hid hC
          go_wp2_with (at_builtin; (refine wpList_append_bytes _ rfl (.tmp 64) (.tmp 65) 23 rfl w2.heap.size 5 i0 Try.underlying23 hi.out hz0.out hz1.out hz2.out _ [] x rfl own0 hA hq z2 ?_); intro v3 w3 o3 g3 n3; clear n3; rw [List.nil_append] at o3; have F3 := Lib.hid (F0.out.trans (grown_ext own0 g3 z2)); clear own0 hA g3)
          rcases (show K = 0 ∨ (0 < K ∧ K ≤ 8) ∨ K = 9 by omega) with hk | hk | hk
          · have hKv := Lib.hid (show K ≤ 8 by omega)
            have hKp := Lib.hid (show ¬ 0 < K by omega)
            have hKi : (K : Int) = 0 := by omega
            clear hk
            go_loopw [15, 16] (fun o i wr => ∃ j : Nat, i = .int .i64 j ∧ j ≤ K ∧ wr.ownsRow w2.heap.size 5 1 o (x ++ rep O j).length (bl (x ++ rep O j)) ∧ Below w2.heap.size w2 wr) (fun _ i _ => K - (intOf i).toNat)
            case atStart => exact ⟨0, rfl, by omega, by simpa [rep] using o3, F3.out⟩
            case round =>
              obtain ⟨j, rfl, hj', own1, hb1⟩ := hrel
              have zr := hb1.size
              replace hb1 := Lib.hid hb1
              by_cases hend : j = K
              · have hend' : (j : Int) = K := by omega
                replace hend := Lib.hid hend
                obtain ⟨L1, gL1⟩ : ∃ z, z = x ++ rep O K := ⟨_, rfl⟩
                rw [hend.out, ← gL1] at own1
                have hL1 : L1.length ≤ 4120 := by rw [gL1, List.length_append, rep_length]; have := Nat.mul_le_mul hK1 hO2.out; omega
                replace gL1 := Lib.hid gL1
                have hy1w := (s2.out.keep hb1.out (Nat.le_refl _)).bytes
                have q1 : L1.length + y.length ≤ 140737488355328 := by omega
                obtain ⟨p3, c3, rfl⟩ := own_slice own1
                go_wp2
                rename World => w0
                have gL2 : L1 = x ++ rep O K ++ (if 0 < K then y else []) := by rw [gL1.out, if_neg (by omega), List.append_nil]
                have hL2 : L1.length ≤ 8900 := by omega
                have O2 := Lib.hid own1
                have H2 := hb1
                replace gL2 := Lib.hid gL2
                go_loopw [15, 17] (fun o i wr => ∃ j : Nat, i = .int .i64 j ∧ j ≤ K ∧ wr.ownsRow w2.heap.size 5 1 o (L1 ++ rep C j).length (bl (L1 ++ rep C j)) ∧ Below w2.heap.size w2 wr) (fun _ i _ => K - (intOf i).toNat)
                case atStart => exact ⟨0, rfl, by omega, by simpa [rep] using O2.out, H2.out⟩
                case round =>
                  obtain ⟨j, rfl, hj', own2, hb2⟩ := hrel
                  have zr := hb2.size
                  replace hb2 := Lib.hid hb2
                  by_cases hend : j = K
                  · have hend' : (j : Int) = K := by omega
                    replace hend := Lib.hid hend
                    obtain ⟨L3, gL3⟩ : ∃ z, z = L1 ++ rep C K := ⟨_, rfl⟩
                    rw [hend.out, ← gL3] at own2
                    have hL3 : L3.length ≤ 9000 := by rw [gL3, List.length_append, rep_length]; have := Nat.mul_le_mul hK1 hC2.out; omega
                    replace gL3 := Lib.hid gL3
                    have hyw := (s2.out.keep hb2.out (Nat.le_refl _)).bytes
                    have q3 : L3.length + y.length ≤ 140737488355328 := by omega
                    obtain ⟨p3, c3, rfl⟩ := own_slice own2
                    go_wp2_with (at_builtin; (refine wpList_append_bytes _ rfl (.tmp 96) (.tmp 97) 23 rfl w2.heap.size 5 i0 Try.underlying23 hi.out hz0.out hz1.out hz2.out _ L3 y rfl own2 hyw q3 zr ?_); intro v5 w5 o5 g5 n5; clear n5; have F5 := Lib.hid (hb2.out.trans (grown_ext own2 g5 zr)); clear own2 hyw g5)
                    obtain ⟨L5, gL5⟩ : ∃ z, z = L3 ++ y := ⟨_, rfl⟩
                    rw [← gL5] at o5
                    have gL5 := Lib.hid (show L5 = grp x y (1 + N1) K by rw [gL5, gL3.out, gL2.out, hO.out, hC.out]; unfold grp; simp [hKp.out])
                    have hM : L5 = grp x y (1 + N1) K := gL5.out
                    have hMl : L5.length ≤ 4096 := by rw [hM]; have := grp_le x y (1 + N1) K (by omega) (by omega) hK1; omega
                    have hMlt : ∀ u ∈ L5, u < 256 := by rw [hM]; exact grp_lt x y (1 + N1) K xlt.out ylt.out (by omega)
                    have hR : ofR L5 = (A ++ B, 0) := by
                      rw [hM, jx.out, jy.out]
                      have h4 := hMl
                      rw [hM, jx.out, jy.out] at h4
                      exact of_groups A B (1 + N1) K wA.out wB.out (by omega) (by omega) hKv.out (by have := hg1.out; omega) h4
                    replace hM := Lib.hid hM
                    replace hR := Lib.hid hR
                    replace hMlt := Lib.hid hMlt
                    refine (of_any v5 L5 w5 (Src.of_own o5) hMlt.out (by omega)).mono ?_
                    rw [hR.out]
                    obtain ⟨f3, hf3⟩ : ∃ f3, f3 = A ++ B := ⟨_, rfl⟩
                    rw [← hf3]
                    have hf3l : (f3.length : Int) ≤ 256 := by rw [hf3, List.length_append]; omega
                    have hf3n : f3.length ≤ 256 := by omega
                    replace hf3 := Lib.hid hf3
                    rintro e w6 ⟨v6, rfl, s6, b6⟩
                    have F6 := Lib.hid (F5.out.trans (b6.mono F5.out.size))
                    clear b6 o5
                    replace s6 := Lib.hid s6
                    obtain ⟨p6, c6, rfl, -⟩ := s6.out
                    have own6 : (w6.alloc (.cells #[] 39)).ownsRow w6.heap.size 39 4 (.slice (some ⟨w6.heap.size, 0, none⟩) 0 0) ([] : List Fd).length (fcs []) := World.ownsRow_lit w6 #[] 0 (Nat.le_refl _) (by unfold maxLen; omega) rfl
                    have B6 := Lib.hid (B2.out.trans (F6.out.mono B2.out.size))
                    have hA6w := (hs0.out.keep B6.out (Nat.le_refl _)).keep (ext_alloc w6 (.cells #[] 39)) (Nat.le_refl _)
                    have hB6w := Lib.hid (hs1.out.keep B6.out (Nat.le_refl _))
                    have y1 : ([] : List Fd).length + A.length ≤ 1000000 := by simp; omega
                    have y2 : A.length + B.length ≤ 1000000 := by omega
                    have z6 : w6.heap.size ≤ (w6.alloc (.cells #[] 39)).heap.size := by simp
                    have G0 := Lib.hid (ext_alloc w6 (.cells #[] 39))
                    go_wp2_with (first
                      | (at_builtin; (refine wpList_struck (by rfl) ?_); (refine wpList_append_fds _ rfl (.tmp 120) (.tmp 121) 22 rfl w6.heap.size 39 j0 _ Try.underlying22 hj.out hy0.out rfl hy1.out hy2.out _ [] A rfl own6 hA6w y1 z6 ?_); intro v7 w7 o7 g7; rw [List.nil_append] at o7; have G7 := Lib.hid (G0.out.trans (fgrown_ext own6 g7 z6)); have hB7 := hB6w.out.keep G7.out (Nat.le_refl _); have z7 : w6.heap.size ≤ w7.heap.size := G7.out.size; clear own6 hA6w g7)
                      | (at_builtin; (refine wpList_struck (by rfl) ?_); (refine wpList_append_fds _ rfl (.tmp 122) (.tmp 123) 22 rfl w6.heap.size 39 j0 _ Try.underlying22 hj.out hy0.out rfl hy1.out hy2.out v7 A B rfl o7 hB7 y2 z7 ?_); intro v8 w8 o8 g8; rw [← hf3.out] at o8; have G8 := Lib.hid (G7.out.trans (fgrown_ext o7 g8 z7)); clear o7 hB7 g8))
                    refine (same_eq _ _ f3 w8 (s6.out.keep G8.out (Nat.le_refl _)) (FdsAt.of_own o8 (by omega))).mono ?_
                    rintro e w9 ⟨rfl, b9⟩
                    have B9 := Lib.hid ((B6.out.trans (G8.out.mono B6.out.size)).trans (b9.mono (Nat.le_trans B6.out.size G8.out.size)))
                    clear b9 o8
                    go_wp2_with fail
                    refine (awake_any _).mono ?_
                    rintro e w10 ⟨rfl, b10⟩
                    go_wp2_with fail
                    go_ret
                    exact ⟨rfl, ext_trans B9.out b10⟩
                  · exact absurd (show 0 < K by omega) hKp.out
              · exact absurd (show 0 < K by omega) hKp.out
          · have hKv := Lib.hid (show K ≤ 8 by omega)
            have hKp := Lib.hid (show 0 < K by omega)
            have hKi : (0 : Int) < (K : Int) := by omega
            have hKj : (K : Int) ≤ 8 := by omega
            clear hk
            go_loopw [15, 16] (fun o i wr => ∃ j : Nat, i = .int .i64 j ∧ j ≤ K ∧ wr.ownsRow w2.heap.size 5 1 o (x ++ rep O j).length (bl (x ++ rep O j)) ∧ Below w2.heap.size w2 wr) (fun _ i _ => K - (intOf i).toNat)
            case atStart => exact ⟨0, rfl, by omega, by simpa [rep] using o3, F3.out⟩
            case round =>
              obtain ⟨j, rfl, hj', own1, hb1⟩ := hrel
              have zr := hb1.size
              replace hb1 := Lib.hid hb1
              by_cases hend : j = K
              · have hend' : (j : Int) = K := by omega
                replace hend := Lib.hid hend
                obtain ⟨L1, gL1⟩ : ∃ z, z = x ++ rep O K := ⟨_, rfl⟩
                rw [hend.out, ← gL1] at own1
                have hL1 : L1.length ≤ 4120 := by rw [gL1, List.length_append, rep_length]; have := Nat.mul_le_mul hK1 hO2.out; omega
                replace gL1 := Lib.hid gL1
                have hy1w := (s2.out.keep hb1.out (Nat.le_refl _)).bytes
                have q1 : L1.length + y.length ≤ 140737488355328 := by omega
                obtain ⟨p3, c3, rfl⟩ := own_slice own1
                go_wp2_with (at_builtin; (refine wpList_append_bytes _ rfl (.tmp 81) (.tmp 82) 23 rfl w2.heap.size 5 i0 Try.underlying23 hi.out hz0.out hz1.out hz2.out _ L1 y rfl own1 hy1w q1 zr ?_); intro v4 w4 o4 g4 n4; clear n4; have F4 := Lib.hid (hb1.out.trans (grown_ext own1 g4 zr)); clear own1 hy1w g4)
                obtain ⟨L2, gL2⟩ : ∃ z, z = x ++ rep O K ++ (if 0 < K then y else []) := ⟨_, rfl⟩
                have e2 : L1 ++ y = L2 := by rw [gL2, gL1.out, if_pos (by omega)]
                rw [e2] at o4
                have hL2 : L2.length ≤ 8900 := by rw [← e2, List.length_append]; omega
                clear e2
                have O2 := Lib.hid o4
                have H2 := F4
                replace gL2 := Lib.hid gL2
                go_loopw [15, 17] (fun o i wr => ∃ j : Nat, i = .int .i64 j ∧ j ≤ K ∧ wr.ownsRow w2.heap.size 5 1 o (L2 ++ rep C j).length (bl (L2 ++ rep C j)) ∧ Below w2.heap.size w2 wr) (fun _ i _ => K - (intOf i).toNat)
                case atStart => exact ⟨0, rfl, by omega, by simpa [rep] using O2.out, H2.out⟩
                case round =>
                  obtain ⟨j, rfl, hj', own2, hb2⟩ := hrel
                  have zr := hb2.size
                  replace hb2 := Lib.hid hb2
                  by_cases hend : j = K
                  · have hend' : (j : Int) = K := by omega
                    replace hend := Lib.hid hend
                    obtain ⟨L3, gL3⟩ : ∃ z, z = L2 ++ rep C K := ⟨_, rfl⟩
                    rw [hend.out, ← gL3] at own2
                    have hL3 : L3.length ≤ 9000 := by rw [gL3, List.length_append, rep_length]; have := Nat.mul_le_mul hK1 hC2.out; omega
                    replace gL3 := Lib.hid gL3
                    have hyw := (s2.out.keep hb2.out (Nat.le_refl _)).bytes
                    have q3 : L3.length + y.length ≤ 140737488355328 := by omega
                    obtain ⟨p3, c3, rfl⟩ := own_slice own2
                    go_wp2_with (at_builtin; (refine wpList_append_bytes _ rfl (.tmp 96) (.tmp 97) 23 rfl w2.heap.size 5 i0 Try.underlying23 hi.out hz0.out hz1.out hz2.out _ L3 y rfl own2 hyw q3 zr ?_); intro v5 w5 o5 g5 n5; clear n5; have F5 := Lib.hid (hb2.out.trans (grown_ext own2 g5 zr)); clear own2 hyw g5)
                    obtain ⟨L5, gL5⟩ : ∃ z, z = L3 ++ y := ⟨_, rfl⟩
                    rw [← gL5] at o5
                    have gL5 := Lib.hid (show L5 = grp x y (1 + N1) K by rw [gL5, gL3.out, gL2.out, hO.out, hC.out]; unfold grp; simp [hKp.out])
                    have hM : L5 = grp x y (1 + N1) K := gL5.out
                    have hMl : L5.length ≤ 4096 := by rw [hM]; have := grp_le x y (1 + N1) K (by omega) (by omega) hK1; omega
                    have hMlt : ∀ u ∈ L5, u < 256 := by rw [hM]; exact grp_lt x y (1 + N1) K xlt.out ylt.out (by omega)
                    have hR : ofR L5 = (A ++ B, 0) := by
                      rw [hM, jx.out, jy.out]
                      have h4 := hMl
                      rw [hM, jx.out, jy.out] at h4
                      exact of_groups A B (1 + N1) K wA.out wB.out (by omega) (by omega) hKv.out (by have := hg1.out; omega) h4
                    replace hM := Lib.hid hM
                    replace hR := Lib.hid hR
                    replace hMlt := Lib.hid hMlt
                    refine (of_any v5 L5 w5 (Src.of_own o5) hMlt.out (by omega)).mono ?_
                    rw [hR.out]
                    obtain ⟨f3, hf3⟩ : ∃ f3, f3 = A ++ B := ⟨_, rfl⟩
                    rw [← hf3]
                    have hf3l : (f3.length : Int) ≤ 256 := by rw [hf3, List.length_append]; omega
                    have hf3n : f3.length ≤ 256 := by omega
                    replace hf3 := Lib.hid hf3
                    rintro e w6 ⟨v6, rfl, s6, b6⟩
                    have F6 := Lib.hid (F5.out.trans (b6.mono F5.out.size))
                    clear b6 o5
                    replace s6 := Lib.hid s6
                    obtain ⟨p6, c6, rfl, -⟩ := s6.out
                    have own6 : (w6.alloc (.cells #[] 39)).ownsRow w6.heap.size 39 4 (.slice (some ⟨w6.heap.size, 0, none⟩) 0 0) ([] : List Fd).length (fcs []) := World.ownsRow_lit w6 #[] 0 (Nat.le_refl _) (by unfold maxLen; omega) rfl
                    have B6 := Lib.hid (B2.out.trans (F6.out.mono B2.out.size))
                    have hA6w := (hs0.out.keep B6.out (Nat.le_refl _)).keep (ext_alloc w6 (.cells #[] 39)) (Nat.le_refl _)
                    have hB6w := Lib.hid (hs1.out.keep B6.out (Nat.le_refl _))
                    have y1 : ([] : List Fd).length + A.length ≤ 1000000 := by simp; omega
                    have y2 : A.length + B.length ≤ 1000000 := by omega
                    have z6 : w6.heap.size ≤ (w6.alloc (.cells #[] 39)).heap.size := by simp
                    have G0 := Lib.hid (ext_alloc w6 (.cells #[] 39))
                    go_wp2_with (first
                      | (at_builtin; (refine wpList_struck (by rfl) ?_); (refine wpList_append_fds _ rfl (.tmp 120) (.tmp 121) 22 rfl w6.heap.size 39 j0 _ Try.underlying22 hj.out hy0.out rfl hy1.out hy2.out _ [] A rfl own6 hA6w y1 z6 ?_); intro v7 w7 o7 g7; rw [List.nil_append] at o7; have G7 := Lib.hid (G0.out.trans (fgrown_ext own6 g7 z6)); have hB7 := hB6w.out.keep G7.out (Nat.le_refl _); have z7 : w6.heap.size ≤ w7.heap.size := G7.out.size; clear own6 hA6w g7)
                      | (at_builtin; (refine wpList_struck (by rfl) ?_); (refine wpList_append_fds _ rfl (.tmp 122) (.tmp 123) 22 rfl w6.heap.size 39 j0 _ Try.underlying22 hj.out hy0.out rfl hy1.out hy2.out v7 A B rfl o7 hB7 y2 z7 ?_); intro v8 w8 o8 g8; rw [← hf3.out] at o8; have G8 := Lib.hid (G7.out.trans (fgrown_ext o7 g8 z7)); clear o7 hB7 g8))
                    refine (same_eq _ _ f3 w8 (s6.out.keep G8.out (Nat.le_refl _)) (FdsAt.of_own o8 (by omega))).mono ?_
                    rintro e w9 ⟨rfl, b9⟩
                    have B9 := Lib.hid ((B6.out.trans (G8.out.mono B6.out.size)).trans (b9.mono (Nat.le_trans B6.out.size G8.out.size)))
                    clear b9 o8
                    go_wp2_with fail
                    refine (awake_any _).mono ?_
                    rintro e w10 ⟨rfl, b10⟩
                    go_wp2_with fail
                    go_ret
                    exact ⟨rfl, ext_trans B9.out b10⟩
                  · have jlt : (j : Int) < (K : Int) := by omega
                    replace hend := Lib.hid hend
                    obtain ⟨L, gL⟩ : ∃ z, z = L2 ++ rep C j := ⟨_, rfl⟩
                    have gL' : L2 ++ rep C (j + 1) = L ++ C := by rw [rep_snoc, gL, List.append_assoc]
                    have hLl : L.length ≤ 9000 := by rw [gL, List.length_append, rep_length]; have := Nat.mul_le_mul (show j ≤ 9 by omega) hC2.out; omega
                    rw [← gL] at own2
                    replace gL := Lib.hid gL
                    replace gL' := Lib.hid gL'
                    obtain ⟨p3, c3, rfl⟩ := own_slice own2
                    have q3 : L.length + C.length ≤ 140737488355328 := by have := hC2.out; omega
                    go_wp2_with fail
                    refine (TC.out _).mono ?_
                    rintro e w3 ⟨a3, m3, d3, rfl, h3, b3⟩
                    have own3 := own_below own2 b3
                    have hb3 := Lib.hid (hb2.out.trans (b3.mono hb2.out.size))
                    have zr3 := hb3.out.size
                    clear b3 own2
                    go_wp2_with (at_builtin; (refine wpList_append_bytes _ rfl (.tmp 89) (.tmp 94) 23 rfl w2.heap.size 5 i0 Try.underlying23 hi.out hz0.out hz1.out hz2.out _ L C rfl own3 h3 q3 zr3 ?_); intro v4 w4 o4 g4 n4; clear n4; have F4 := Lib.hid (hb3.out.trans (grown_ext own3 g4 zr3)); clear own3 h3 g4)
                    go_roundw
                    case rel => exact ⟨j + 1, by simp, by omega, by rw [gL'.out]; exact o4, F4.out⟩
                    case measure => simp [intOf]; omega
              · have jlt : (j : Int) < (K : Int) := by omega
                replace hend := Lib.hid hend
                obtain ⟨L, gL⟩ : ∃ z, z = x ++ rep O j := ⟨_, rfl⟩
                have gL' : x ++ rep O (j + 1) = L ++ O := by rw [rep_snoc, gL, List.append_assoc]
                have hLl : L.length ≤ 9000 := by rw [gL, List.length_append, rep_length]; have := Nat.mul_le_mul (show j ≤ 9 by omega) hO2.out; omega
                rw [← gL] at own1
                replace gL := Lib.hid gL
                replace gL' := Lib.hid gL'
                obtain ⟨p3, c3, rfl⟩ := own_slice own1
                have q3 : L.length + O.length ≤ 140737488355328 := by have := hO2.out; omega
                go_wp2_with fail
                refine (TO.out _).mono ?_
                rintro e w3 ⟨a3, m3, d3, rfl, h3, b3⟩
                have own3 := own_below own1 b3
                have hb3 := Lib.hid (hb1.out.trans (b3.mono hb1.out.size))
                have zr3 := hb3.out.size
                clear b3 own1
                go_wp2_with (at_builtin; (refine wpList_append_bytes _ rfl (.tmp 72) (.tmp 77) 23 rfl w2.heap.size 5 i0 Try.underlying23 hi.out hz0.out hz1.out hz2.out _ L O rfl own3 h3 q3 zr3 ?_); intro v4 w4 o4 g4 n4; clear n4; have F4 := Lib.hid (hb3.out.trans (grown_ext own3 g4 zr3)); clear own3 h3 g4)
                go_roundw
                case rel => exact ⟨j + 1, by simp, by omega, by rw [gL'.out]; exact o4, F4.out⟩
                case measure => simp [intOf]; omega
          · have hKv := Lib.hid (show K = 9 by omega)
            have hKp := Lib.hid (show 0 < K by omega)
            have hKi : (0 : Int) < (K : Int) := by omega
            have hKj : (8 : Int) < (K : Int) := by omega
            clear hk
            go_loopw [15, 16] (fun o i wr => ∃ j : Nat, i = .int .i64 j ∧ j ≤ K ∧ wr.ownsRow w2.heap.size 5 1 o (x ++ rep O j).length (bl (x ++ rep O j)) ∧ Below w2.heap.size w2 wr) (fun _ i _ => K - (intOf i).toNat)
            case atStart => exact ⟨0, rfl, by omega, by simpa [rep] using o3, F3.out⟩
            case round =>
              obtain ⟨j, rfl, hj', own1, hb1⟩ := hrel
              have zr := hb1.size
              replace hb1 := Lib.hid hb1
              by_cases hend : j = K
              · have hend' : (j : Int) = K := by omega
                replace hend := Lib.hid hend
                obtain ⟨L1, gL1⟩ : ∃ z, z = x ++ rep O K := ⟨_, rfl⟩
                rw [hend.out, ← gL1] at own1
                have hL1 : L1.length ≤ 4120 := by rw [gL1, List.length_append, rep_length]; have := Nat.mul_le_mul hK1 hO2.out; omega
                replace gL1 := Lib.hid gL1
                have hy1w := (s2.out.keep hb1.out (Nat.le_refl _)).bytes
                have q1 : L1.length + y.length ≤ 140737488355328 := by omega
                obtain ⟨p3, c3, rfl⟩ := own_slice own1
                go_wp2_with (at_builtin; (refine wpList_append_bytes _ rfl (.tmp 81) (.tmp 82) 23 rfl w2.heap.size 5 i0 Try.underlying23 hi.out hz0.out hz1.out hz2.out _ L1 y rfl own1 hy1w q1 zr ?_); intro v4 w4 o4 g4 n4; clear n4; have F4 := Lib.hid (hb1.out.trans (grown_ext own1 g4 zr)); clear own1 hy1w g4)
                obtain ⟨L2, gL2⟩ : ∃ z, z = x ++ rep O K ++ (if 0 < K then y else []) := ⟨_, rfl⟩
                have e2 : L1 ++ y = L2 := by rw [gL2, gL1.out, if_pos (by omega)]
                rw [e2] at o4
                have hL2 : L2.length ≤ 8900 := by rw [← e2, List.length_append]; omega
                clear e2
                have O2 := Lib.hid o4
                have H2 := F4
                replace gL2 := Lib.hid gL2
                go_loopw [15, 17] (fun o i wr => ∃ j : Nat, i = .int .i64 j ∧ j ≤ K ∧ wr.ownsRow w2.heap.size 5 1 o (L2 ++ rep C j).length (bl (L2 ++ rep C j)) ∧ Below w2.heap.size w2 wr) (fun _ i _ => K - (intOf i).toNat)
                case atStart => exact ⟨0, rfl, by omega, by simpa [rep] using O2.out, H2.out⟩
                case round =>
                  obtain ⟨j, rfl, hj', own2, hb2⟩ := hrel
                  have zr := hb2.size
                  replace hb2 := Lib.hid hb2
                  by_cases hend : j = K
                  · have hend' : (j : Int) = K := by omega
                    replace hend := Lib.hid hend
                    obtain ⟨L3, gL3⟩ : ∃ z, z = L2 ++ rep C K := ⟨_, rfl⟩
                    rw [hend.out, ← gL3] at own2
                    have hL3 : L3.length ≤ 9000 := by rw [gL3, List.length_append, rep_length]; have := Nat.mul_le_mul hK1 hC2.out; omega
                    replace gL3 := Lib.hid gL3
                    have hyw := (s2.out.keep hb2.out (Nat.le_refl _)).bytes
                    have q3 : L3.length + y.length ≤ 140737488355328 := by omega
                    obtain ⟨p3, c3, rfl⟩ := own_slice own2
                    go_wp2_with (at_builtin; (refine wpList_append_bytes _ rfl (.tmp 96) (.tmp 97) 23 rfl w2.heap.size 5 i0 Try.underlying23 hi.out hz0.out hz1.out hz2.out _ L3 y rfl own2 hyw q3 zr ?_); intro v5 w5 o5 g5 n5; clear n5; have F5 := Lib.hid (hb2.out.trans (grown_ext own2 g5 zr)); clear own2 hyw g5)
                    obtain ⟨L5, gL5⟩ : ∃ z, z = L3 ++ y := ⟨_, rfl⟩
                    rw [← gL5] at o5
                    have gL5 := Lib.hid (show L5 = grp x y (1 + N1) K by rw [gL5, gL3.out, gL2.out, hO.out, hC.out]; unfold grp; simp [hKp.out])
                    have hM : L5 = grp x y (1 + N1) K := gL5.out
                    have hMl : L5.length ≤ 4096 := by rw [hM]; have := grp_le x y (1 + N1) K (by omega) (by omega) hK1; omega
                    have hMlt : ∀ u ∈ L5, u < 256 := by rw [hM]; exact grp_lt x y (1 + N1) K xlt.out ylt.out (by omega)
                    have hR : ofR L5 = ([], 12) := by
                      rw [hM, hKv.out, jx.out, jy.out]
                      have h4 := hMl
                      rw [hM, hKv.out, jx.out, jy.out] at h4
                      exact of_deep A B (1 + N1) wA.out wB.out (by omega) (by omega) hA6 h4
                    replace hM := Lib.hid hM
                    replace hR := Lib.hid hR
                    replace hMlt := Lib.hid hMlt
                    refine (of_any v5 L5 w5 (Src.of_own o5) hMlt.out (by omega)).mono ?_
                    rw [hR.out]
                    rintro e w6 ⟨v6, rfl, s6, b6⟩
                    obtain ⟨p6, c6, rfl, -⟩ := s6
                    have F6 := Lib.hid (F5.out.trans (b6.mono F5.out.size))
                    clear b6 o5
                    go_wp2_with fail
                    refine (awake_any _).mono ?_
                    rintro e w9 ⟨rfl, b9⟩
                    go_wp2_with fail
                    go_ret
                    exact ⟨rfl, (B2.out.trans (F6.out.mono B2.out.size)).trans (b9.mono (Nat.le_trans B2.out.size F6.out.size))⟩
                  · have jlt : (j : Int) < (K : Int) := by omega
                    replace hend := Lib.hid hend
                    obtain ⟨L, gL⟩ : ∃ z, z = L2 ++ rep C j := ⟨_, rfl⟩
                    have gL' : L2 ++ rep C (j + 1) = L ++ C := by rw [rep_snoc, gL, List.append_assoc]
                    have hLl : L.length ≤ 9000 := by rw [gL, List.length_append, rep_length]; have := Nat.mul_le_mul (show j ≤ 9 by omega) hC2.out; omega
                    rw [← gL] at own2
                    replace gL := Lib.hid gL
                    replace gL' := Lib.hid gL'
                    obtain ⟨p3, c3, rfl⟩ := own_slice own2
                    have q3 : L.length + C.length ≤ 140737488355328 := by have := hC2.out; omega
                    go_wp2_with fail
                    refine (TC.out _).mono ?_
                    rintro e w3 ⟨a3, m3, d3, rfl, h3, b3⟩
                    have own3 := own_below own2 b3
                    have hb3 := Lib.hid (hb2.out.trans (b3.mono hb2.out.size))
                    have zr3 := hb3.out.size
                    clear b3 own2
                    go_wp2_with (at_builtin; (refine wpList_append_bytes _ rfl (.tmp 89) (.tmp 94) 23 rfl w2.heap.size 5 i0 Try.underlying23 hi.out hz0.out hz1.out hz2.out _ L C rfl own3 h3 q3 zr3 ?_); intro v4 w4 o4 g4 n4; clear n4; have F4 := Lib.hid (hb3.out.trans (grown_ext own3 g4 zr3)); clear own3 h3 g4)
                    go_roundw
                    case rel => exact ⟨j + 1, by simp, by omega, by rw [gL'.out]; exact o4, F4.out⟩
                    case measure => simp [intOf]; omega
              · have jlt : (j : Int) < (K : Int) := by omega
                replace hend := Lib.hid hend
                obtain ⟨L, gL⟩ : ∃ z, z = x ++ rep O j := ⟨_, rfl⟩
                have gL' : x ++ rep O (j + 1) = L ++ O := by rw [rep_snoc, gL, List.append_assoc]
                have hLl : L.length ≤ 9000 := by rw [gL, List.length_append, rep_length]; have := Nat.mul_le_mul (show j ≤ 9 by omega) hO2.out; omega
                rw [← gL] at own1
                replace gL := Lib.hid gL
                replace gL' := Lib.hid gL'
                obtain ⟨p3, c3, rfl⟩ := own_slice own1
                have q3 : L.length + O.length ≤ 140737488355328 := by have := hO2.out; omega
                go_wp2_with fail
                refine (TO.out _).mono ?_
                rintro e w3 ⟨a3, m3, d3, rfl, h3, b3⟩
                have own3 := own_below own1 b3
                have hb3 := Lib.hid (hb1.out.trans (b3.mono hb1.out.size))
                have zr3 := hb3.out.size
                clear b3 own1
                go_wp2_with (at_builtin; (refine wpList_append_bytes _ rfl (.tmp 72) (.tmp 77) 23 rfl w2.heap.size 5 i0 Try.underlying23 hi.out hz0.out hz1.out hz2.out _ L O rfl own3 h3 q3 zr3 ?_); intro v4 w4 o4 g4 n4; clear n4; have F4 := Lib.hid (hb3.out.trans (grown_ext own3 g4 zr3)); clear own3 h3 g4)
                go_roundw
                case rel => exact ⟨j + 1, by simp, by omega, by rw [gL'.out]; exact o4, F4.out⟩
                case measure => simp [intOf]; omega
        · have hg1' : (A.length : Int) + B.length ≤ 256 := by omega
          have hg2' : (4096 : Int) < (x.length : Int) + y.length + y.length + 60 := by omega
          replace hg1 := Lib.hid hg1
          replace hg2 := Lib.hid hg2
          go_wp2_with fail
          refine (awake_any _).mono ?_
          rintro e w3 ⟨rfl, b3⟩
          go_wp2_with fail
          go_ret
          exact ⟨rfl, ext_trans B2.out b3⟩
      · have hg1' : (256 : Int) < (A.length : Int) + B.length := by omega
        replace hg1 := Lib.hid hg1
        go_wp2_with fail
        refine (awake_any _).mono ?_
        rintro e w3 ⟨rfl, b3⟩
        go_wp2_with fail
        go_ret
        exact ⟨rfl, ext_trans B2.out b3⟩
    · subst e0
      have d1 : (E1 != 0) = true := by simpa using e1
      replace e1 := Lib.hid e1
      go_enter Try.func6, Try.ntmps6
      go_wp2_with fail
      refine (P.out).mono ?_
      rintro e w1 ⟨v1, rfl, s1, b1⟩
      obtain ⟨p1, c1, rfl, -⟩ := s1
      replace b1 := Lib.hid b1
      go_wp2_with fail
      refine (R.out _ b1.out).mono ?_
      rintro e w2 ⟨v2, rfl, s2, b2⟩
      obtain ⟨p2, c2, rfl, -⟩ := s2
      have B2 := Lib.hid (ext_trans b1.out b2)
      clear b2 P R
      go_wp2_with fail
      refine (awake_any _).mono ?_
      rintro e w3 ⟨rfl, b3⟩
      go_wp2_with fail
      go_ret
      exact ⟨rfl, ext_trans B2.out b3⟩
  · have d1 : (E0 != 0) = true := by simpa using e0
    replace e0 := Lib.hid e0
    go_enter Try.func6, Try.ntmps6
    go_wp2_with fail
    refine (P.out).mono ?_
    rintro e w1 ⟨v1, rfl, s1, b1⟩
    obtain ⟨p1, c1, rfl, -⟩ := s1
    replace b1 := Lib.hid b1
    go_wp2_with fail
    refine (R.out _ b1.out).mono ?_
    rintro e w2 ⟨v2, rfl, s2, b2⟩
    obtain ⟨p2, c2, rfl, -⟩ := s2
    have B2 := Lib.hid (ext_trans b1.out b2)
    clear b2 P R
    go_wp2_with fail
    refine (awake_any _).mono ?_
    rintro e w3 ⟨rfl, b3⟩
    go_wp2_with fail
    go_ret
    exact ⟨rfl, ext_trans B2.out b3⟩

set_option maxRecDepth 100000 in
theorem lifted (os : Os) (started : os.Started) (H : Type) (enc : TypeId × Value → H) :
    ReturnsInHanded {} Try.checked os 6 .any (Rows.wireGroupsSpec.pre6 enc Try.prog Try.f6 Rows.wireGroupsRow.domain false) (Rows.wireGroupsSpec.post enc Try.prog Try.f6 false true false false) := by
  refine returnsInHanded_of_change_sized (C := Try.checked) own started (by kernel_rfl) Try.func6
    (ChangeSpec.witness6 (enc := enc) (C := Try.checked) false ⟨#[], #[.slice none 0 0, .slice none 0 0, .int .u16 0, .int .u8 0], []⟩ 8 (by kernel_rfl) (by kernel_rfl) (by kernel_rfl) (by kernel_rfl)) ?_
  intro W base args ds gs before hval0 hW hcnd hsz0 _
  have hsz : (DataW.weightsEach Try.prog (Try.f6.params.toList ++ Rows.wireGroupsSpec.plain.varTypes Try.prog) (ds ++ gs)).all (· ≤ reachBytes) = true := hsz0
  have hval : ∀ (j : Nat) t v, Try.f6.params[j]? = some t → args[j]? = some v → Value.okWide Try.prog W .any base t v := hval0
  have hW' := hW
  obtain ⟨p, q, hA0, hV, rfl, hfz, hnd⟩ := hW
  have hA : DataW.TrodAll enc Try.prog W 0 (fun _ => true) true Try.f6.params.toList args.toList ds p := hA0
  rw [Try.params6] at hA hval hsz
  obtain ⟨v0, vs0, d0, ds0, p0, q0, hargs, rfl, rfl, h0, r0⟩ := trodAll_cons hA
  obtain ⟨v1, vs1, d1, ds1, p1, q1, rfl, rfl, rfl, h1, r1⟩ := trodAll_cons r0
  obtain ⟨v2, vs2, d2, ds2, p2, q2, rfl, rfl, rfl, h2, r2⟩ := trodAll_cons r1
  obtain ⟨v3, vs3, d3, ds3, p3, q3, rfl, rfl, rfl, h3, r3⟩ := trodAll_cons r2
  obtain ⟨rfl, rfl, rfl⟩ := trodAll_nil r3
  obtain rfl : args = #[v0, v1, v2, v3] := by cases args; simp_all
  obtain ⟨rfl, rfl⟩ := trodVars_none hV
  have k0 := h0
  have lt0 : ∀ x ∈ p0, x.block < W.heap.size := by obtain ⟨m, hm⟩ := k0; exact DataW.trod_lt m _ _ _ hm
  have k1 := h1
  have lt1 : ∀ x ∈ p1, x.block < W.heap.size := by obtain ⟨m, hm⟩ := k1; exact DataW.trod_lt m _ _ _ hm
  have k2 := h2
  have lt2 : ∀ x ∈ p2, x.block < W.heap.size := by obtain ⟨m, hm⟩ := k2; exact DataW.trod_lt m _ _ _ hm
  have k3 := h3
  have lt3 : ∀ x ∈ p3, x.block < W.heap.size := by obtain ⟨m, hm⟩ := k3; exact DataW.trod_lt m _ _ _ hm
  obtain ⟨a0, len0, cap0, rfl⟩ := okWide_slice Try.underlying22 (hval 0 22 v0 rfl rfl)
  obtain ⟨z0, w0, s0⟩ : ∃ l : List Fd, FdsAt W (.slice a0 len0 cap0) l ∧ ∀ f ∈ l, f.ok := by
    obtain ⟨fuel, hf⟩ := h0
    exact open_fds hf (fun n hn => by
      have hm := List.all_eq_true.1 hsz n (DataW.weights_mem_each (j := 0) (t := 22) rfl rfl _ hn)
      simpa [reachBytes] using of_decide_eq_true hm)
  obtain ⟨a1, len1, cap1, rfl⟩ := okWide_slice Try.underlying22 (hval 1 22 v1 rfl rfl)
  obtain ⟨z1, w1, s1⟩ : ∃ l : List Fd, FdsAt W (.slice a1 len1 cap1) l ∧ ∀ f ∈ l, f.ok := by
    obtain ⟨fuel, hf⟩ := h1
    exact open_fds hf (fun n hn => by
      have hm := List.all_eq_true.1 hsz n (DataW.weights_mem_each (j := 1) (t := 22) rfl rfl _ hn)
      simpa [reachBytes] using of_decide_eq_true hm)
  obtain ⟨a2, rfl, rfl, rfl, w2⟩ := open_int Try.underlying44 (hval 2 44 v2 rfl rfl) h2
  have b2 := wf_u16 w2
  obtain ⟨a3, rfl, rfl, rfl, w3⟩ := open_int Try.underlying5 (hval 3 5 v3 rfl rfl) h3
  have b3 := wf_u8 w3
  clear hA0 hval0 hsz0
  refine (walk a0 len0 cap0 z0 a1 len1 cap1 z1 a2 a3 W w0 s0 w1 s1 b2 b3).mono fun e W' ⟨he, bel⟩ => ?_
  subst he
  exact ⟨_, rfl, _, _, _, [], _, [], hW', trodAll_mk1 (shut_bool Try.underlying4 _), (trodAll_cons_mk (Below.trod laidOut (by kernel_rfl) (of_decide_eq_true (by kernel_rfl)) k0 bel lt0) (trodAll_cons_mk (Below.trod laidOut (by kernel_rfl) (of_decide_eq_true (by kernel_rfl)) k1 bel lt1) (trodAll_cons_mk (Below.trod laidOut (by kernel_rfl) (of_decide_eq_true (by kernel_rfl)) k2 bel lt2) (trodAll_cons_mk (Below.trod laidOut (by kernel_rfl) (of_decide_eq_true (by kernel_rfl)) k3 bel lt3) trodAll_mk0)))), rfl, bel.frame _, fun h => by cases h⟩

theorem over : Rows.wireGroupsRow.holds Try.pinned (OpenSpec.ofChange Rows.wireGroupsSpec) :=
  OpenClaim.holds_of_wide 6 Try.f6 rfl rfl rfl rfl rfl rfl rfl ⟨rfl, rfl, rfl, rfl, rfl⟩ rfl rfl rfl rfl rfl (by kernel_rfl) Try.func6 (by kernel_rfl)
    (of_decide_eq_true (by kernel_rfl)) (by unfold Func.isWrapper; first | (rw [if_pos (by decide +kernel)]; kernel_rfl) | (rw [if_neg (by decide +kernel)]; exact ⟨rfl, rfl⟩))
    (fun os started H enc _ => lifted os started H enc)

theorem proved : Rows.WireGroupsSaid := over
end Go.Proofs.Ytgegphmfdcninaa.wireGroups
