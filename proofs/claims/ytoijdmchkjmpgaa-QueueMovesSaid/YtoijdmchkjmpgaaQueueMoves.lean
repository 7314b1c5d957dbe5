/-
  QueueMoves: FOR EVERY INPUT the law returns true and leaves its arguments as they were.
-/
import Derived.Test.YtoijdmchkjmpgaaQi
import Derived.Test.YtoijdmchkjmpgaaByt
import Derived.Test.YtoijdmchkjmpgaaRows
import Derived.WalkKit
import Derived.ProofKit
import Derived.OpenShut
import Derived.ShutString
import Derived.ChangeOld
import Derived.Below
import Derived.SizedLaws
import Derived.Lib.SmallJoins
namespace Go.Proofs.Ytoijdmchkjmpgaa.queueMoves
open Go.ChangeShapes Go.WideShapes Go.ChangeAt Go.RowKit
open Go.ChangeMaps (open_string shut_string)
set_option linter.unusedVariables false

theorem own : ownKnob Try.prog.godebug = none := by kernel_rfl
theorem laidOut : laidOutB Try.prog = true := by kernel_rfl

open Que
set_option maxHeartbeats 32000000 in
set_option maxRecDepth 100000 in
theorem walk (m0 m1 : Int) (a0 : Option Addr) (len0 cap0 : Nat) (L : List Mg) (a1 : Option Addr) (len1 cap1 : Nat) (M : List Mg) (w : World) (b0 : 0 ≤ m0 ∧ m0 ≤ 255) (b1 : 0 ≤ m1 ∧ m1 ≤ 255) (h0 : MsAt w (.slice a0 len0 cap0) L) (ok0 : ∀ f ∈ L, f.ok) (h1 : MsAt w (.slice a1 len1 cap1) M) (ok1 : ∀ f ∈ M, f.ok) :
    Calls Try.prog 8 #[.int .u8 m0, .int .u8 m1, .slice a0 len0 cap0, .slice a1 len1 cap1] w (Yes w) := by
  clear ok0 ok1
  obtain ⟨x0, y0, hv0, hl0, -⟩ := id h0
  simp only [Value.slice.injEq] at hv0
  obtain ⟨rfl, rfl, rfl⟩ := hv0
  obtain ⟨x1, y1, hv1, hl1, -⟩ := id h1
  simp only [Value.slice.injEq] at hv1
  obtain ⟨rfl, rfl, rfl⟩ := hv1
  replace h0 := Lib.hid h0
  replace h1 := Lib.hid h1
  have hl0' : (L.length : Int) ≤ 9223372036854775807 := by omega
  have hl1' : (M.length : Int) ≤ 9223372036854775807 := by omega
  clear hl0 hl1
  have x0 : 0 ≤ m0 := b0.1
  have x1 : m0 ≤ 255 := b0.2
  have y0 : 0 ≤ m1 := b1.1
  have y1 : m1 ≤ 255 := b1.2
  clear b0 b1
  obtain ⟨n, hn⟩ : ∃ n : Nat, (n : Int) = 1 + m0 % 12 := ⟨(1 + m0 % 12).toNat, by omega⟩
  obtain ⟨k, hk⟩ : ∃ k : Nat, (k : Int) = 1 + m1 % 12 := ⟨(1 + m1 % 12).toNat, by omega⟩
  have n1 : 1 ≤ n := by omega
  have n2 : n ≤ 12 := by omega
  have k1 : 1 ≤ k := by omega
  have k2 : k ≤ 12 := by omega
  have NW := Lib.hid (new_any n w n1 (by omega))
  have r0 : 0 ≤ m0 % 12 := by omega
  have r1 : m0 % 12 ≤ 11 := by omega
  have s0 : 0 ≤ m1 % 12 := by omega
  have s1 : m1 % 12 ≤ 11 := by omega
  replace hn := Lib.hid hn
  replace hk := Lib.hid hk
  go_enter Try.func8, Try.ntmps8
  go_wp2_with fail
  rw [show 1 + m0 % 12 = (n : Int) from hn.out.symm, show 1 + m1 % 12 = (k : Int) from hk.out.symm]
  clear r0 r1 s0 s1 x0 x1 y0 y1 hn hk
  refine NW.out.mono ?_
  rintro e w1 ⟨rfl, q1, b1, z1⟩
  have NW2 := Lib.hid (new_any k w1 k1 (by omega))
  rw [z1] at NW2
  replace q1 := Lib.hid q1
  replace b1 := Lib.hid b1
  replace z1 := Lib.hid z1
  clear NW
  go_wp2_with fail
  refine NW2.out.mono ?_
  rintro e w2 ⟨rfl, q2, b2, -⟩
  have I2 : Hid (PQ w w2 n k [] []) := Lib.hid ⟨q1.out.keep (by rw [z1.out]; exact b2), q2, b1.out.trans (b2.mono (by omega))⟩
  clear q2 b2 q1 b1 z1 NW2
  go_wp2_with fail
  go_loopw [15] (fun iv wr => ∃ j : Nat, iv = .int .i64 (j : Int) ∧ j ≤ L.length ∧ j ≤ n ∧ PQ w wr n k (L.take j) []) (fun iv _ => L.length - (intOf iv).toNat)
  case atStart => exact ⟨0, rfl, by omega, by omega, by simpa using I2.out⟩
  case round =>
    obtain ⟨j, rfl, hj, hj2, I⟩ := hrel
    by_cases hlt : j < L.length ∧ j < n
    · obtain ⟨hlt0, hlt1⟩ := hlt
      obtain ⟨f, hf⟩ : ∃ f, L[j]? = some f := ⟨_, List.getElem?_eq_getElem hlt0⟩
      obtain ⟨b, o, c, hv, c0, c1, c2, c3⟩ := ms_get h0.out hf I.bw
      simp only [Value.slice.injEq] at hv
      obtain ⟨rfl, -, rfl⟩ := hv
      have hs : L.take j ++ [f] = L.take (j + 1) := by rw [List.take_add_one, hf]; rfl
      have P1 : Hid (Calls Try.prog 28 #[.pointer (some ⟨w.heap.size + 1, 0, none⟩), .agg #[.string f.a0, .string f.a1, .int .i64 f.a2, .bool f.a3]] wr fun e w' => e = .returned (.bool true) ∧ Qu w' (w.heap.size + 1) w.heap.size n (L.take j ++ [f]) 0 ∧ wr.grownBy w' (some w.heap.size)) := Lib.hid (put_yes I.p f (by simp; omega))
      have hlt0' : (j : Int) < (L.length : Int) := by omega
      have hlt1' : (j : Int) < (n : Int) := by omega
      replace I := Lib.hid I
      replace hf := Lib.hid hf
      replace hs := Lib.hid hs
      go_wp2_with fail
      refine P1.out.mono ?_
      rintro e w3 ⟨rfl, q3, g3⟩
      rw [hs.out] at q3
      have I3 := Lib.hid (I.out.onP q3 g3)
      clear q3 g3 P1
      go_wp2_with fail
      go_roundw
      case rel => exact ⟨j + 1, by simp, by omega, by omega, I3.out⟩
      case measure => simp [intOf]; omega
    · obtain ⟨P, hP⟩ : ∃ P, P = L.take j := ⟨_, rfl⟩
      rw [← hP] at I
      have hPn : P.length ≤ n := by rw [hP]; simp; omega
      clear hP
      have I2 := Lib.hid I
      clear I
      by_cases hb1 : j < L.length
      all_goals
        first
          | have hb2 : ¬ (j : Int) < (n : Int) := by omega
          | have hb2 : ¬ (j : Int) < (L.length : Int) := by omega
        clear hlt
        go_wp2_with fail
        go_loopw [16] (fun iv wr => ∃ j : Nat, iv = .int .i64 (j : Int) ∧ j ≤ M.length ∧ j ≤ k ∧ PQ w wr n k P (M.take j)) (fun iv _ => M.length - (intOf iv).toNat)
        case atStart => exact ⟨0, rfl, by omega, by omega, by simpa using I2.out⟩
        case round =>
          obtain ⟨j, rfl, hj, hj2, I⟩ := hrel
          by_cases hlt : j < M.length ∧ j < k
          · obtain ⟨hlt0, hlt1⟩ := hlt
            obtain ⟨f, hf⟩ : ∃ f, M[j]? = some f := ⟨_, List.getElem?_eq_getElem hlt0⟩
            obtain ⟨b, o, c, hv, c0, c1, c2, c3⟩ := ms_get h1.out hf I.bw
            simp only [Value.slice.injEq] at hv
            obtain ⟨rfl, -, rfl⟩ := hv
            have hs : M.take j ++ [f] = M.take (j + 1) := by rw [List.take_add_one, hf]; rfl
            have P1 : Hid (Calls Try.prog 28 #[.pointer (some ⟨w.heap.size + 3, 0, none⟩), .agg #[.string f.a0, .string f.a1, .int .i64 f.a2, .bool f.a3]] wr fun e w' => e = .returned (.bool true) ∧ Qu w' (w.heap.size + 3) (w.heap.size + 2) k (M.take j ++ [f]) 0 ∧ wr.grownBy w' (some (w.heap.size + 2))) := Lib.hid (put_yes I.q f (by simp; omega))
            have hlt0' : (j : Int) < (M.length : Int) := by omega
            have hlt1' : (j : Int) < (k : Int) := by omega
            replace I := Lib.hid I
            replace hf := Lib.hid hf
            replace hs := Lib.hid hs
            go_wp2_with fail
            refine P1.out.mono ?_
            rintro e w3 ⟨rfl, q3, g3⟩
            rw [hs.out] at q3
            have I3 := Lib.hid (I.out.onQ q3 g3)
            clear q3 g3 P1
            go_wp2_with fail
            go_roundw
            case rel => exact ⟨j + 1, by simp, by omega, by omega, I3.out⟩
            case measure => simp [intOf]; omega
          · by_cases hb3 : j < M.length
            all_goals
              first
                | have hb4 : ¬ (j : Int) < (k : Int) := by omega
                | have hb4 : ¬ (j : Int) < (M.length : Int) := by omega
              clear hlt
              obtain ⟨Q, hQ⟩ : ∃ Q, Q = M.take j := ⟨_, rfl⟩
              rw [← hQ] at I
              have hQk : Q.length ≤ k := by rw [hQ]; simp; omega
              clear hQ
              have A1 := Lib.hid (all_any (I.next (ext_alloc wr (.cells #[] 53))).q (by omega) hQk)
              have oL := Lib.hid (World.ownsRow_lit (base := w.heap.size) (e := 53) (size := 4) wr #[] 0 I.bw.size (by unfold maxLen; omega) rfl)
              have I4 := Lib.hid (I.next (ext_alloc wr (.cells #[] 53)))
              clear I
              go_wp2_with fail
              refine A1.out.mono ?_
              rintro e w4 ⟨vq, rfl, oq, qq, gq⟩
              have I5 := I4.out.onQ qq gq
              have oL5 := Lib.hid (I4.out.ownQ oL.out gq)
              have sz5 := I5.bw.size
              have mq5 := Lib.hid (MsAt.of_own oq (by omega))
              replace I5 := Lib.hid I5
              clear A1 oq qq gq oL I4
              go_wp2_with (first
                | (at_builtin; go_must (refine wpList_append_ms _ rfl (.tmp 86) (.tmp 88) rfl w.heap.size _ 0 [] Q rfl oL5.out mq5.out sz5 (by omega) ?_); intro v6 w6 o6 g6))
              have I6 := I5.out.own oL5.out (Nat.le_refl _) g6
              rw [Nat.zero_add, List.nil_append] at o6
              have A2 := Lib.hid (all_any I6.p (by omega) hPn)
              replace I6 := Lib.hid I6
              replace o6 := Lib.hid o6
              clear g6 oL5 mq5 I5
              refine A2.out.mono ?_
              rintro e w7 ⟨vp, rfl, op, pp, gp⟩
              have I7 := I6.out.onP pp gp
              have o7 := Lib.hid (I6.out.ownP o6.out gp)
              have sz7 := I7.bw.size
              have mp7 := Lib.hid (MsAt.of_own op (by omega))
              replace I7 := Lib.hid I7
              clear A2 op pp gp o6 I6
              obtain ⟨a6, c6, rfl⟩ := own_slice o7.out
              go_wp2_with (first
                | (at_builtin; go_must (refine wpList_append_ms _ rfl (.tmp 89) (.tmp 91) rfl w.heap.size _ Q.length (msAtC Q) P rfl o7.out mp7.out sz7 (by omega) ?_); intro v8 w8 o8 g8))
              have I8 := I7.out.own o7.out (Nat.le_refl _) g8
              have MV := Lib.hid (move_any I8.p I8.q (by omega) (by omega) (by omega) hQk (by omega))
              replace I8 := Lib.hid I8
              rw [← msAtC_append] at o8
              replace o8 := Lib.hid o8
              clear g8 o7 mp7 I7
              refine MV.out.mono ?_
              rintro e w9 ⟨rfl, p9, q9, T9⟩
              have I9 := I8.out.both p9 q9 T9
              have o9 := Lib.hid (I8.out.keepRow o8.out T9)
              have hmc := moved_all P Q k
              have hml := moved_le P Q k
              obtain ⟨d, hd⟩ : ∃ d, d = movedN P Q k := ⟨_, rfl⟩
              have hend : d = P.length ∨ Q.length + d = k := by rw [hd]; unfold movedN; omega
              have hdk : Q.length + d ≤ k := by rw [hd]; unfold movedN; omega
              rw [← hd] at I9 hmc hml ⊢
              have hdn : (d : Int) ≤ (n : Int) := by omega
              have hd0 : (0 : Int) ≤ (d : Int) := by omega
              clear hd p9 q9 T9 MV o8 I8
              have eP : (P.drop d).length = P.length - d := by simp
              have eQ : (Q ++ P.take d).length = Q.length + d := by simp; omega
              obtain ⟨P', hP'⟩ : ∃ P', P' = P.drop d := ⟨_, rfl⟩
              obtain ⟨Q', hQ'⟩ : ∃ Q', Q' = Q ++ P.take d := ⟨_, rfl⟩
              rw [← hP'] at I9 hmc eP
              rw [← hQ'] at I9 hmc eQ
              replace hmc := Lib.hid hmc
              have hQk' : Q'.length ≤ k := by omega
              have hPn' : P'.length ≤ n := by omega
              have hend' : P'.length = 0 ∨ Q'.length = k := by omega
              replace hend' := Lib.hid hend'
              clear hP' hQ' eP eQ hend
              have A3 := Lib.hid (all_any (I9.next (ext_alloc w9 (.cells #[] 53))).q (by omega) hQk')
              have oN := Lib.hid (World.ownsRow_lit (base := w9.heap.size) (e := 53) (size := 4) w9 #[] 0 (Nat.le_refl _) (by unfold maxLen; omega) rfl)
              have T10 := Lib.hid ((Two.refl w.heap.size (w.heap.size + 2) w9).ext (ext_alloc w9 (.cells #[] 53)))
              have I10 := Lib.hid (I9.next (ext_alloc w9 (.cells #[] 53)))
              have sz9 := I9.bw.size
              replace I9 := Lib.hid I9
              go_wp2_with fail
              refine A3.out.mono ?_
              rintro e w11 ⟨vq, rfl, oq, qq, gq⟩
              have I11 := Lib.hid (I10.out.onQ qq gq)
              have oN11 := Lib.hid (I10.out.ownQ oN.out gq)
              have T11 := T10.out.g2 gq
              have sz11 := T11.size
              replace T11 := Lib.hid T11
              have mq11 := Lib.hid (MsAt.of_own oq (by omega))
              clear A3 oq qq gq oN I10 T10
              go_wp2_with (first
                | (at_builtin; go_must (refine wpList_append_ms _ rfl (.tmp 96) (.tmp 98) rfl w9.heap.size _ 0 [] Q' rfl oN11.out mq11.out sz11 (by omega) ?_); intro v12 w12 o12 g12))
              have I12 := I11.out.own oN11.out sz9 g12
              have T12 := Lib.hid (T11.out.grow g12 (fun j hj => (oN11.out.lt j hj).1))
              rw [Nat.zero_add, List.nil_append] at o12
              have A4 := Lib.hid (all_any I12.p (by omega) hPn')
              replace I12 := Lib.hid I12
              replace o12 := Lib.hid o12
              clear g12 oN11 mq11 I11 T11
              refine A4.out.mono ?_
              rintro e w13 ⟨vp, rfl, op, pp, gp⟩
              have I13 := Lib.hid (I12.out.onP pp gp)
              have o13 := Lib.hid (I12.out.ownP o12.out gp)
              have T13 := T12.out.g1 gp
              have sz13 := T13.size
              replace T13 := Lib.hid T13
              have mp13 := Lib.hid (MsAt.of_own op (by omega))
              clear A4 op pp gp o12 I12 T12
              obtain ⟨a12, c12, rfl⟩ := own_slice o13.out
              go_wp2_with (first
                | (at_builtin; go_must (refine wpList_append_ms _ rfl (.tmp 99) (.tmp 101) rfl w9.heap.size _ Q'.length (msAtC Q') P' rfl o13.out mp13.out sz13 (by omega) ?_); intro v14 w14 o14 g14))
              have I14 := I13.out.own o13.out sz9 g14
              have T14 := T13.out.grow g14 (fun j hj => (o13.out.lt j hj).1)
              have o15 := I9.out.keepRow o9.out T14
              rw [← msAtC_append, hmc.out] at o14
              have hlen : Q'.length + P'.length = (Q ++ P).length := by rw [← hmc.out]; simp
              have hlen2 : Q.length + P.length = (Q ++ P).length := by simp
              rw [hlen] at o14
              rw [hlen2] at o15
              have SM := Lib.hid (same_eq (MsAt.of_own o15 (by omega)) (MsAt.of_own o14 (by omega)) (by omega))
              replace I14 := Lib.hid I14
              clear o14 o15 T14 g14 hlen hlen2 o13 mp13 I13 T13 o9 hmc
              refine SM.out.mono ?_
              rintro e w16 ⟨rfl, b16⟩
              have I16 := I14.out.next b16
              have LP : Hid (Calls Try.prog 36 #[.pointer (some ⟨w.heap.size + 1, 0, none⟩)] w16 fun e w' => e = .returned (.int .i64 P'.length) ∧ w16 = w') := Lib.hid (len_any I16.p (by omega))
              have FQ : Hid (Q'.length = k → Calls Try.prog 40 #[.pointer (some ⟨w.heap.size + 3, 0, none⟩)] w16 fun e w' => ∃ m, e = .returned (.bool true) ∧ w' = w16.drewN m) := Lib.hid (fun h => full_yes I16.q h (by omega))
              have LO : Hid (∀ m, Calls Try.prog 37 #[.pointer (some ⟨w.heap.size + 1, 0, none⟩)] (w16.drewN m) fun e w' => e = .returned (.int .i64 0) ∧ w16.drewN m = w') := Lib.hid (fun m => lost_any (I16.p.drewN m))
              have LQ : Hid (∀ m, Calls Try.prog 37 #[.pointer (some ⟨w.heap.size + 3, 0, none⟩)] (w16.drewN m) fun e w' => e = .returned (.int .i64 0) ∧ w16.drewN m = w') := Lib.hid (fun m => lost_any (I16.q.drewN m))
              have MS : Hid (∀ m, Calls Try.prog 33 #[.pointer (some ⟨w.heap.size + 1, 0, none⟩), .pointer (some ⟨w.heap.size + 1, 0, none⟩)] (w16.drewN m) fun e w' => e = .returned (.int .i64 0) ∧ w16.drewN m = w') := Lib.hid (fun m => move_same (I16.p.drewN m))
              have BW := Lib.hid I16.bw
              clear I16 I14 b16 SM
              go_wp2_with fail
              refine LP.out.mono ?_
              rintro e w17 ⟨rfl, rfl⟩
              by_cases hp0 : P'.length = 0
              · have hp1 : ((P'.length : Int) == 0) = true := by simpa using hp0
                clear hp0
                have LO' := Lib.hid (LO.out 0)
                have LQ' := Lib.hid (LQ.out 0)
                have MS' := Lib.hid (MS.out 0)
                go_wp2_with fail
                refine LO'.out.mono ?_
                rintro e w18 ⟨rfl, rfl⟩
                go_wp2_with fail
                refine LQ'.out.mono ?_
                rintro e w18 ⟨rfl, rfl⟩
                go_wp2_with fail
                refine MS'.out.mono ?_
                rintro e w18 ⟨rfl, rfl⟩
                go_wp2_with fail
                refine (awake22_any _).mono ?_
                rintro e w18 ⟨rfl, b18⟩
                go_wp2
                go_ret
                exact ⟨rfl, ext_trans (below_drewN BW.out 0) b18⟩
              · have hp1 : ((P'.length : Int) == 0) = false := by simpa using hp0
                have FF := Lib.hid (FQ.out (hend'.out.resolve_left hp0))
                clear hp0
                go_wp2_with fail
                refine FF.out.mono ?_
                rintro e w18 ⟨m, rfl, rfl⟩
                go_wp2_with fail
                refine (LO.out m).mono ?_
                rintro e w18 ⟨rfl, rfl⟩
                go_wp2_with fail
                refine (LQ.out m).mono ?_
                rintro e w18 ⟨rfl, rfl⟩
                go_wp2_with fail
                refine (MS.out m).mono ?_
                rintro e w18 ⟨rfl, rfl⟩
                go_wp2_with fail
                refine (awake22_any _).mono ?_
                rintro e w18 ⟨rfl, b18⟩
                go_wp2
                go_ret
                exact ⟨rfl, ext_trans (below_drewN BW.out m) b18⟩

set_option maxRecDepth 100000 in
theorem lifted (os : Os) (started : os.Started) (H : Type) (enc : TypeId × Value → H) :
    ReturnsInHanded {} Try.checked os 8 .any (Rows.queueMovesSpec.pre6 enc Try.prog Try.f8 Rows.queueMovesRow.domain false) (Rows.queueMovesSpec.post enc Try.prog Try.f8 false true false false) := by
  refine returnsInHanded_of_change_sized (C := Try.checked) own started (by kernel_rfl) Try.func8
    (ChangeSpec.witness6 (enc := enc) (C := Try.checked) false ⟨#[], #[.int .u8 0, .int .u8 0, .slice none 0 0, .slice none 0 0], []⟩ 8 (by kernel_rfl) (by kernel_rfl) (by kernel_rfl) (by kernel_rfl)) ?_
  intro W base args ds gs before hval0 hW hcnd hsz0 _
  have hsz : (DataW.weightsEach Try.prog (Try.f8.params.toList ++ Rows.queueMovesSpec.plain.varTypes Try.prog) (ds ++ gs)).all (· ≤ reachBytes) = true := hsz0
  have hval : ∀ (j : Nat) t v, Try.f8.params[j]? = some t → args[j]? = some v → Value.okWide Try.prog W .any base t v := hval0
  have hW' := hW
  obtain ⟨p, q, hA0, hV, rfl, hfz, hnd⟩ := hW
  have hA : DataW.TrodAll enc Try.prog W 0 (fun _ => true) true Try.f8.params.toList args.toList ds p := hA0
  rw [Try.params8] at hA hval hsz
  obtain ⟨v0, vs0, d0, ds0, p0, q0, hargs, rfl, rfl, h0, r0⟩ := trodAll_cons hA
  obtain ⟨v1, vs1, d1, ds1, p1, q1, rfl, rfl, rfl, h1, r1⟩ := trodAll_cons r0
  obtain ⟨v2, vs2, d2, ds2, p2, q2, rfl, rfl, rfl, h2, r2⟩ := trodAll_cons r1
  obtain ⟨v3, vs3, d3, ds3, p3, q3, rfl, rfl, rfl, h3, r3⟩ := trodAll_cons r2
  obtain ⟨rfl, rfl, rfl⟩ := trodAll_nil r3
  obtain rfl : args = #[v0, v1, v2, v3] := by cases args; simp_all
  obtain ⟨rfl, rfl⟩ := trodVars_none hV
  have k0 := h0
  have lt0 : ∀ x ∈ p0, x.block < W.heap.size := by obtain ⟨m, hm⟩ := k0; exact DataW.trod_lt m _ _ _ hm
  have k1 := h1
  have lt1 : ∀ x ∈ p1, x.block < W.heap.size := by obtain ⟨m, hm⟩ := k1; exact DataW.trod_lt m _ _ _ hm
  have k2 := h2
  have lt2 : ∀ x ∈ p2, x.block < W.heap.size := by obtain ⟨m, hm⟩ := k2; exact DataW.trod_lt m _ _ _ hm
  have k3 := h3
  have lt3 : ∀ x ∈ p3, x.block < W.heap.size := by obtain ⟨m, hm⟩ := k3; exact DataW.trod_lt m _ _ _ hm
  obtain ⟨a0, rfl, rfl, rfl, w0⟩ := open_int Try.underlying5 (hval 0 5 v0 rfl rfl) h0
  have b0 := wf_u8 w0
  obtain ⟨a1, rfl, rfl, rfl, w1⟩ := open_int Try.underlying5 (hval 1 5 v1 rfl rfl) h1
  have b1 := wf_u8 w1
  obtain ⟨a2, len2, cap2, rfl⟩ := okWide_slice Try.underlying59 (hval 2 59 v2 rfl rfl)
  obtain ⟨z2, w2, s2⟩ : ∃ l : List Mg, MsAt W (.slice a2 len2 cap2) l ∧ ∀ f ∈ l, f.ok := by
    obtain ⟨fuel, hf⟩ := h2
    exact open_ms hf (fun n hn => by
      have hm := List.all_eq_true.1 hsz n (DataW.weights_mem_each (j := 2) (t := 59) rfl rfl _ hn)
      simpa [reachBytes] using of_decide_eq_true hm)
  obtain ⟨a3, len3, cap3, rfl⟩ := okWide_slice Try.underlying59 (hval 3 59 v3 rfl rfl)
  obtain ⟨z3, w3, s3⟩ : ∃ l : List Mg, MsAt W (.slice a3 len3 cap3) l ∧ ∀ f ∈ l, f.ok := by
    obtain ⟨fuel, hf⟩ := h3
    exact open_ms hf (fun n hn => by
      have hm := List.all_eq_true.1 hsz n (DataW.weights_mem_each (j := 3) (t := 59) rfl rfl _ hn)
      simpa [reachBytes] using of_decide_eq_true hm)
  clear hA0 hval0 hsz0
  refine (walk a0 a1 a2 len2 cap2 z2 a3 len3 cap3 z3 W b0 b1 w2 s2 w3 s3).mono fun e W' ⟨he, bel⟩ => ?_
  subst he
  exact ⟨_, rfl, _, _, _, [], _, [], hW', trodAll_mk1 (shut_bool Try.underlying4 _), (trodAll_cons_mk (Below.trod laidOut (by kernel_rfl) (of_decide_eq_true (by kernel_rfl)) k0 bel lt0) (trodAll_cons_mk (Below.trod laidOut (by kernel_rfl) (of_decide_eq_true (by kernel_rfl)) k1 bel lt1) (trodAll_cons_mk (Below.trod laidOut (by kernel_rfl) (of_decide_eq_true (by kernel_rfl)) k2 bel lt2) (trodAll_cons_mk (Below.trod laidOut (by kernel_rfl) (of_decide_eq_true (by kernel_rfl)) k3 bel lt3) trodAll_mk0)))), rfl, bel.frame _, fun h => by cases h⟩

theorem over : Rows.queueMovesRow.holds Try.pinned (OpenSpec.ofChange Rows.queueMovesSpec) :=
  OpenClaim.holds_of_wide 8 Try.f8 rfl rfl rfl rfl rfl rfl rfl ⟨rfl, rfl, rfl, rfl, rfl⟩ rfl rfl rfl rfl rfl (by kernel_rfl) Try.func8 (by kernel_rfl)
    (of_decide_eq_true (by kernel_rfl)) (by unfold Func.isWrapper; first | (rw [if_pos (by decide +kernel)]; kernel_rfl) | (rw [if_neg (by decide +kernel)]; exact ⟨rfl, rfl⟩))
    (fun os started H enc _ => lifted os started H enc)

theorem proved : Rows.QueueMovesSaid := over
end Go.Proofs.Ytoijdmchkjmpgaa.queueMoves
