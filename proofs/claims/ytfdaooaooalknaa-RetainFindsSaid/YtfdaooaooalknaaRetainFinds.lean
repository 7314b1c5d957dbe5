/-
  RetainFinds: FOR EVERY INPUT the law returns true and leaves its arguments as they were.
-/
import Derived.Test.YtfdaooaooalknaaPd
import Derived.Test.YtfdaooaooalknaaRows
import Derived.Deep.QuietTactic
import Derived.BigQuiet
import Derived.WalkKit
import Derived.ProofKit
import Derived.OpenShut
import Derived.ShutString
import Derived.ChangeOld
import Derived.Below
import Derived.SizedLaws
import Derived.Lib.SmallJoins
namespace Go.Proofs.Ytfdaooaooalknaa.retainFinds
set_option linter.unusedSimpArgs false
open Go.ChangeShapes Go.WideShapes Go.ChangeAt Go.RowKit
open Go.ChangeMaps (open_string shut_string)
set_option linter.unusedVariables false

theorem own : ownKnob Try.prog.godebug = none := by kernel_rfl
theorem laidOut : laidOutB Try.prog = true := by kernel_rfl

open Go.Maps Go.WideMaps
set_option maxHeartbeats 16000000 in
set_option maxRecDepth 100000 in
theorem walk (a : Option Addr) (len cap : Nat) (A : List Mg) (F : ByteArray) (w : World) (h0 : MsAt w (.slice a len cap) A) (ok0 : ∀ f ∈ A, f.ok) (hF : F.size ≤ 140737488351232) :
    Calls Try.prog 4 #[.slice a len cap, .string F] w (Yes w) := by
  obtain ⟨x0, y0, hv0, hl0, hc⟩ := id h0
  simp only [Value.slice.injEq] at hv0
  obtain ⟨rfl, rfl, rfl⟩ := hv0
  have hl0' : (A.length : Int) ≤ 9223372036854775807 := by omega
  replace h0 := Lib.hid h0
  replace hc := Lib.hid hc
  replace ok0 := Lib.hid ok0
  have HF := Lib.hid hF
  clear hF hl0
  have S0 := Lib.hid (new_sv w)
  have B0 : Below w.heap.size w ((w.alloc (.map #[] 0)).alloc (.cells #[.map (some w.heap.size)] 48)) := ((Below.refl w.heap.size w).alloc (Nat.le_refl _) _).alloc (by simp) _
  replace B0 := Lib.hid B0
  go_enter Try.func4, Try.ntmps4
  go_wp2_with fail
  refine (new_any w).mono ?_
  rintro e w1 ⟨rfl, rfl⟩
  go_wp2_with fail
  generalize ((w.alloc (.map #[] 0)).alloc (.cells #[.map (some w.heap.size)] 48)) = w2 at *
  go_loopw [6] (fun iv wr => ∃ (k : Nat) (D : DataW Value), iv = .int .i64 (k : Int) ∧ k ≤ A.length ∧ k ≤ 60 ∧ Sv wr (w.heap.size + 1) w.heap.size k D ∧ Good D ∧ Below w.heap.size w wr) (fun iv _ => A.length - (intOf iv).toNat)
  case atStart => exact ⟨0, _, rfl, by omega, by omega, S0.out, good_start, B0.out⟩
  case round =>
    obtain ⟨k, D, rfl, hk1, hk2, hsv, hgd, hbw⟩ := hrel
    by_cases hlt : k < A.length ∧ k < 60
    · obtain ⟨hlt0, hlt1⟩ := hlt
      obtain ⟨f, hf⟩ : ∃ f, A[k]? = some f := ⟨_, List.getElem?_eq_getElem hlt0⟩
      obtain ⟨ft, fx, fok⟩ := ok0.out f (List.mem_of_getElem? hf)
      obtain ⟨b, o, rfl, hb0, c0, c1, c2, c3⟩ := msAt_at hf hbw hc.out
      have K1 := Lib.hid (keep_any wr (w.heap.size + 1) w.heap.size w.heap.size k D f.a0 f.a1 f.a2 f.a3 hsv (by omega) (Nat.le_refl _) (by omega) ft)
      have GK := Lib.hid (good_keep hgd (hsv.own.tidy law9) f.a0 f.a1 f.a2)
      have hlt0' : (k : Int) < (A.length : Int) := by omega
      have hlt1' : (k : Int) < 60 := by omega
      replace hf := Lib.hid hf
      replace hbw := Lib.hid hbw
      clear ft fx fok hsv hgd
      go_wp2_with fail
      refine K1.out.mono ?_
      rintro e w3 ⟨rfl, sv3, b3, els3⟩
      have B3 := Lib.hid (hbw.out.trans b3)
      replace sv3 := Lib.hid sv3
      clear c0 c1 c2 c3 K1 b3 els3 hbw
      go_wp2_with fail
      go_roundw
      case rel => exact ⟨k + 1, _, by simp, by omega, by omega, sv3.out, GK.out, B3.out⟩
      case measure => simp [intOf]; omega
    · have AL := Lib.hid (all_any wr (w.heap.size + 1) w.heap.size k D hsv hgd)
      by_cases hb1 : k < A.length
      all_goals
        first
          | have hb2 : ¬ (k : Int) < 60 := by omega
            have hb1' : (k : Int) < A.length := by omega
          | have hb2 : ¬ (k : Int) < (A.length : Int) := by omega
        replace hsv := Lib.hid hsv
        replace hgd := Lib.hid hgd
        replace hbw := Lib.hid hbw
        clear hlt
        go_wp2_with fail
        refine AL.out.mono ?_
        rintro e w3 ⟨v, L, rfl, m3, l3, b3⟩
        have sv3 := Lib.hid (hsv.out.keep b3)
        have B3 := Lib.hid (hbw.out.trans (b3.mono hbw.out.size))
        obtain ⟨xa, xc, rfl, hxl, hcL⟩ := id m3
        have hL32 : L.length ≤ 32 := Nat.le_trans l3.len hgd.out.le
        have hfull := l3.full hgd.out (hsv.out.own.entries law9)
        replace m3 := Lib.hid m3
        replace l3 := Lib.hid l3
        replace hcL := Lib.hid hcL
        replace hfull := Lib.hid hfull
        have hL32' : (L.length : Int) ≤ 32 := by omega
        clear AL b3 hsv hbw hxl
        go_wp2_with fail
        go_loopw [8, 9] (fun c8 c9 wv => ∃ j : Nat, c9 = .int .i64 (j : Int) ∧ j ≤ L.length ∧ wv.ownsRow w3.heap.size 33 4 c8 ((L.take j).filter fun f => matchB F f.a0).length (msAtC ((L.take j).filter fun f => matchB F f.a0)) ∧ Below w3.heap.size w3 wv) (fun _ iv _ => L.length - (intOf iv).toNat)
        case atStart => exact ⟨0, rfl, by omega, by simpa [msAtC] using World.ownsRow_nil _ _ _ _, Below.refl _ _⟩
        case round =>
          obtain ⟨j, rfl, hj, hO, hb2w⟩ := hrel
          by_cases hend : j = L.length
          · rw [hend, List.take_length] at hO
            have svr := sv3.out.keep hb2w
            have FN := Lib.hid (find_any wr (w.heap.size + 1) w.heap.size k D F svr hgd.out HF.out)
            have hBr := Lib.hid (B3.out.trans (hb2w.mono B3.out.size))
            have hjn : ¬ (j : Int) < (L.length : Int) := by omega
            replace svr := Lib.hid svr
            replace hO := Lib.hid hO
            clear hb2w
            replace hend := Lib.hid hend
            go_wp2_with fail
            refine FN.out.mono ?_
            rintro e w5 ⟨v5, FL, rfl, m5, l5, b5⟩
            obtain rfl := l5.one (l3.out.filter (P := matchB F))
            have hlf : (L.filter fun f => matchB F f.a0).length ≤ 32 := Nat.le_trans (List.length_filter_le _ _) hL32
            have mW := (MsAt.of_own hO.out (by omega)).keep b5 (Nat.le_refl _)
            have SE := Lib.hid (same_eq m5 mW (by omega))
            have sv5 := Lib.hid (svr.out.keep b5)
            have hB5 := Lib.hid (hBr.out.trans (b5.mono hBr.out.size))
            clear b5 m5 mW FN hBr svr
            go_wp2_with fail
            refine SE.out.mono ?_
            rintro e w6 ⟨rfl, b6⟩
            have LA := len_any w6 (w.heap.size + 1) w.heap.size k D (sv5.out.keep b6) (by omega)
            rw [← hfull.out] at LA
            replace LA := Lib.hid LA
            have hB6 := Lib.hid (hB5.out.trans (b6.mono hB5.out.size))
            clear b6 SE sv5 hB5
            go_wp2_with fail
            refine LA.out.mono ?_
            rintro e w7 ⟨rfl, b7⟩
            have hB7 := Lib.hid (hB6.out.trans (b7.mono hB6.out.size))
            clear b7 LA hB6
            go_wp2_with fail
            refine (awake_any _).mono ?_
            rintro e w8 ⟨rfl, b8⟩
            have hB8 := Lib.hid (hB7.out.trans (b8.mono hB7.out.size))
            clear b8 hB7
            go_wp2_with fail
            go_ret
            exact ⟨rfl, hB8.out⟩
          · have hjl : j < L.length := by omega
            have hjl' : (j : Int) < (L.length : Int) := by omega
            obtain ⟨f, hf⟩ : ∃ f, L[j]? = some f := ⟨_, List.getElem?_eq_getElem hjl⟩
            obtain ⟨nx, nr, nb, -⟩ := (l3.out.inn f (List.mem_of_getElem? hf)).2
            obtain ⟨ft, fx, fq, fr⟩ := f
            simp only at nx nr nb
            subst nr
            obtain ⟨b, o, rfl, hb0, c0, c1, c2, c3⟩ := msAt_at hf hb2w hcL.out
            simp only at c0 c1 c2 c3
            have hx1 := size1 nx
            have hx2 : (fx.toList == []) = false := by
              cases hq : fx.toList with
              | nil => rw [hq] at hx1; simp at hx1
              | cons _ _ => rfl
            have hft := name_small nb
            have HB : j = 0 ∨ ∃ i g, j = i + 1 ∧ L[i]? = some g ∧ Op.bytesLess g.a0.toList ft.toList = true := by
              by_cases j0 : j = 0
              · exact .inl j0
              · refine .inr ⟨j - 1, L[j - 1]'(by omega), by omega, List.getElem?_eq_getElem (by omega), ?_⟩
                rw [lt_list, decide_eq_true_eq]
                have := (List.pairwise_iff_getElem.1 l3.out.up) (j - 1) j (by omega) hjl (by omega)
                have e := (List.getElem?_eq_some_iff.1 hf).2
                rw [e] at this
                exact this
            replace hf := Lib.hid hf
            replace hO := Lib.hid hO
            clear nx nb hend
            rcases HB with rfl | ⟨i, g, rfl, hgi, hbl⟩
            · replace hb2w := Lib.hid hb2w
              go_wp2_with fail
              go_quiet (fail)
              have Bq := below_drewN (Below.refl wr.heap.size wr) nq
              have hbq := hb2w.out.trans (Bq.mono hb2w.out.size)
              have hOq := hO.out.kept (none_of Bq) (by cases hv : u8.ownBlock <;> simp)
              obtain ⟨b2, o2, e2, -, q0, -, -, -⟩ := msAt_at hf.out hbq hcL.out
              simp only [Option.some.injEq, Addr.mk.injEq, and_true] at e2
              obtain ⟨rfl, rfl⟩ := e2
              generalize wr.drewN nq = wq at *
              simp only at q0
              have q0n := q0
              simp only [Nat.zero_mul, Nat.add_zero] at q0n
              replace hbq := Lib.hid hbq
              replace hOq := Lib.hid hOq
              clear c0 c1 c2 c3 Bq hO hb2w
              go_wp2_with fail
              refine (match_far F ft _ HF.out (by omega)).mono ?_
              rintro e w4 ⟨rfl, b4⟩
              have hb4 := hbq.out.trans (b4.mono hbq.out.size)
              obtain ⟨b2, o2, e2, -, q0', q1', q2', q3'⟩ := msAt_at hf.out hb4 hcL.out
              simp only [Option.some.injEq, Addr.mk.injEq, and_true] at e2
              obtain ⟨rfl, rfl⟩ := e2
              simp only at q0' q1' q2' q3'
              have q0n' := q0'
              have q1n' := q1'
              have q2n' := q2'
              have q3n' := q3'
              simp only [Nat.zero_mul, Nat.add_zero] at q0n' q1n' q2n' q3n'
              have hO4 := hOq.out.kept (none_of b4) (by cases hv : u8.ownBlock <;> simp)
              have htk : L.take (1) = L.take (0) ++ [⟨ft, fx, fq, true⟩] := by
                have e := List.getElem?_eq_some_iff.1 hf.out
                rw [List.take_succ_eq_append_getElem hjl, e.2]
              have hlw : ((L.take (0)).filter fun f => matchB F f.a0).length ≤ 32 := by
                refine Nat.le_trans (List.length_filter_le _ _) ?_
                rw [List.length_take]; omega
              clear q0 b4 hbq hOq
              cases hm : matchB F ft with
              | false =>
                have hfl : (L.take (1)).filter (fun f => matchB F f.a0) = (L.take (0)).filter (fun f => matchB F f.a0) := by
                  rw [htk, List.filter_append]; simp [hm]
                replace hO4 := Lib.hid hO4
                replace hb4 := Lib.hid hb4
                replace hfl := Lib.hid hfl
                clear q0' q1' q2' q3' htk hlw
                go_wp2_with fail
                go_roundw
                case rel => exact ⟨1, by simp, by omega, by rw [hfl.out]; exact hO4.out, hb4.out⟩
                case measure => simp [intOf]; omega
              | true =>
                have hfl : (L.take (1)).filter (fun f => matchB F f.a0) = (L.take (0)).filter (fun f => matchB F f.a0) ++ [⟨ft, fx, fq, true⟩] := by
                  rw [htk, List.filter_append]; simp [hm]
                generalize (L.take (0)).filter (fun f => matchB F f.a0) = WL at *
                have O5 := Lib.hid (hO4.alloc (.cells #[.string ft, .string fx, .int .i64 fq, .bool true] 33))
                have M5 : MsAt (w4.alloc (.cells #[.string ft, .string fx, .int .i64 fq, .bool true] 33)) (.slice (some ⟨w4.heap.size, 0, none⟩) 1 1) [(⟨ft, fx, fq, true⟩ : Mg)] := mg_one
                replace M5 := Lib.hid M5
                have B5 := Lib.hid (hb4.alloc hb4.size (.cells #[.string ft, .string fx, .int .i64 fq, .bool true] 33))
                replace hfl := Lib.hid hfl
                replace hlw := Lib.hid hlw
                clear hO4 hb4 htk
                go_wp2_with (at_builtin; go_must (refine wpList_append_ms _ rfl (.tmp 74) (.tmp 79) rfl w3.heap.size _ WL.length (msAtC WL) [(⟨ft, fx, fq, true⟩ : Mg)] rfl O5.out M5.out B5.out.size (by have := hlw.out; simp; omega) ?_); intro v6 w6 o6 g6)
                go_roundw
                case rel =>
                  refine ⟨1, by simp, by omega, ?_, B5.out.grown g6 B5.out.size (fun j hj => (O5.out.lt j hj).1)⟩
                  rw [hfl.out, List.length_append, msAtC_append]
                  exact o6
                case measure => simp [intOf]; omega
            · obtain ⟨b', o', e', -, d0, -⟩ := msAt_at hgi hb2w hcL.out
              simp only [Option.some.injEq, Addr.mk.injEq, and_true] at e'
              obtain ⟨rfl, rfl⟩ := e'
              replace hb2w := Lib.hid hb2w
              replace hgi := Lib.hid hgi
              generalize hJ : ((i + 1 : Nat) : Int) = J at *
              obtain ⟨M, hM⟩ : ∃ M : Int, M = J - 1 := ⟨_, rfl⟩
              have hJn : J.toNat = i + 1 := by omega
              have hJm : M.toNat = i := by omega
              have hJg : decide (0 < J) = true := by simp; omega
              have hJ0 : 0 ≤ J := by omega
              have hJ1 : 0 ≤ M := by omega
              have hJ2 : M < (L.length : Int) := by omega
              have hJ3 : J ≤ 32 := by omega
              have hJw : IntKind.i64.wrap (J - 1) = M := by rw [hM]; simp [IntKind.wrap, IntKind.bits, IntKind.signed]; omega
              have hlt' : g.a0.toList < ft.toList := by
                rw [lt_list, decide_eq_true_eq] at hbl
                exact hbl
              have hb2 : Op.bytesLess ft.toList g.a0.toList = false := by
                rw [lt_list, decide_eq_false_iff_not]
                exact fun h => List.lt_irrefl _ (List.lt_trans h hlt')
              have hb3 : (ft.toList == g.a0.toList) = false := by
                rw [beq_eq_false_iff_ne]
                exact fun h => by rw [h] at hlt'; exact List.lt_irrefl _ hlt'
              replace hlt' := Lib.hid hlt'
              replace hJ := Lib.hid hJ
              replace hM := Lib.hid hM
              go_wp2_with fail
              go_quiet (fail)
              have Bq := below_drewN (Below.refl wr.heap.size wr) nq
              have hbq := hb2w.out.trans (Bq.mono hb2w.out.size)
              have hOq := hO.out.kept (none_of Bq) (by cases hv : u8.ownBlock <;> simp)
              obtain ⟨b2, o2, e2, -, q0, -, -, -⟩ := msAt_at hf.out hbq hcL.out
              simp only [Option.some.injEq, Addr.mk.injEq, and_true] at e2
              obtain ⟨rfl, rfl⟩ := e2
              generalize wr.drewN nq = wq at *
              simp only at q0
              replace hbq := Lib.hid hbq
              replace hOq := Lib.hid hOq
              clear c0 c1 c2 c3 Bq hO hb2w d0
              go_wp2_with fail
              refine (match_far F ft _ HF.out (by omega)).mono ?_
              rintro e w4 ⟨rfl, b4⟩
              have hb4 := hbq.out.trans (b4.mono hbq.out.size)
              obtain ⟨b2, o2, e2, -, q0', q1', q2', q3'⟩ := msAt_at hf.out hb4 hcL.out
              simp only [Option.some.injEq, Addr.mk.injEq, and_true] at e2
              obtain ⟨rfl, rfl⟩ := e2
              simp only at q0' q1' q2' q3'
              have hO4 := hOq.out.kept (none_of b4) (by cases hv : u8.ownBlock <;> simp)
              have htk : L.take (i + 1 + 1) = L.take (i + 1) ++ [⟨ft, fx, fq, true⟩] := by
                have e := List.getElem?_eq_some_iff.1 hf.out
                rw [List.take_succ_eq_append_getElem hjl, e.2]
              have hlw : ((L.take (i + 1)).filter fun f => matchB F f.a0).length ≤ 32 := by
                refine Nat.le_trans (List.length_filter_le _ _) ?_
                rw [List.length_take]; omega
              clear q0 b4 hbq hOq
              cases hm : matchB F ft with
              | false =>
                have hfl : (L.take (i + 1 + 1)).filter (fun f => matchB F f.a0) = (L.take (i + 1)).filter (fun f => matchB F f.a0) := by
                  rw [htk, List.filter_append]; simp [hm]
                replace hO4 := Lib.hid hO4
                replace hb4 := Lib.hid hb4
                replace hfl := Lib.hid hfl
                clear q0' q1' q2' q3' htk hlw
                go_wp2_with fail
                go_roundw
                case rel => exact ⟨i + 1 + 1, by simp; have := hJ.out; omega, by omega, by rw [hfl.out]; exact hO4.out, hb4.out⟩
                case measure => simp [intOf]; omega
              | true =>
                have hfl : (L.take (i + 1 + 1)).filter (fun f => matchB F f.a0) = (L.take (i + 1)).filter (fun f => matchB F f.a0) ++ [⟨ft, fx, fq, true⟩] := by
                  rw [htk, List.filter_append]; simp [hm]
                generalize (L.take (i + 1)).filter (fun f => matchB F f.a0) = WL at *
                have O5 := Lib.hid (hO4.alloc (.cells #[.string ft, .string fx, .int .i64 fq, .bool true] 33))
                have M5 : MsAt (w4.alloc (.cells #[.string ft, .string fx, .int .i64 fq, .bool true] 33)) (.slice (some ⟨w4.heap.size, 0, none⟩) 1 1) [(⟨ft, fx, fq, true⟩ : Mg)] := mg_one
                replace M5 := Lib.hid M5
                have B5 := Lib.hid (hb4.alloc hb4.size (.cells #[.string ft, .string fx, .int .i64 fq, .bool true] 33))
                replace hfl := Lib.hid hfl
                replace hlw := Lib.hid hlw
                clear hO4 hb4 htk
                go_wp2_with (at_builtin; go_must (refine wpList_append_ms _ rfl (.tmp 74) (.tmp 79) rfl w3.heap.size _ WL.length (msAtC WL) [(⟨ft, fx, fq, true⟩ : Mg)] rfl O5.out M5.out B5.out.size (by have := hlw.out; simp; omega) ?_); intro v6 w6 o6 g6)
                go_roundw
                case rel =>
                  refine ⟨i + 1 + 1, by simp; have := hJ.out; omega, by omega, ?_, B5.out.grown g6 B5.out.size (fun j hj => (O5.out.lt j hj).1)⟩
                  rw [hfl.out, List.length_append, msAtC_append]
                  exact o6
                case measure => simp [intOf]; omega

set_option maxRecDepth 100000 in
theorem lifted (os : Os) (started : os.Started) (H : Type) (enc : TypeId × Value → H) :
    ReturnsInHanded {} Try.checked os 4 .any (Rows.retainFindsSpec.pre6 enc Try.prog Try.f4 Rows.retainFindsRow.domain false) (Rows.retainFindsSpec.post enc Try.prog Try.f4 false true false false) := by
  refine returnsInHanded_of_change_sized (C := Try.checked) own started (by kernel_rfl) Try.func4
    (ChangeSpec.witness6 (enc := enc) (C := Try.checked) false ⟨#[], #[.slice none 0 0, .string ByteArray.empty], []⟩ 8 (by kernel_rfl) (by kernel_rfl) (by kernel_rfl) (by kernel_rfl)) ?_
  intro W base args ds gs before hval0 hW hcnd hsz0 _
  have hsz : (DataW.weightsEach Try.prog (Try.f4.params.toList ++ Rows.retainFindsSpec.plain.varTypes Try.prog) (ds ++ gs)).all (· ≤ reachBytes) = true := hsz0
  have hval : ∀ (j : Nat) t v, Try.f4.params[j]? = some t → args[j]? = some v → Value.okWide Try.prog W .any base t v := hval0
  have hW' := hW
  obtain ⟨p, q, hA0, hV, rfl, hfz, hnd⟩ := hW
  have hA : DataW.TrodAll enc Try.prog W 0 (fun _ => true) true Try.f4.params.toList args.toList ds p := hA0
  rw [Try.params4] at hA hval hsz
  obtain ⟨v0, vs0, d0, ds0, p0, q0, hargs, rfl, rfl, h0, r0⟩ := trodAll_cons hA
  obtain ⟨v1, vs1, d1, ds1, p1, q1, rfl, rfl, rfl, h1, r1⟩ := trodAll_cons r0
  obtain ⟨rfl, rfl, rfl⟩ := trodAll_nil r1
  obtain rfl : args = #[v0, v1] := by cases args; simp_all
  obtain ⟨rfl, rfl⟩ := trodVars_none hV
  have k0 := h0
  have lt0 : ∀ x ∈ p0, x.block < W.heap.size := by obtain ⟨m, hm⟩ := k0; exact DataW.trod_lt m _ _ _ hm
  have k1 := h1
  have lt1 : ∀ x ∈ p1, x.block < W.heap.size := by obtain ⟨m, hm⟩ := k1; exact DataW.trod_lt m _ _ _ hm
  obtain ⟨a0, len0, cap0, rfl⟩ := okWide_slice Try.underlying22 (hval 0 22 v0 rfl rfl)
  obtain ⟨z0, w0, s0⟩ : ∃ l : List Mg, MsAt W (.slice a0 len0 cap0) l ∧ ∀ f ∈ l, f.ok := by
    obtain ⟨fuel, hf⟩ := h0
    exact open_ms hf (fun n hn => by
      have hm := List.all_eq_true.1 hsz n (DataW.weights_mem_each (j := 0) (t := 22) rfl rfl _ hn)
      simpa [reachBytes] using of_decide_eq_true hm)
  obtain ⟨a1, rfl, rfl, rfl, w1⟩ := open_string Try.underlying9 (hval 1 9 v1 rfl rfl) h1
  have s1 : a1.size ≤ 140737488351232 := by
    have := sized_string hsz (j := 1) (t := 9) rfl rfl
    simp only [Array.length_toList, reachBytes] at this
    exact this
  clear hA0 hval0 hsz0
  refine (walk a0 len0 cap0 z0 a1 W w0 s0 s1).mono fun e W' ⟨he, bel⟩ => ?_
  subst he
  exact ⟨_, rfl, _, _, _, [], _, [], hW', trodAll_mk1 (shut_bool Try.underlying4 _), (trodAll_cons_mk (Below.trod laidOut (by kernel_rfl) (of_decide_eq_true (by kernel_rfl)) k0 bel lt0) (trodAll_cons_mk (Below.trod laidOut (by kernel_rfl) (of_decide_eq_true (by kernel_rfl)) k1 bel lt1) trodAll_mk0)), rfl, bel.frame _, fun h => by cases h⟩

theorem over : Rows.retainFindsRow.holds Try.pinned (OpenSpec.ofChange Rows.retainFindsSpec) :=
  OpenClaim.holds_of_wide 4 Try.f4 rfl rfl rfl rfl rfl rfl rfl ⟨rfl, rfl, rfl, rfl, rfl⟩ rfl rfl rfl rfl rfl (by kernel_rfl) Try.func4 (by kernel_rfl)
    (of_decide_eq_true (by kernel_rfl)) (by unfold Func.isWrapper; first | (rw [if_pos (by decide +kernel)]; kernel_rfl) | (rw [if_neg (by decide +kernel)]; exact ⟨rfl, rfl⟩))
    (fun os started H enc _ => lifted os started H enc)

theorem proved : Rows.RetainFindsSaid := over
end Go.Proofs.Ytfdaooaooalknaa.retainFinds
