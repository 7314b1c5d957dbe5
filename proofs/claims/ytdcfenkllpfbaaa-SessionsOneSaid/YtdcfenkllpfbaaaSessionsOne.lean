/-
  SessionsOne: FOR EVERY INPUT the law returns true and leaves its arguments as they were.
-/
import Derived.Test.YtdcfenkllpfbaaaBm
import Derived.Test.YtdcfenkllpfbaaaAs
import Derived.Test.YtdcfenkllpfbaaaRows
import Derived.Deep.RegionHeld3
import Derived.Lib.AtoiErrMem
import Derived.WalkKit
import Derived.ProofKit
import Derived.OpenShut
import Derived.ShutString
import Derived.ChangeOld
import Derived.Below
import Derived.SizedLaws
import Derived.Lib.SmallJoins
namespace Go.Proofs.Ytdcfenkllpfbaaa.sessionsOne
set_option linter.unusedSimpArgs false
open Go.ChangeShapes Go.WideShapes Go.ChangeAt Go.RowKit
open Go.ChangeMaps (open_string shut_string)
set_option linter.unusedVariables false

theorem own : ownKnob Try.prog.godebug = none := by kernel_rfl
theorem laidOut : laidOutB Try.prog = true := by kernel_rfl

open Sns Que
/-- What a round has. -/
def SOl (w wr : World) (t : Nat) : Prop := ∃ L, St wr t 0 L ∧ Below w.heap.size w wr
theorem tk_at {L : List (Option Ze)} {k : Nat} (hk : k < (tkS (spS L) 0).length) : ∃ (i : Nat) (z : Ze), L[i]? = some (some z) ∧ (slS (tkS (spS L) 0))[k]? = some (.int .i64 (i : Int)) := by
  have hm := List.getElem_mem hk
  obtain ⟨i, z, h1, h2, h3⟩ := tkS_mem L 0 _ hm
  refine ⟨i, z, h1, ?_⟩
  rw [slS, List.getElem?_map, List.getElem?_eq_getElem hk, Option.map_some, h3, Nat.zero_add]
set_option maxHeartbeats 32000000 in
set_option maxRecDepth 100000 in
theorem walk (ad : Option Addr) (len cap : Nat) (A : List Acs.Ac) (w : World) (h0 : Acs.AcsAt w (.slice ad len cap) A) (ok0 : ∀ f ∈ A, f.ok) :
    Calls Try.prog 5 #[.slice ad len cap] w (Yes w) := by
  obtain ⟨x0, y0, hv0, hl0, hc⟩ := id h0
  simp only [Value.slice.injEq] at hv0
  obtain ⟨rfl, rfl, rfl⟩ := hv0
  have hl0' : (A.length : Int) ≤ 9223372036854775807 := by omega
  replace hc := Lib.hid hc
  replace ok0 := Lib.hid ok0
  clear h0 hl0
  go_enter Try.func5, Try.ntmps5
  go_wp2_with fail
  refine (st_new _).mono ?_
  rintro e w1 ⟨rfl, h1, b1⟩
  replace h1 := Lib.hid h1
  replace b1 := Lib.hid b1
  go_wp2_with fail
  go_loopw [4] (fun iv wr => ∃ i : Nat, iv = .int .i64 (i : Int) ∧ i ≤ A.length ∧ i ≤ 60 ∧ SOl w wr w.heap.size) (fun iv _ => A.length - (intOf iv).toNat)
  case atStart => exact ⟨0, rfl, by omega, by omega, _, h1.out, b1.out⟩
  case round =>
    obtain ⟨i, rfl, hi, hi2, L, h, hb⟩ := hrel
    clear h1 b1
    by_cases hlt : i < A.length ∧ i < 60
    · obtain ⟨hlt0, hlt1⟩ := hlt
      obtain ⟨y, hy⟩ : ∃ y, A[i]? = some y := ⟨_, List.getElem?_eq_getElem hlt0⟩
      have CS := Lib.hid (fun W (hW : Below wr.heap.size wr W) => Acs.acsAt_at hy (hb.trans (hW.mono hb.size)) hc.out)
      have hok := (ok0.out y (List.mem_of_getElem? hy)).2.1
      obtain ⟨K, cl, cn, sl⟩ := y
      obtain ⟨b', o', e', -, c0, c1, c2, c3⟩ := CS.out _ (Below.refl _ _)
      subst e'
      simp only at c0 c1 c2 c3 hok
      have hlt0' : (i : Int) < (A.length : Int) := by omega
      have hlt1' : (i : Int) < 60 := by omega
      have OP := Lib.hid (fun W (hW : Below wr.heap.size wr W) => (st_open (h.ext hW) (Int.le_refl 0) cl cn hok).mono (R' := fun e w' => ∃ v L', e = .returned (.tuple v) ∧ St w' w.heap.size 0 L' ∧ Below w.heap.size w w') (fun e w' he => by
        obtain ⟨rfl, F, L', h', -⟩ := he
        exact ⟨_, L', rfl, h', Far.ext0 (B := 0) F (hb.trans (hW.mono hb.size)) (Nat.le_refl _)⟩))
      have DR := Lib.hid ((st_drop h sl).mono (R' := fun e w' => ∃ v L', e = .returned v ∧ St w' w.heap.size 0 L' ∧ Below w.heap.size w w') (fun e w' he => by
        obtain ⟨rfl, h', F⟩ := he
        exact ⟨_, _, rfl, h', Far.ext0 (B := 0) F hb (Nat.le_refl _)⟩))
      clear h
      by_cases hK : K = 2
      case' neg =>
        have hKO := Lib.hid (fun W (hW : Below w.heap.size w W) => (show W.cell? ⟨b', o' + i * 4 + 1, none⟩ = some (.string cl) ∧ W.cell? ⟨b', o' + i * 4 + 2, none⟩ = some (.bool cn) from by
          obtain ⟨b2, o2, e2, -, -, d1, d2, -⟩ := Acs.acsAt_at hy hW hc.out
          simp only [Option.some.injEq, Addr.mk.injEq, and_true] at e2
          obtain ⟨rfl, rfl⟩ := e2
          exact ⟨d1, d2⟩))
        have hK2 : (K == 2) = false := by simpa using hK
        go_wp2_with fail
        go_region_held3 (fun W => W.cell? ⟨b', o' + i * 4 + 1, none⟩ = some (.string cl) ∧ W.cell? ⟨b', o' + i * 4 + 2, none⟩ = some (.bool cn))
          (exact hKO.out _ (by first | assumption | exact hb.drew))
          (first | (go_at_call 7; refine (OP.out _ (by first | exact Below.refl _ _ | exact ext_drew _ | assumption)).mono ?_; rintro e w3 ⟨v, L3, rfl, h3, b3⟩))
      case' pos =>
        clear hb
        subst hK
        go_wp2_with fail
        refine DR.out.mono ?_
        rintro e w3 ⟨v, L3, rfl, h3, b3⟩
      all_goals
        have AL := Lib.hid (st_all h3)
        have H3 := Lib.hid h3
        have B3 := Lib.hid b3
        clear h3 b3 OP DR CS c0 c1 c2 c3
        go_wp2_with fail
        refine AL.out.mono ?_
        rintro e w4 ⟨v4, rfl, o4, b4⟩
        have hl8 : ((tkS (spS L3) 0).length : Int) ≤ 8 := by have := tkS_len (spS L3) 0; rw [H3.out.sp.len] at this; omega
        have H4 := Lib.hid (H3.out.ext b4)
        have B4 := Lib.hid (ext_trans B3.out b4)
        obtain ⟨va, vc, rfl⟩ := own_slice o4
        obtain ⟨T, hT⟩ : ∃ T, T = tkS (spS L3) 0 := ⟨_, rfl⟩
        have TK : Hid (∀ k, k < T.length → ∃ (i : Nat) (z : Ze), L3[i]? = some (some z) ∧ (slS T)[k]? = some (.int .i64 (i : Int))) := Lib.hid (fun k hk => by rw [hT] at hk ⊢; exact tk_at hk)
        rw [← hT] at o4 hl8
        rw [← hT]
        have O4 := Lib.hid o4
        clear o4 b4 H3 B3 AL hT
        go_wp2_with fail
        go_loopw [6] (fun iv W => ∃ k : Nat, iv = .int .i64 (k : Int) ∧ k ≤ T.length ∧ Below w4.heap.size w4 W) (fun iv _ => T.length - (intOf iv).toNat)
        case atStart => exact ⟨0, rfl, by omega, Below.refl _ _⟩
        case round =>
          obtain ⟨k, rfl, hk, bk⟩ := hrel
          by_cases hkl : k < T.length
          · have hkl' : (k : Int) < (T.length : Int) := by omega
            obtain ⟨j, z, hj, hsk⟩ := TK.out k hkl
            obtain ⟨vg, vc', e4⟩ := own_slice' O4.out (by omega)
            simp only [Value.slice.injEq] at e4
            obtain ⟨rfl, -, rfl⟩ := e4
            have ck := own_get (own_keep O4.out bk) hsk
            have Hk := Lib.hid (H4.out.ext bk)
            have AT := st_at Hk.out (j : Int)
            rw [plS_in hj, show ptrZ (some z) = some ⟨z.s, 0, none⟩ from rfl] at AT
            replace AT := Lib.hid AT
            have CL := Lib.hid (s_client (Hk.out.at_ j z hj).sn)
            have FD := st_find Hk.out z.cl
            rw [Hk.out.found hj] at FD
            replace FD := Lib.hid FD
            have bk' := Lib.hid bk
            clear bk hsk hj TK
            go_wp2_with fail
            refine AT.out.mono ?_
            rintro e w5 ⟨rfl, rfl⟩
            go_wp2_with fail
            refine CL.out.mono ?_
            rintro e w5 ⟨rfl, rfl⟩
            go_wp2_with fail
            refine FD.out.mono ?_
            rintro e w5 ⟨rfl, b5⟩
            have ck5 := (b5.cell (p := ⟨vg, k, none⟩) (Lib.lt_of_cell ck)).trans ck
            have b6 := Lib.hid (ext_trans bk'.out b5)
            clear b5 bk' AT CL FD Hk
            simp only [fndV] at *
            go_wp2_with fail
            go_roundw
            case rel => exact ⟨k + 1, by simp, by omega, b6.out⟩
            case measure => simp [intOf]; omega
          · have hkl' : ¬ (k : Int) < (T.length : Int) := by omega
            have hl8' : ¬ (8 : Int) < (T.length : Int) := by omega
            have H5 := Lib.hid (H4.out.ext bk)
            have B5 := Lib.hid (ext_trans B4.out bk)
            clear bk H4 B4 O4 TK
            go_wp2_with fail
            go_roundw
            case rel => exact ⟨i + 1, by simp, by omega, by omega, L3, H5.out, B5.out⟩
            case measure => simp [intOf]; omega
    · have HB := Lib.hid hb
      clear h hb
      rcases Nat.lt_or_ge i A.length with hl | hl
      · have hlt' : (i : Int) < (A.length : Int) := by omega
        have hlt2' : ¬ (i : Int) < 60 := by omega
        go_wp2_with fail
        refine (awake28_any _).mono ?_
        rintro e w6 ⟨rfl, b6⟩
        go_wp2_with fail
        go_ret
        exact ⟨rfl, ext_trans HB.out b6⟩
      · have hlt' : ¬ (i : Int) < (A.length : Int) := by omega
        go_wp2_with fail
        refine (awake28_any _).mono ?_
        rintro e w6 ⟨rfl, b6⟩
        go_wp2_with fail
        go_ret
        exact ⟨rfl, ext_trans HB.out b6⟩

set_option maxRecDepth 100000 in
theorem lifted (os : Os) (started : os.Started) (H : Type) (enc : TypeId × Value → H) :
    ReturnsInHanded {} Try.checked os 5 .any (Rows.sessionsOneSpec.pre6 enc Try.prog Try.f5 Rows.sessionsOneRow.domain false) (Rows.sessionsOneSpec.post enc Try.prog Try.f5 false true false false) := by
  refine returnsInHanded_of_change_sized (C := Try.checked) own started (by kernel_rfl) Try.func5
    (ChangeSpec.witness6 (enc := enc) (C := Try.checked) false ⟨#[], #[.slice none 0 0], []⟩ 8 (by kernel_rfl) (by kernel_rfl) (by kernel_rfl) (by kernel_rfl)) ?_
  intro W base args ds gs before hval0 hW hcnd hsz0 _
  have hsz : (DataW.weightsEach Try.prog (Try.f5.params.toList ++ Rows.sessionsOneSpec.plain.varTypes Try.prog) (ds ++ gs)).all (· ≤ reachBytes) = true := hsz0
  have hval : ∀ (j : Nat) t v, Try.f5.params[j]? = some t → args[j]? = some v → Value.okWide Try.prog W .any base t v := hval0
  have hW' := hW
  obtain ⟨p, q, hA0, hV, rfl, hfz, hnd⟩ := hW
  have hA : DataW.TrodAll enc Try.prog W 0 (fun _ => true) true Try.f5.params.toList args.toList ds p := hA0
  rw [Try.params5] at hA hval hsz
  obtain ⟨v0, vs0, d0, ds0, p0, q0, hargs, rfl, rfl, h0, r0⟩ := trodAll_cons hA
  obtain ⟨rfl, rfl, rfl⟩ := trodAll_nil r0
  obtain rfl : args = #[v0] := by cases args; simp_all
  obtain ⟨rfl, rfl⟩ := trodVars_none hV
  have k0 := h0
  have lt0 : ∀ x ∈ p0, x.block < W.heap.size := by obtain ⟨m, hm⟩ := k0; exact DataW.trod_lt m _ _ _ hm
  obtain ⟨a0, len0, cap0, rfl⟩ := okWide_slice Try.underlying50 (hval 0 50 v0 rfl rfl)
  obtain ⟨z0, w0, s0⟩ : ∃ l : List Acs.Ac, Acs.AcsAt W (.slice a0 len0 cap0) l ∧ ∀ f ∈ l, f.ok := by
    obtain ⟨fuel, hf⟩ := h0
    exact Acs.open_acs hf (fun n hn => by
      have hm := List.all_eq_true.1 hsz n (DataW.weights_mem_each (j := 0) (t := 50) rfl rfl _ hn)
      simpa [reachBytes] using of_decide_eq_true hm)
  clear hA0 hval0 hsz0
  refine (walk a0 len0 cap0 z0 W w0 s0).mono fun e W' ⟨he, bel⟩ => ?_
  subst he
  exact ⟨_, rfl, _, _, _, [], _, [], hW', trodAll_mk1 (shut_bool Try.underlying4 _), (trodAll_cons_mk (Below.trod laidOut (by kernel_rfl) (of_decide_eq_true (by kernel_rfl)) k0 bel lt0) trodAll_mk0), rfl, bel.frame _, fun h => by cases h⟩

theorem over : Rows.sessionsOneRow.holds Try.pinned (OpenSpec.ofChange Rows.sessionsOneSpec) :=
  OpenClaim.holds_of_wide 5 Try.f5 rfl rfl rfl rfl rfl rfl rfl ⟨rfl, rfl, rfl, rfl, rfl⟩ rfl rfl rfl rfl rfl (by kernel_rfl) Try.func5 (by kernel_rfl)
    (of_decide_eq_true (by kernel_rfl)) (by unfold Func.isWrapper; first | (rw [if_pos (by decide +kernel)]; kernel_rfl) | (rw [if_neg (by decide +kernel)]; exact ⟨rfl, rfl⟩))
    (fun os started H enc _ => lifted os started H enc)

theorem proved : Rows.SessionsOneSaid := over
end Go.Proofs.Ytdcfenkllpfbaaa.sessionsOne
