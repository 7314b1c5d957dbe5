/-
  ClocksOrder: FOR EVERY INPUT the law returns true and leaves its arguments as they were.
-/
import Derived.Test.YtcjoemejoeekiaaCt
import Derived.Test.YtcjoemejoeekiaaCp
import Derived.Test.YtcjoemejoeekiaaCv
import Derived.Test.YtcjoemejoeekiaaRows
import Derived.WalkKit
import Derived.ProofKit
import Derived.OpenShut
import Derived.ShutString
import Derived.ChangeOld
import Derived.Below
import Derived.SizedLaws
import Derived.Lib.SmallJoins
namespace Go.Proofs.Ytcjoemejoeekiaa.clocksOrder
open Go.ChangeShapes Go.WideShapes Go.ChangeAt Go.RowKit
open Go.ChangeMaps (open_string shut_string)
set_option linter.unusedVariables false

theorem own : ownKnob Try.prog.godebug = none := by kernel_rfl
theorem laidOut : laidOutB Try.prog = true := by kernel_rfl

open Cl Que Hp
def Lc (z : List Int) (i : Nat) : List Tm := (List.range i).map fun j => ⟨z.getD j 0, (j : Int)⟩
def Ld (z : List Int) (i : Nat) : List Tm := (List.range i).map fun j => ⟨z.getD (7 - j) 0, 7 - (j : Int)⟩
theorem putL_new {L : List Tm} {k d : Int} (h : ∀ x ∈ L, x.k ≠ k) : putL L k d = L ++ [⟨d, k⟩] := by unfold putL; rw [delL_no h]
theorem Lc_next (z : List Int) (i : Nat) : putL (Lc z i) (i : Int) (z.getD i 0) = Lc z (i + 1) := by
  rw [putL_new]
  · unfold Lc; rw [List.range_succ, List.map_append]; rfl
  · intro x hx
    obtain ⟨j, hj, rfl⟩ := List.mem_map.1 hx
    have := List.mem_range.1 hj
    simp only; omega
theorem Ld_next (z : List Int) (i : Nat) : putL (Ld z i) (7 - (i : Int)) (z.getD (7 - i) 0) = Ld z (i + 1) := by
  rw [putL_new]
  · unfold Ld; rw [List.range_succ, List.map_append]; rfl
  · intro x hx
    obtain ⟨j, hj, rfl⟩ := List.mem_map.1 hx
    have := List.mem_range.1 hj
    simp only; omega
theorem Lcd (x0 x1 x2 x3 x4 x5 x6 x7 : Int) : (Lc [x0, x1, x2, x3, x4, x5, x6, x7] 8).Perm (Ld [x0, x1, x2, x3, x4, x5, x6, x7] 8) := by
  have : Ld [x0, x1, x2, x3, x4, x5, x6, x7] 8 = (Lc [x0, x1, x2, x3, x4, x5, x6, x7] 8).reverse := rfl
  rw [this]
  exact (List.reverse_perm _).symm
theorem Lc_mem {z : List Int} {x : Tm} (hx : x ∈ Lc z 8) : ∃ j : Nat, j < 8 ∧ x.k = (j : Int) ∧ x.d = z.getD j 0 := by
  obtain ⟨j, hj, rfl⟩ := List.mem_map.1 hx
  exact ⟨j, List.mem_range.1 hj, rfl, rfl⟩
theorem Lc_nd (z : List Int) : ((Lc z 8).map Tm.k).Nodup := by
  have : (Lc z 8).map Tm.k = [0, 1, 2, 3, 4, 5, 6, 7] := rfl
  rw [this]; decide
/-- The array's cells. -/
def Dz (w : World) (p : Nat) (z : List Int) : Prop := ∀ j, j < 8 → w.cell? ⟨p, j, none⟩ = some (.int .u16 (z.getD j 0))
theorem Dz.keep {w w' : World} {p b : Nat} {z : List Int} (h : Dz w p z) (hb : Below b w w') (hp : p < b) : Dz w' p z := fun j hj => (hb.cell (p := ⟨p, j, none⟩) hp).trans (h j hj)
set_option maxHeartbeats 16000000 in
set_option maxRecDepth 100000 in
theorem walk (x0 x1 x2 x3 x4 x5 x6 x7 : Int) (w : World) (b0 : 0 ≤ x0 ∧ x0 ≤ 65535) (b1 : 0 ≤ x1 ∧ x1 ≤ 65535) (b2 : 0 ≤ x2 ∧ x2 ≤ 65535) (b3 : 0 ≤ x3 ∧ x3 ≤ 65535) (b4 : 0 ≤ x4 ∧ x4 ≤ 65535) (b5 : 0 ≤ x5 ∧ x5 ≤ 65535) (b6 : 0 ≤ x6 ∧ x6 ≤ 65535) (b7 : 0 ≤ x7 ∧ x7 ≤ 65535) :
    Calls Try.prog 6 #[.agg #[.int .u16 x0, .int .u16 x1, .int .u16 x2, .int .u16 x3, .int .u16 x4, .int .u16 x5, .int .u16 x6, .int .u16 x7]] w (Yes w) := by
  obtain ⟨z, hz⟩ : ∃ z, z = [x0, x1, x2, x3, x4, x5, x6, x7] := ⟨_, rfl⟩
  have P8 := Lib.hid (Lcd x0 x1 x2 x3 x4 x5 x6 x7)
  have ZR : Hid (∀ j, 0 ≤ z.getD j 0 ∧ z.getD j 0 ≤ 65535) := Lib.hid (by
    intro j
    rw [List.getD_eq_getElem?_getD]
    cases h : z[j]? with
    | none => simp
    | some y =>
      have := List.mem_of_getElem? h
      rw [hz] at this
      simp at this
      simp only [Option.getD_some]
      rcases this with rfl | rfl | rfl | rfl | rfl | rfl | rfl | rfl <;> assumption)
  have Z0 : (w.alloc (.cells #[.int .u16 x0, .int .u16 x1, .int .u16 x2, .int .u16 x3, .int .u16 x4, .int .u16 x5, .int .u16 x6, .int .u16 x7] 50)).heap[w.heap.size]? = some (.cells #[.int .u16 x0, .int .u16 x1, .int .u16 x2, .int .u16 x3, .int .u16 x4, .int .u16 x5, .int .u16 x6, .int .u16 x7] 50 (0, 0)) := heap_alloc_new w _
  have DZ : Dz (w.alloc (.cells #[.int .u16 x0, .int .u16 x1, .int .u16 x2, .int .u16 x3, .int .u16 x4, .int .u16 x5, .int .u16 x6, .int .u16 x7] 50)) w.heap.size z := by
    intro j hj
    rw [cell_of_row _ w.heap.size j _ 50 (0, 0) Z0, hz]
    rcases (by omega : j = 0 ∨ j = 1 ∨ j = 2 ∨ j = 3 ∨ j = 4 ∨ j = 5 ∨ j = 6 ∨ j = 7) with rfl | rfl | rfl | rfl | rfl | rfl | rfl | rfl <;> rfl
  rw [← hz] at P8
  have B0 := Lib.hid (ext_alloc w (.cells #[.int .u16 x0, .int .u16 x1, .int .u16 x2, .int .u16 x3, .int .u16 x4, .int .u16 x5, .int .u16 x6, .int .u16 x7] 50))
  have ws : w.heap.size < (w.alloc (.cells #[.int .u16 x0, .int .u16 x1, .int .u16 x2, .int .u16 x3, .int .u16 x4, .int .u16 x5, .int .u16 x6, .int .u16 x7] 50)).heap.size := by simp
  have al := alen50
  clear b0 b1 b2 b3 b4 b5 b6 b7 hz Z0
  replace DZ := Lib.hid DZ
  go_enter Try.func6, Try.ntmps6
  go_wp2_with fail
  generalize w.alloc (.cells #[.int .u16 x0, .int .u16 x1, .int .u16 x2, .int .u16 x3, .int .u16 x4, .int .u16 x5, .int .u16 x6, .int .u16 x7] 50) = W0 at *
  have N1 := Lib.hid (dnew W0)
  refine N1.out.mono ?_
  rintro e w1 ⟨rfl, d1, b1⟩
  have N2 := Lib.hid (dnew w1)
  replace d1 := Lib.hid d1
  replace b1 := Lib.hid b1
  clear N1
  go_wp2_with fail
  refine N2.out.mono ?_
  rintro e w2 ⟨rfl, ⟨t2, m2, v2, d2⟩, b2⟩
  have T2 : Hid (Two W0.heap.size w2 (W0.heap.size + 2) 0 (Lc z 0) (w1.heap.size + 2) 0 (Ld z 0)) := Lib.hid (Two.of d1.out b2 d2)
  have B2 : Hid (Below W0.heap.size W0 w2) := Lib.hid (b1.out.trans (b2.mono b1.out.size))
  generalize w1.heap.size + 2 = c2 at *
  clear d2 b2 N2 d1 b1
  go_wp2_with fail
  go_loopw [5] (fun iv wr => ∃ i : Nat, iv = .int .i64 (i : Int) ∧ i ≤ 8 ∧ Two W0.heap.size wr (W0.heap.size + 2) i (Lc z i) c2 i (Ld z i) ∧ Below W0.heap.size W0 wr) (fun iv _ => 8 - (intOf iv).toNat)
  case atStart => exact ⟨0, rfl, by omega, T2.out, B2.out⟩
  case round =>
    obtain ⟨i, rfl, hi, h, hb⟩ := hrel
    clear T2 B2
    by_cases hlt : i < 8
    · have hlt' : (i : Int) < 8 := by omega
      have hi0 : (0 : Int) ≤ (i : Int) := by omega
      have k1 := (DZ.out.keep hb ws) i hlt
      have r1 := ZR.out i
      have S1 := Lib.hid (tset h (by omega) (who := (i : Int)) (due := z.getD i 0) (by omega) (by omega) (by omega) (by omega))
      rw [Lc_next] at S1
      generalize z.getD i 0 = y1 at *
      replace hb := Lib.hid hb
      clear h
      go_wp2_with fail
      refine S1.out.mono ?_
      rintro e w3 ⟨rfl, h3, b3⟩
      have B3 := Lib.hid (hb.out.trans b3)
      have k2 := (DZ.out.keep B3.out ws) (7 - i) (by omega)
      have r2 := ZR.out (7 - i)
      have S2 := Lib.hid (tset h3.symm (by omega) (who := 7 - (i : Int)) (due := z.getD (7 - i) 0) (by omega) (by omega) (by omega) (by omega))
      rw [Ld_next] at S2
      generalize z.getD (7 - i) 0 = y2 at *
      have i7 : (7 - (i : Int)).toNat = 7 - i := by omega
      clear h3 b3 S1 k1
      go_wp2_with fail
      refine S2.out.mono ?_
      rintro e w4 ⟨rfl, h4, b4⟩
      have H4 := Lib.hid h4.symm
      have B4 := Lib.hid (B3.out.trans b4)
      clear h4 b4 S2 k2
      go_wp2_with fail
      go_roundw
      case rel => exact ⟨i + 1, by simp, by omega, H4.out, B4.out⟩
      case measure => simp [intOf]; omega
    · obtain rfl : i = 8 := by omega
      have F1 := Lib.hid (tfire h (by omega) 70000)
      replace hb := Lib.hid hb
      clear h
      go_wp2_with fail
      refine F1.out.mono ?_
      rintro e w3 ⟨o, l, R, rfl, ho, hf, h3, b3⟩
      have F2 := Lib.hid (tfire2 h3.symm (by omega) 70000 ho)
      replace b3 := Lib.hid (hb.out.trans b3)
      replace hf := Lib.hid hf
      clear h3 F1 ho
      go_wp2_with fail
      refine F2.out.mono ?_
      rintro e w4 ⟨⟨o2, l2, R2, rfl, ho2, hf2, h4, b4⟩, ho⟩
      obtain ⟨rfl, pR⟩ := fired_det (Lc_nd z) (fun x hx => by obtain ⟨j, hj, hk, -⟩ := Lc_mem hx; omega) P8.out hf.out hf2
      have hR : R = [] := List.eq_nil_iff_forall_not_mem.2 fun x hx => by
        obtain ⟨h1, h2⟩ := fired_mem hf.out x hx
        obtain ⟨j, hj, -, hd⟩ := Lc_mem h1
        have := ZR.out j
        omega
      subst hR
      have hR2 : R2 = [] := by simpa using pR.symm.length_eq
      subst hR2
      have hl8 : l.length = 8 := by
        have := fired_len hf.out
        simp [Lc] at this
        omega
      have H4 := Lib.hid h4
      have HO := Lib.hid ho
      have HO2 := Lib.hid ho2
      have B4 := Lib.hid (b3.out.trans b4)
      obtain ⟨g, cc, hv⟩ := own_slice' ho (by omega)
      obtain ⟨g2, cc2, hv2⟩ := own_slice' ho2 (by omega)
      have FS : Hid (∀ i, i < 7 → ∃ p q : Nat, p < 8 ∧ q < 8 ∧ w4.cell? ⟨g, i, none⟩ = some (.int .i64 (p : Int)) ∧ w4.cell? ⟨g, i + 1, none⟩ = some (.int .i64 (q : Int)) ∧ z.getD p 0 * 8 + (p : Int) ≤ z.getD q 0 * 8 + (q : Int)) := Lib.hid (by
        intro i hi
        obtain ⟨a, ha⟩ : ∃ a, l[i]? = some a := ⟨_, List.getElem?_eq_getElem (by omega)⟩
        obtain ⟨b, hb⟩ : ∃ b, l[i + 1]? = some b := ⟨_, List.getElem?_eq_getElem (by omega)⟩
        obtain ⟨x, y, hx, hy, rfl, rfl, hk⟩ := fired_sorted hf.out ha hb
        obtain ⟨p, hp, xk, xd⟩ := Lc_mem hx
        obtain ⟨q, hq, yk, yd⟩ := Lc_mem hy
        refine ⟨p, q, hp, hq, ?_, ?_, ?_⟩
        · rw [row_get ho hv ha, xk]
        · rw [row_get ho hv hb, yk]
        · unfold key at hk
          rw [xk, yk, xd, yd] at hk
          exact hk)
      have gl : g < w4.heap.size := by
        have := HO.out
        rw [hv] at this
        exact this.lt g rfl |>.2
      rw [hl8] at hv hv2
      subst hv
      subst hv2
      clear h4 ho ho2 hf2 F2 b4 pR
      go_wp2_with fail
      go_loopw [8] (fun iv wr => ∃ i : Nat, iv = .int .i64 ((i : Int) + 1) ∧ i ≤ 7 ∧ Below w4.heap.size w4 wr) (fun iv _ => 8 - (intOf iv).toNat)
      case atStart => exact ⟨0, rfl, by omega, Below.refl _ _⟩
      case round =>
        obtain ⟨i, rfl, hi, hb2⟩ := hrel
        by_cases hlt2 : i < 7
        · have hi7 : (i : Int) < 7 := by omega
          obtain ⟨p, q, hp, hq, e1, e2, hk⟩ := FS.out i hlt2
          have e1' := (hb2.cell (p := ⟨g, i, none⟩) gl).trans e1
          have e2' := (hb2.cell (p := ⟨g, i + 1, none⟩) gl).trans e2
          have hW := DZ.out.keep (B4.out.trans (hb2.mono (by have := B4.out.size; omega))) ws
          have k1 := hW p hp
          have k2 := hW q hq
          have r1 := ZR.out p
          have r2 := ZR.out q
          have hp7 : (p : Int) < 8 := by omega
          have hq7 : (q : Int) < 8 := by omega
          generalize z.getD p 0 = y1 at *
          generalize z.getD q 0 = y2 at *
          have n1 : ¬ y2 < y1 := by omega
          have HB2 := Lib.hid hb2
          clear e1 e2 hb2 hW
          by_cases hy : y1 = y2
          · subst hy
            have n2 : ¬ (q : Int) < (p : Int) := by omega
            clear hk
            go_wp2_with fail
            have ew2 : IntKind.i64.wrap (i : Int) = (i : Int) := IntWalk.i64_in _ (by omega)
            go_quiet (fail)
            go_wp2_with fail
            go_roundw
            case rel => exact ⟨i + 1, by simp, by omega, below_drewN HB2.out _⟩
            case measure => simp [intOf]; omega
          · clear hk
            go_wp2_with fail
            have ew2 : IntKind.i64.wrap (i : Int) = (i : Int) := IntWalk.i64_in _ (by omega)
            go_quiet (fail)
            go_wp2_with fail
            go_roundw
            case rel => exact ⟨i + 1, by simp, by omega, below_drewN HB2.out _⟩
            case measure => simp [intOf]; omega
        · obtain rfl : i = 7 := by omega
          have O1 := Lib.hid (own_keep HO.out hb2)
          have O2 := Lib.hid (own_keep HO2.out hb2)
          have IN := Lib.hid (ints_any O1.out O2.out (by omega))
          have T5 := Lib.hid (H4.out.keep hb2)
          have B5 := Lib.hid (B4.out.trans (hb2.mono (by have := B4.out.size; omega)))
          clear hb2 FS
          go_wp2_with fail
          refine IN.out.mono ?_
          rintro e w5 ⟨rfl, b5⟩
          have L1 := Lib.hid (T5.out.keep b5).symm.len1
          have L2 := Lib.hid (T5.out.keep b5).len1
          have B6 := Lib.hid (B5.out.trans (b5.mono (by have := T5.out.bw; omega)))
          clear b5 IN
          go_wp2_with fail
          refine L1.out.mono ?_
          rintro e w6 ⟨rfl, rfl⟩
          go_wp2_with fail
          refine L2.out.mono ?_
          rintro e w6 ⟨rfl, rfl⟩
          go_wp2_with fail
          refine (awake26_any _).mono ?_
          rintro e w7 ⟨rfl, b7⟩
          go_wp2
          go_ret
          exact ⟨rfl, (B0.out.trans (B6.out.mono (by omega))).trans (b7.mono (by have := B6.out.size; omega))⟩

set_option maxRecDepth 100000 in
theorem lifted (os : Os) (started : os.Started) (H : Type) (enc : TypeId × Value → H) :
    ReturnsInHanded {} Try.checked os 6 .any (Rows.clocksOrderSpec.pre6 enc Try.prog Try.f6 Rows.clocksOrderRow.domain false) (Rows.clocksOrderSpec.post enc Try.prog Try.f6 false true false false) := by
  refine returnsInHanded_of_change_sized (C := Try.checked) own started (by kernel_rfl) Try.func6
    (ChangeSpec.witness6 (enc := enc) (C := Try.checked) false ⟨#[], #[.agg #[.int .u16 0, .int .u16 0, .int .u16 0, .int .u16 0, .int .u16 0, .int .u16 0, .int .u16 0, .int .u16 0]], []⟩ 8 (by kernel_rfl) (by kernel_rfl) (by kernel_rfl) (by kernel_rfl)) ?_
  intro W base args ds gs before hval0 hW hcnd hsz0 _
  have hsz : (DataW.weightsEach Try.prog (Try.f6.params.toList ++ Rows.clocksOrderSpec.plain.varTypes Try.prog) (ds ++ gs)).all (· ≤ reachBytes) = true := hsz0
  have hval : ∀ (j : Nat) t v, Try.f6.params[j]? = some t → args[j]? = some v → Value.okWide Try.prog W .any base t v := hval0
  have hW' := hW
  obtain ⟨p, q, hA0, hV, rfl, hfz, hnd⟩ := hW
  have hA : DataW.TrodAll enc Try.prog W 0 (fun _ => true) true Try.f6.params.toList args.toList ds p := hA0
  rw [Try.params6] at hA hval hsz
  obtain ⟨v0, vs0, d0, ds0, p0, q0, hargs, rfl, rfl, h0, r0⟩ := trodAll_cons hA
  obtain ⟨rfl, rfl, rfl⟩ := trodAll_nil r0
  obtain rfl : args = #[v0] := by cases args; simp_all
  obtain ⟨rfl, rfl⟩ := trodVars_none hV
  have k0 := h0
  have lt0 : ∀ x ∈ p0, x.block < W.heap.size := by obtain ⟨m, hm⟩ := k0; exact DataW.trod_lt m _ _ _ hm
  obtain ⟨x0, x1, x2, x3, x4, x5, x6, x7, rfl, y0, y1, y2, y3, y4, y5, y6, y7⟩ := open_arr8 (hval 0 50 v0 rfl rfl) k0
  clear hA0 hval0 hsz0
  refine (walk x0 x1 x2 x3 x4 x5 x6 x7 W y0 y1 y2 y3 y4 y5 y6 y7).mono fun e W' ⟨he, bel⟩ => ?_
  subst he
  exact ⟨_, rfl, _, _, _, [], _, [], hW', trodAll_mk1 (shut_bool Try.underlying4 _), (trodAll_cons_mk (Below.trod laidOut (by kernel_rfl) (of_decide_eq_true (by kernel_rfl)) k0 bel lt0) trodAll_mk0), rfl, bel.frame _, fun h => by cases h⟩

theorem over : Rows.clocksOrderRow.holds Try.pinned (OpenSpec.ofChange Rows.clocksOrderSpec) :=
  OpenClaim.holds_of_wide 6 Try.f6 rfl rfl rfl rfl rfl rfl rfl ⟨rfl, rfl, rfl, rfl, rfl⟩ rfl rfl rfl rfl rfl (by kernel_rfl) Try.func6 (by kernel_rfl)
    (of_decide_eq_true (by kernel_rfl)) (by unfold Func.isWrapper; first | (rw [if_pos (by decide +kernel)]; kernel_rfl) | (rw [if_neg (by decide +kernel)]; exact ⟨rfl, rfl⟩))
    (fun os started H enc _ => lifted os started H enc)

theorem proved : Rows.ClocksOrderSaid := over
end Go.Proofs.Ytcjoemejoeekiaa.clocksOrder
