/-
  ValueRaw: FOR EVERY INPUT the law returns true and leaves its arguments as they were; the package's tables are laid (a card).
-/
import Derived.Test.YtoglgdkeknojkaaDoorAi
import Derived.Test.YtoglgdkeknojkaaDoorCards
import Derived.Test.YtoglgdkeknojkaaDoorTie
import Derived.WalkKit
import Derived.ProofKit
import Derived.OpenShut
import Derived.ChangeOld
import Derived.Below
import Derived.SizedLaws
import Derived.Lib.SmallJoins
import Derived.Deep.DeepHandedRow
import Derived.Lib.LaidTab
namespace Go.Proofs.YtoglgdkeknojkaaDoor.valueRaw
open Go.ChangeShapes Go.WideShapes Go.ChangeAt Go.RowKit
open Go.ChangeMaps (open_string shut_string)
set_option linter.unusedVariables false

theorem own : ownKnob Tryd.prog.godebug = none := by kernel_rfl
theorem laidOut : laidOutB Tryd.prog = true := by kernel_rfl

theorem fgrown {B : Nat} {w w' : World} {v : Value} {n size : Nat} {xs : List Value} {e : TypeId} (hown : w.ownsRow B e size v n xs) (hg : w.grownBy w' v.ownBlock) (hB : B ≤ w.heap.size) : Below B w w' :=
  (Below.refl _ _).grown hg hB (fun k hk => (hown.lt k hk).1)
theorem putVL_raw {v : Va} {n : Int} (h : ¬ (n < 1 ∨ 1000 < n)) (hE : rightE v = 0) : (v.k = 7 → (putVL v n true).length = 1 ∧ putVL v n false = []) ∧ (v.k ≠ 7 → putVL v n false = putVL v n true) := by
  obtain ⟨e1, e2⟩ := putVE_raw v n h
  rw [hE] at e1
  rw [hE, if_neg (by simp)] at e2
  refine ⟨fun h7 => ?_, fun h7 => ?_⟩
  · rw [if_pos h7] at e2
    unfold putVL
    rw [e1, e2, if_pos ⟨rfl, by omega⟩, if_neg (by rintro ⟨h, -⟩; cases h)]
    exact ⟨rfl, rfl⟩
  · rw [if_neg h7] at e2
    unfold putVL
    rw [e1, e2]
theorem ofVal_wo (b : Int) (h : ¬ (b < 1 ∨ 1000 < b)) (l : List Fd) : ofVal b false l = ofVal b true (wo (b + 6) l) := by
  unfold ofVal
  rw [if_neg h, if_neg h]
  exact ofVs_wo b l v0
set_option maxHeartbeats 4000000 in
set_option maxRecDepth 100000 in
theorem walk (k n : Int) (s : ByteArray) (a : Option Addr) (len cap : Nat) (l : List Fd) (b0 : Int) (w : World) (ht : Tabs w) (bk : -9223372036854775808 ≤ k ∧ k ≤ 9223372036854775807) (bn : 0 ≤ n ∧ n ≤ 18446744073709551615) (hs : s.size ≤ 140737488351232)
    (hl : FdsR w (.slice a len cap) l) (hok : ∀ f ∈ l, f.ok) (bb : 0 ≤ b0 ∧ b0 ≤ 255) :
    Calls Tryd.prog 6 #[.agg #[.int .i64 k, .int .u64 n, .string s], .slice a len cap, .int .u8 b0] w (Yes w) := by
  obtain ⟨n, rfl⟩ := Int.eq_ofNat_of_zero_le bn.1
  have hm : n ≤ 18446744073709551615 := by omega
  obtain ⟨hl, hroom⟩ := hl
  obtain ⟨b, gb⟩ : ∃ b, b = 1 + b0 := ⟨_, rfl⟩
  have hb1 : 1 ≤ b := by omega
  have hb2 : b ≤ 256 := by omega
  have hbn : ¬ (b < 1 ∨ 1000 < b) := by omega
  have PE := putVE_raw (Va.mk k n s) b hbn
  have PL := @putVL_raw (Va.mk k n s) b hbn
  have hwo := ofVal_wo b hbn l
  have P := Lib.hid (fun raw w ht => vput_any 7 (.inl rfl) (Va.mk k n s) b raw w ht hm)
  have O1 := Lib.hid fun W (hW : Below w.heap.size w W) => of15_any _ l b false W (hl.keep hW (Nat.le_refl _)) (ht.keep hW) hok
  have O2 := Lib.hid fun v W (hv : FdsAt W v (wo (b + 6) l)) (hW : Below w.heap.size w W) => of15_any v _ b true W hv (ht.keep hW) (wo_ok hok)
  have Aw := Lib.hid fun W (hW : Below w.heap.size w W) => vawake_any W (ht.keep hW)
  rw [← hwo] at O2
  obtain ⟨⟨⟨rk, rn, rs⟩, rE⟩, hr⟩ : ∃ r, r = ofVal b false l := ⟨_, rfl⟩
  rw [← hr] at O1 O2
  unfold OfV at O1 O2
  simp only [Va.val] at O1 O2 P
  obtain ⟨a', cap', hv, hlen, hc⟩ := hl
  simp only [Value.slice.injEq] at hv
  obtain ⟨rfl, rfl, rfl⟩ := hv
  have hlen' : (l.length : Int) ≤ 9223372036854775807 := by omega
  obtain ⟨i0, hi, hz0, hz1, hz2⟩ := info_parts Tryd.info48
  replace hi := Lib.hid hi
  replace hz0 := Lib.hid hz0
  replace hz1 := Lib.hid hz1
  replace hz2 := Lib.hid hz2
  replace hc := Lib.hid hc
  have ht1 := Lib.hid (ht.keep (e_alloc w (.cells #[.int .i64 k, .int .u64 (n : Nat), .string s] 24)))
  have hB0 := Lib.hid (e_alloc w (.cells #[.int .i64 k, .int .u64 (n : Nat), .string s] 24))
  clear ht bk bn hs hok hr hwo
  have SM := Lib.hid (fun v1 v2 L W h1 h2 => same_eq v1 v2 L W h1 h2)
  have gb' : IntKind.i64.wrap (1 + b0) = b := by rw [gb]; exact IntWalk.i64_in _ (by omega)
  by_cases hE : rightE (Va.mk k n s) = 0
  · rw [hE] at PE
    rw [if_neg (by simp)] at PE
    obtain ⟨PL7, PLn⟩ := PL hE
    clear PL
    by_cases h7 : k = 7
    · subst h7
      rw [if_pos rfl] at PE
      obtain ⟨e1, e2⟩ := PE
      obtain ⟨l1, l2⟩ := PL7 rfl
      have P1 := P.out true
      have P2 := P.out false
      rw [e1] at P1
      rw [e2, l2] at P2
      generalize putVL (Va.mk 7 n s) b true = L1 at *
      replace e1 := Lib.hid e1
      replace e2 := Lib.hid e2
      replace l2 := Lib.hid l2
      replace P1 := Lib.hid P1
      replace P2 := Lib.hid P2
      replace PL7 := Lib.hid PL7
      replace PLn := Lib.hid PLn
      replace hE := Lib.hid hE
      replace hbn := Lib.hid hbn
      subst gb
      go_enter Tryd.func6, Tryd.ntmps6
      go_wp2_with fail
      refine (P1.out _ ht1.out).mono ?_
      rintro e w1 ⟨x1, n1, y1, rfl, h1, hb⟩
      have ht2 := Lib.hid (ht1.out.keep hb)
      obtain ⟨c0, c1, c2⟩ := box3 hb
      have hB1 := Lib.hid (ext_trans hB0.out hb)
      replace hb := Lib.hid hb
      obtain ⟨x1', y1', hv1, -⟩ := h1
      simp only [Value.slice.injEq] at hv1
      obtain ⟨rfl, rfl, rfl⟩ := hv1
      rw [l1]
      replace l1 := Lib.hid l1
      go_wp2_with fail
      refine (P2.out _ ht2.out).mono ?_
      rintro e w2 ⟨x2, n2, y2, rfl, h2, hb2'⟩
      have lt1 := World.block_lt_of_cell? _ _ c0
      have d0 := (vbcell hb2' _ _ lt1).trans c0
      obtain ⟨x2', y2', hv2, -⟩ := h2
      simp only [Value.slice.injEq, List.length_nil] at hv2
      obtain ⟨rfl, rfl, rfl⟩ := hv2
      have BX := Lib.hid (ext_trans hB1.out hb2')
      clear c0 c1 c2 lt1 hb2'
      go_wp2_with fail
      go_loopw [12, 13] (fun o i wr => ∃ k : Nat, i = .int .i64 k ∧ k ≤ l.length ∧ wr.ownsRow w.heap.size 48 4 o (wo (1 + b0 + 6) (l.take k)).length (fcs (wo (1 + b0 + 6) (l.take k))) ∧ Below w.heap.size w wr) (fun _ i _ => l.length - (intOf i).toNat)
      case atStart => exact ⟨0, rfl, by omega, World.ownsRow_nil _ _ _ _, BX.out⟩
      case round =>
        obtain ⟨k, rfl, hk, hown, hb1⟩ := hrel
        clear BX
        replace hb1 := Lib.hid hb1
        have zr : w.heap.size ≤ wr.heap.size := hb1.out.size
        by_cases hend : k = l.length
        · subst hend
          rw [List.take_length] at hown
          have hwl := wo_len (1 + b0 + 6) l
          have hF := FdsAt.of_own hown (by omega)
          have O2 := Lib.hid fun W (hW : Below wr.heap.size wr W) => O2.out _ W (hF.keep hW (Nat.le_refl _)) (ext_trans hb1.out hW)
          obtain ⟨ao, co, rfl⟩ := own_slice hown
          clear hown hF hwl
          go_wp2_with fail
          refine (O1.out _ hb1.out).mono ?_
          rintro e w5 ⟨rfl, b5⟩
          have B5 := Lib.hid (b5.trans ((ext_alloc w5 (.cells #[.int .i64 rk, .int .u64 (rn : Nat), .string rs] 24)).mono b5.size))
          have B5' := Lib.hid (ext_trans hb1.out B5.out)
          replace b5 := Lib.hid b5
          go_wp2_with fail
          refine (O2.out _ B5.out).mono ?_
          rintro e w6 ⟨rfl, b6⟩
          obtain ⟨c0, c1, c2⟩ := box3 b6
          have lt1 := World.block_lt_of_cell? _ _ c0
          simp only at lt1
          have B6 := Lib.hid (ext_trans B5'.out b6)
          have B7 := Lib.hid (B6.out.trans ((ext_alloc w6 (.cells #[.int .i64 rk, .int .u64 (rn : Nat), .string rs] 24)).mono B6.out.size))
          replace b6 := Lib.hid b6
          go_wp2_with fail
          refine (Aw.out _ B7.out).mono ?_
          rintro e w7 ⟨rfl, b7⟩
          go_wp2_with fail
          go_ret
          exact ⟨rfl, ext_trans B7.out b7⟩
        obtain ⟨f, hf⟩ : ∃ f, l[k]? = some f := ⟨_, List.getElem?_eq_getElem (by omega)⟩
        obtain ⟨b9, o', rfl, hbl, hcell⟩ : ∃ b o, a = some ⟨b, o, none⟩ ∧ b < w.heap.size ∧ w.rangeAt b (o + k * 4) f.cells := by
          rcases hc.out with h | ⟨b, o, ha, hb, hc⟩
          · subst h; simp at hf
          · exact ⟨b, o, ha, hb, hc k f hf⟩
        have hr := rangeAt_keep hcell hb1.out hbl
        clear hcell
        obtain ⟨q0, q1, q2, q3⟩ := rangeAt4 hr
        clear hr
        have htk : l.take (k + 1) = l.take k ++ [f] := by
          rw [List.take_succ_eq_append_getElem (by omega), show l[k]'(by omega) = f from (List.getElem?_eq_some_iff.1 hf).2]
        have hwl := wo_len (1 + b0 + 6) (l.take k)
        have hkl : (l.take k).length = k := by rw [List.length_take]; omega
        have hwk : (wo (1 + b0 + 6) (l.take k)).length ≤ k := by omega
        replace hf := Lib.hid hf
        replace hkl := Lib.hid hkl
        clear hwl
        have klt : (k : Int) < (l.length : Int) := by omega
        obtain ⟨fn, fk, fv, ft⟩ := f
        simp only at q0 q1 q2 q3
        by_cases hnum : fn = 1 + b0 + 6
        · have hw : wo (1 + b0 + 6) (l.take (k + 1)) = wo (1 + b0 + 6) (l.take k) := by rw [htk]; exact wo_snoc_out hnum
          have hd : (fn != 1 + b0 + 6) = false := by simp [hnum]
          replace hw := Lib.hid hw
          replace htk := Lib.hid htk
          replace hnum := Lib.hid hnum
          replace hown := Lib.hid hown
          go_wp2_with fail
          go_roundw
          case rel => exact ⟨k + 1, by simp, by omega, by rw [hw.out]; exact hown.out, hb1.out⟩
          case measure => simp [intOf]; omega
        · have hw : wo (1 + b0 + 6) (l.take (k + 1)) = wo (1 + b0 + 6) (l.take k) ++ [⟨fn, fk, fv, ft⟩] := by rw [htk]; exact wo_snoc_in hnum
          have hd : (fn != 1 + b0 + 6) = true := by simpa using hnum
          have hw2 : fcs (wo (1 + b0 + 6) (l.take (k + 1))) = fcs (wo (1 + b0 + 6) (l.take k)) ++ [.int .i64 fn, .int .i64 fk, .int .u64 (fv : Nat), .string ft] := by rw [hw, fcs_snoc]; rfl
          have hw3 : (wo (1 + b0 + 6) (l.take (k + 1))).length = (wo (1 + b0 + 6) (l.take k)).length + 1 := by rw [hw]; simp
          replace hw := Lib.hid hw
          replace hw2 := Lib.hid hw2
          replace hw3 := Lib.hid hw3
          replace htk := Lib.hid htk
          replace hnum := Lib.hid hnum
          generalize wo (1 + b0 + 6) (l.take k) = M at *
          have own0 := Lib.hid hown
          clear hown
          go_wp2_with (at_builtin; (refine wpList_append_own_at _ rfl (.tmp 86) (.tmp 91) 25 rfl w.heap.size 48 i0 _ 4 40 Tryd.underlying25 hi.out hz0.out hz1.out hz2.out rfl (by decide) _ M.length (fcs M) rfl (own0.out.alloc _) ⟨wr.heap.size, 0, none⟩ 1 1 [.int .i64 fn, .int .i64 fk, .int .u64 (fv : Nat), .string ft] rfl rfl (cell_four_new _ _ _ _ _ _ rfl) (by intro u hu; simp at hu; rcases hu with rfl | rfl | rfl | rfl <;> rfl) (by unfold maxLen; omega) (by omega) (by simp; omega) ?_); intro v2 w2 o2 gr2 n2 nb2; clear n2 nb2; have B4 := Lib.hid ((hb1.out.trans ((ext_alloc wr (.cells #[.int .i64 fn, .int .i64 fk, .int .u64 (fv : Nat), .string ft] 48)).mono hb1.out.size)).trans (fgrown (own0.out.alloc _) gr2 (by simp; omega))); clear gr2; replace o2 := Lib.hid o2)
          go_roundw
          case rel => exact ⟨k + 1, by simp, by omega, by rw [hw2.out, hw3.out]; exact o2.out, B4.out⟩
          case measure => simp [intOf]; omega
    · rw [if_neg h7] at PE
      obtain ⟨e1, e2⟩ := PE
      have l2 := PLn h7
      have P1 := P.out true
      have P2 := P.out false
      rw [e1] at P1
      rw [e2, l2] at P2
      have hk7 : (k == 7) = false := by simpa using h7
      generalize putVL (Va.mk k n s) b true = L1 at *
      replace e1 := Lib.hid e1
      replace e2 := Lib.hid e2
      replace l2 := Lib.hid l2
      replace P1 := Lib.hid P1
      replace P2 := Lib.hid P2
      replace PL7 := Lib.hid PL7
      replace PLn := Lib.hid PLn
      replace hE := Lib.hid hE
      replace h7 := Lib.hid h7
      replace hbn := Lib.hid hbn
      subst gb
      go_enter Tryd.func6, Tryd.ntmps6
      go_wp2_with fail
      refine (P1.out _ ht1.out).mono ?_
      rintro e w1 ⟨x1, n1, y1, rfl, h1, hb⟩
      have ht2 := Lib.hid (ht1.out.keep hb)
      obtain ⟨c0, c1, c2⟩ := box3 hb
      have hB1 := Lib.hid (ext_trans hB0.out hb)
      replace hb := Lib.hid hb
      replace h1 := Lib.hid h1
      go_wp2_with fail
      refine (P2.out _ ht2.out).mono ?_
      rintro e w2 ⟨x2, n2, y2, rfl, h2, hb2'⟩
      have lt1 := World.block_lt_of_cell? _ _ c0
      have d0 := (vbcell hb2' _ _ lt1).trans c0
      have h1' := Lib.hid (h1.out.keep hb2' (Nat.le_refl _))
      replace h2 := Lib.hid h2
      have hBs := Lib.hid (ext_trans hB1.out hb2')
      clear c0 c1 c2 lt1 hb2'
      go_wp2_with fail
      refine (SM.out _ _ L1 _ h1'.out h2.out).mono ?_
      rintro e w3 ⟨rfl, b3⟩
      have BX := Lib.hid (ext_trans hBs.out b3)
      clear b3 d0
      go_wp2_with fail
      go_loopw [12, 13] (fun o i wr => ∃ k : Nat, i = .int .i64 k ∧ k ≤ l.length ∧ wr.ownsRow w.heap.size 48 4 o (wo (1 + b0 + 6) (l.take k)).length (fcs (wo (1 + b0 + 6) (l.take k))) ∧ Below w.heap.size w wr) (fun _ i _ => l.length - (intOf i).toNat)
      case atStart => exact ⟨0, rfl, by omega, World.ownsRow_nil _ _ _ _, BX.out⟩
      case round =>
        obtain ⟨k, rfl, hk, hown, hb1⟩ := hrel
        clear BX
        replace hb1 := Lib.hid hb1
        have zr : w.heap.size ≤ wr.heap.size := hb1.out.size
        by_cases hend : k = l.length
        · subst hend
          rw [List.take_length] at hown
          have hwl := wo_len (1 + b0 + 6) l
          have hF := FdsAt.of_own hown (by omega)
          have O2 := Lib.hid fun W (hW : Below wr.heap.size wr W) => O2.out _ W (hF.keep hW (Nat.le_refl _)) (ext_trans hb1.out hW)
          obtain ⟨ao, co, rfl⟩ := own_slice hown
          clear hown hF hwl
          go_wp2_with fail
          refine (O1.out _ hb1.out).mono ?_
          rintro e w5 ⟨rfl, b5⟩
          have B5 := Lib.hid (b5.trans ((ext_alloc w5 (.cells #[.int .i64 rk, .int .u64 (rn : Nat), .string rs] 24)).mono b5.size))
          have B5' := Lib.hid (ext_trans hb1.out B5.out)
          replace b5 := Lib.hid b5
          go_wp2_with fail
          refine (O2.out _ B5.out).mono ?_
          rintro e w6 ⟨rfl, b6⟩
          obtain ⟨c0, c1, c2⟩ := box3 b6
          have lt1 := World.block_lt_of_cell? _ _ c0
          simp only at lt1
          have B6 := Lib.hid (ext_trans B5'.out b6)
          have B7 := Lib.hid (B6.out.trans ((ext_alloc w6 (.cells #[.int .i64 rk, .int .u64 (rn : Nat), .string rs] 24)).mono B6.out.size))
          replace b6 := Lib.hid b6
          go_wp2_with fail
          refine (Aw.out _ B7.out).mono ?_
          rintro e w7 ⟨rfl, b7⟩
          go_wp2_with fail
          go_ret
          exact ⟨rfl, ext_trans B7.out b7⟩
        obtain ⟨f, hf⟩ : ∃ f, l[k]? = some f := ⟨_, List.getElem?_eq_getElem (by omega)⟩
        obtain ⟨b9, o', rfl, hbl, hcell⟩ : ∃ b o, a = some ⟨b, o, none⟩ ∧ b < w.heap.size ∧ w.rangeAt b (o + k * 4) f.cells := by
          rcases hc.out with h | ⟨b, o, ha, hb, hc⟩
          · subst h; simp at hf
          · exact ⟨b, o, ha, hb, hc k f hf⟩
        have hr := rangeAt_keep hcell hb1.out hbl
        clear hcell
        obtain ⟨q0, q1, q2, q3⟩ := rangeAt4 hr
        clear hr
        have htk : l.take (k + 1) = l.take k ++ [f] := by
          rw [List.take_succ_eq_append_getElem (by omega), show l[k]'(by omega) = f from (List.getElem?_eq_some_iff.1 hf).2]
        have hwl := wo_len (1 + b0 + 6) (l.take k)
        have hkl : (l.take k).length = k := by rw [List.length_take]; omega
        have hwk : (wo (1 + b0 + 6) (l.take k)).length ≤ k := by omega
        replace hf := Lib.hid hf
        replace hkl := Lib.hid hkl
        clear hwl
        have klt : (k : Int) < (l.length : Int) := by omega
        obtain ⟨fn, fk, fv, ft⟩ := f
        simp only at q0 q1 q2 q3
        by_cases hnum : fn = 1 + b0 + 6
        · have hw : wo (1 + b0 + 6) (l.take (k + 1)) = wo (1 + b0 + 6) (l.take k) := by rw [htk]; exact wo_snoc_out hnum
          have hd : (fn != 1 + b0 + 6) = false := by simp [hnum]
          replace hw := Lib.hid hw
          replace htk := Lib.hid htk
          replace hnum := Lib.hid hnum
          replace hown := Lib.hid hown
          go_wp2_with fail
          go_roundw
          case rel => exact ⟨k + 1, by simp, by omega, by rw [hw.out]; exact hown.out, hb1.out⟩
          case measure => simp [intOf]; omega
        · have hw : wo (1 + b0 + 6) (l.take (k + 1)) = wo (1 + b0 + 6) (l.take k) ++ [⟨fn, fk, fv, ft⟩] := by rw [htk]; exact wo_snoc_in hnum
          have hd : (fn != 1 + b0 + 6) = true := by simpa using hnum
          have hw2 : fcs (wo (1 + b0 + 6) (l.take (k + 1))) = fcs (wo (1 + b0 + 6) (l.take k)) ++ [.int .i64 fn, .int .i64 fk, .int .u64 (fv : Nat), .string ft] := by rw [hw, fcs_snoc]; rfl
          have hw3 : (wo (1 + b0 + 6) (l.take (k + 1))).length = (wo (1 + b0 + 6) (l.take k)).length + 1 := by rw [hw]; simp
          replace hw := Lib.hid hw
          replace hw2 := Lib.hid hw2
          replace hw3 := Lib.hid hw3
          replace htk := Lib.hid htk
          replace hnum := Lib.hid hnum
          generalize wo (1 + b0 + 6) (l.take k) = M at *
          have own0 := Lib.hid hown
          clear hown
          go_wp2_with (at_builtin; (refine wpList_append_own_at _ rfl (.tmp 86) (.tmp 91) 25 rfl w.heap.size 48 i0 _ 4 40 Tryd.underlying25 hi.out hz0.out hz1.out hz2.out rfl (by decide) _ M.length (fcs M) rfl (own0.out.alloc _) ⟨wr.heap.size, 0, none⟩ 1 1 [.int .i64 fn, .int .i64 fk, .int .u64 (fv : Nat), .string ft] rfl rfl (cell_four_new _ _ _ _ _ _ rfl) (by intro u hu; simp at hu; rcases hu with rfl | rfl | rfl | rfl <;> rfl) (by unfold maxLen; omega) (by omega) (by simp; omega) ?_); intro v2 w2 o2 gr2 n2 nb2; clear n2 nb2; have B4 := Lib.hid ((hb1.out.trans ((ext_alloc wr (.cells #[.int .i64 fn, .int .i64 fk, .int .u64 (fv : Nat), .string ft] 48)).mono hb1.out.size)).trans (fgrown (own0.out.alloc _) gr2 (by simp; omega))); clear gr2; replace o2 := Lib.hid o2)
          go_roundw
          case rel => exact ⟨k + 1, by simp, by omega, by rw [hw2.out, hw3.out]; exact o2.out, B4.out⟩
          case measure => simp [intOf]; omega
  · rw [if_pos hE] at PE
    obtain ⟨e1, e2⟩ := PE
    have P1 := P.out true
    have P2 := P.out false
    have l1 : putVL (Va.mk k n s) b true = [] := by unfold putVL; rw [if_neg (by rw [e1]; exact fun h => hE h.1)]
    have l2 : putVL (Va.mk k n s) b false = [] := by unfold putVL; rw [if_neg (by rw [e2]; exact fun h => hE h.1)]
    rw [e1, l1] at P1
    rw [e2, l2] at P2
    have hd : (rightE (Va.mk k n s) != 0) = true := by simpa using hE
    generalize rightE (Va.mk k n s) = E at *
    replace e1 := Lib.hid e1
    replace e2 := Lib.hid e2
    replace l1 := Lib.hid l1
    replace l2 := Lib.hid l2
    replace P1 := Lib.hid P1
    replace P2 := Lib.hid P2
    replace PL := Lib.hid PL
    replace hE := Lib.hid hE
    replace hbn := Lib.hid hbn
    subst gb
    go_enter Tryd.func6, Tryd.ntmps6
    go_wp2_with fail
    refine (P1.out _ ht1.out).mono ?_
    rintro e w1 ⟨x1, n1, y1, rfl, h1, hb⟩
    have ht2 := Lib.hid (ht1.out.keep hb)
    obtain ⟨c0, c1, c2⟩ := box3 hb
    have hB1 := Lib.hid (ext_trans hB0.out hb)
    replace hb := Lib.hid hb
    obtain ⟨x1', y1', hv1, -⟩ := h1
    simp only [Value.slice.injEq, List.length_nil] at hv1
    obtain ⟨rfl, rfl, rfl⟩ := hv1
    go_wp2_with fail
    refine (P2.out _ ht2.out).mono ?_
    rintro e w2 ⟨x2, n2, y2, rfl, h2, hb2'⟩
    obtain ⟨x2', y2', hv2, -⟩ := h2
    simp only [Value.slice.injEq, List.length_nil] at hv2
    obtain ⟨rfl, rfl, rfl⟩ := hv2
    have BX := Lib.hid (ext_trans hB1.out hb2')
    clear c0 c1 c2 hb2'
    go_wp2_with fail
    refine (Aw.out _ BX.out).mono ?_
    rintro e w7 ⟨rfl, b7⟩
    go_wp2_with fail
    go_ret
    exact ⟨rfl, ext_trans BX.out b7⟩

theorem contract (F : Stop.Interp) (H : Type) (enc : TypeId × Value → H) (W : World) (base : Nat) (args : Array Value) (ds gs : List (DataW H)) (before : List MemPlace)
    (hval : ∀ (j : Nat) t v, Tryd.f6.params[j]? = some t → args[j]? = some v → Value.okWide Tryd.prog W .any base t v)
    (hW : DataW.Whole enc Tryd.prog Tryd.f6.params.toList Rows.valueRawSpec.vars false W args.toList ds gs before)
    
    (hsz : (DataW.weightsEach Tryd.prog (Tryd.f6.params.toList ++ (OpenSpec.ofChange Rows.valueRawSpec).bare.plain.varTypes Tryd.prog) (ds ++ gs)).all (· ≤ reachBytes) = true) (hL : laidMetH Tryd.prog Rows.valueRawRow.laid W) :
    Calls Tryd.prog 6 args W fun e W' => ∃ v, e = .returned v ∧ ((OpenSpec.ofChange Rows.valueRawSpec).at F).post enc Tryd.prog Tryd.f6 false true false false W args v W' := by
  have hW' := hW
  obtain ⟨p, q, hA0, hV, rfl, hfz, hnd⟩ := hW
  have hA : DataW.TrodAll enc Tryd.prog W 0 (fun _ => true) true Tryd.f6.params.toList args.toList ds p := hA0
  rw [Tryd.params6] at hA hval hsz
  obtain ⟨v0, vs0, d0, ds0, p0, q0, hargs, rfl, rfl, h0, r0⟩ := trodAll_cons hA
  obtain ⟨v1, vs1, d1, ds1, p1, q1, rfl, rfl, rfl, h1, r1⟩ := trodAll_cons r0
  obtain ⟨v2, vs2, d2, ds2, p2, q2, rfl, rfl, rfl, h2, r2⟩ := trodAll_cons r1
  obtain ⟨rfl, rfl, rfl⟩ := trodAll_nil r2
  obtain rfl : args = #[v0, v1, v2] := by cases args; simp_all
  obtain ⟨rfl, rfl⟩ := trodVars_none hV
  have k0 := h0
  have lt0 : ∀ x ∈ p0, x.block < W.heap.size := by obtain ⟨m, hm⟩ := k0; exact DataW.trod_lt m _ _ _ hm
  have k1 := h1
  have lt1 : ∀ x ∈ p1, x.block < W.heap.size := by obtain ⟨m, hm⟩ := k1; exact DataW.trod_lt m _ _ _ hm
  have k2 := h2
  have lt2 : ∀ x ∈ p2, x.block < W.heap.size := by obtain ⟨m, hm⟩ := k2; exact DataW.trod_lt m _ _ _ hm
  obtain ⟨x0_0, x0_1, x0_2, y0_0, y0_1, y0_2, n0, rfl, rfl, rfl, t0_0, t0_1, t0_2⟩ := Joins.open_agg3 Tryd.underlying24 (by kernel_rfl) (by kernel_rfl) (hval 0 24 _ rfl rfl) h0
  obtain ⟨a0_0, q0_0, z0_0, w0_0⟩ := DataW.trod_int Tryd.underlying3 t0_0
  obtain rfl : x0_0 = .int .i64 a0_0 := by simpa using q0_0
  have b0_0 := wf_i64 w0_0
  obtain ⟨a0_1, q0_1, z0_1, w0_1⟩ := DataW.trod_int Tryd.underlying22 t0_1
  obtain rfl : x0_1 = .int .u64 a0_1 := by simpa using q0_1
  have b0_1 := wf_u64 w0_1
  obtain ⟨a0_2, q0_2, z0_2, w0_2⟩ := DataW.trod_string Tryd.underlying9 t0_2
  obtain rfl : x0_2 = .string a0_2 := by simpa using q0_2
  have s0_2 : a0_2.size ≤ 140737488351232 := by
    have hm := List.all_eq_true.1 hsz a0_2.data.toList.length (DataW.weights_mem_each (j := 0) (t := 24) rfl rfl _ (by rw [z0_2]; simp [DataW.weights, Tryd.underlying24, DataW.weightsEach]))
    simp only [Array.length_toList, reachBytes] at hm
    exact of_decide_eq_true hm
  obtain ⟨a1, len1, cap1, rfl⟩ := okWide_slice Tryd.underlying25 (hval 1 25 v1 rfl rfl)
  obtain ⟨z1, w1, s1⟩ : ∃ l : List Fd, FdsR W (.slice a1 len1 cap1) l ∧ ∀ f ∈ l, f.ok := by
    obtain ⟨fuel, hf⟩ := h1
    exact open_fdsR hf (fun n hn => by
      have hm := List.all_eq_true.1 hsz n (DataW.weights_mem_each (j := 1) (t := 25) rfl rfl _ hn)
      simpa [reachBytes] using of_decide_eq_true hm)
  obtain ⟨a2, rfl, rfl, rfl, w2⟩ := open_int Tryd.underlying5 (hval 2 5 v2 rfl rfl) h2
  have b2 := wf_u8 w2
  clear hA0
  refine (walk a0_0 a0_1 a0_2 a1 len1 cap1 z1 a2 W (tabs_of hL) b0_0 b0_1 s0_2 w1 s1 b2).mono fun e W' ⟨he, bel⟩ => ?_
  subst he
  exact ⟨_, rfl, _, _, _, [], _, [], hW', trodAll_mk1 (shut_bool Tryd.underlying4 _), (trodAll_cons_mk (Below.trod laidOut (by kernel_rfl) (of_decide_eq_true (by kernel_rfl)) k0 bel lt0) (trodAll_cons_mk (Below.trod laidOut (by kernel_rfl) (of_decide_eq_true (by kernel_rfl)) k1 bel lt1) (trodAll_cons_mk (Below.trod laidOut (by kernel_rfl) (of_decide_eq_true (by kernel_rfl)) k2 bel lt2) trodAll_mk0))), rfl, bel.frame _, fun h => by cases h⟩

/-- A world for the witness: the settled one, the tables holding what their initialisers lay. -/
noncomputable def laidWorld (os : Os) : World :=
  { World.holding Tryd.prog os ⟨#[], #[], []⟩ with heap := (((World.holding Tryd.prog os ⟨#[], #[], []⟩).heap.modify 0 (fun
      | .cells _ t frozen => .cells #[.int .i64 0, .int .i64 0, .int .i64 0, .int .i64 5, .int .i64 1, .int .i64 0, .int .i64 2, .int .i64 2] t frozen
      | o => o)).modify 1 (fun
      | .cells _ t frozen => .cells #[.int .u64 18446744073709551615, .int .u64 4294967295, .int .u64 18446744073709551615, .int .u64 4294967295, .int .u64 18446744073709551615, .int .u64 1, .int .u64 18446744073709551615, .int .u64 18446744073709551615] t frozen
      | o => o)) }
theorem laid_met (os : Os) : laidMet Tryd.prog Rows.valueRawRow.laid ((laidWorld os).forCall (fun _ _ => 0) ⟨#[], #[.agg #[.int .i64 0, .int .u64 0, .string ByteArray.empty], .slice none 0 0, .int .u8 0], []⟩).memory :=
  laidMet_of_run' 8 (by kernel_rfl) (by kernel_rfl)
theorem reads (os : Os) {H : Type} (enc : TypeId × Value → H) : ∃ places, DataW.whole enc Tryd.prog ((laidWorld os).forCall (fun _ _ => 0) ⟨#[], #[.agg #[.int .i64 0, .int .u64 0, .string ByteArray.empty], .slice none 0 0, .int .u8 0], []⟩).memory Tryd.f6.params.toList Rows.valueRawSpec.vars false #[Value.agg #[.int .i64 0, .int .u64 0, .string ByteArray.empty], .slice none 0 0, .int .u8 0].toList 8 = some ([.agg [.lit (.int .i64 0), .lit (.int .u64 0), .lit (.string [])], .nil, .lit (.int .u8 0)], [], places) :=
  ⟨[], by kernel_rfl⟩

set_option maxRecDepth 100000 in
theorem lifted (os : Os) (started : os.Started) (H : Type) (enc : TypeId × Value → H) (F : Stop.Interp) :
    ReturnsInHanded {} Tryd.checked os 6 .any ((OpenSpec.ofChange Rows.valueRawSpec).preRow enc Tryd.prog Tryd.f6 Rows.valueRawRow.domain false Rows.valueRawRow.laid) (((OpenSpec.ofChange Rows.valueRawSpec).at F).post enc Tryd.prog Tryd.f6 false true false false) := by
  obtain ⟨places, hx⟩ := reads os enc
  refine returnsInHanded_of_row (C := Tryd.checked) (s := (OpenSpec.ofChange Rows.valueRawSpec)) own started (by kernel_rfl) Tryd.func6
    (witness_row_at (enc := enc) (C := Tryd.checked) false (laidWorld os) #[.agg #[.int .i64 0, .int .u64 0, .string ByteArray.empty], .slice none 0 0, .int .u8 0] rfl (by kernel_rfl) (by kernel_rfl) (by kernel_rfl)
      (OpenSpec.preRow_of_cond 8 hx (by kernel_rfl) (fun k hk => by cases hk) (by kernel_rfl) (laid_met os))) ?_
  intro W base args ds gs before hval hW _ hcnd hsz hL _ _
  exact contract F H enc W base args ds gs before hval hW  hsz hL

theorem said : Rows.ValueRawSaid :=
  OpenClaim.holds_of_cond 6 Tryd.f6 rfl rfl rfl rfl rfl rfl rfl ⟨rfl, rfl, rfl, rfl, rfl⟩ rfl rfl rfl rfl rfl (by kernel_rfl) Tryd.func6 (by kernel_rfl)
    (of_decide_eq_true (by kernel_rfl)) (by unfold Func.isWrapper; first | (rw [if_pos (by decide +kernel)]; kernel_rfl) | (rw [if_neg (by decide +kernel)]; exact ⟨rfl, rfl⟩))
    (fun os started H enc _ F => by rw [OpenClaim.pre_eq_preRow]; exact lifted os started H enc F)

theorem plain (f : FuncId) (fn : Func) (hf : Tryd.pinned.checked.prog.funcNamed "crier/crierlaw05.ValueRaw" = some f) (hfn : Tryd.pinned.checked.prog.funcs[f]? = some fn) :
    false = Tryd.pinned.checked.prog.looks [] ∧ ∀ (j : Nat) t, fn.params[j]? = some t → Tryd.pinned.checked.prog.wantsStandIn t = false := by
  obtain rfl : f = 6 := Option.some.inj ((show Tryd.prog.funcNamed "crier/crierlaw05.ValueRaw" = some 6 by kernel_rfl).symm.trans hf) |>.symm
  obtain rfl : fn = Tryd.f6 := (Option.some.inj (Tryd.func6.symm.trans hfn)).symm
  refine ⟨by kernel_rfl, fun j t ht => ?_⟩
  rw [Tryd.params6] at ht
  have : t = 5 ∨ t = 24 ∨ t = 25 := by have := Array.mem_of_getElem? ht; simp at this; first | exact this | omega | grind
  rcases this with rfl | rfl | rfl
  · exact (show Tryd.prog.wantsStandIn 5 = false by kernel_rfl)
  · exact (show Tryd.prog.wantsStandIn 24 = false by kernel_rfl)
  · exact (show Tryd.prog.wantsStandIn 25 = false by kernel_rfl)

/-- THE CARD. -/
theorem proved : Rows.ValueRawCardSaid :=
  Claim7.holds_tied_plain_at .later [] _ _ _ _ said (fun _ h => by cases h) (by kernel_rfl) (fun _ h => by cases h) valueRaw_row_tie rfl ⟨rfl, rfl⟩ (by kernel_rfl) rfl plain (by kernel_rfl)
end Go.Proofs.YtoglgdkeknojkaaDoor.valueRaw
