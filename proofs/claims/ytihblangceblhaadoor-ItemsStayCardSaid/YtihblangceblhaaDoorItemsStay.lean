/-
  ItemsStay: FOR EVERY INPUT the law returns true and leaves its arguments as they were; the package's tables are laid (a card).
-/
import Derived.Test.YtihblangceblhaaDoorTv
import Derived.Test.YtihblangceblhaaDoorCards
import Derived.Test.YtihblangceblhaaDoorTie
import Derived.BigQuiet
import Derived.Deep.QuietTactic
import Derived.WalkKit
import Derived.ProofKit
import Derived.OpenShut
import Derived.ChangeOld
import Derived.Below
import Derived.SizedLaws
import Derived.Lib.SmallJoins
import Derived.Deep.DeepHandedRow
import Derived.Lib.LaidTab
namespace Go.Proofs.YtihblangceblhaaDoor.itemsStay
set_option linter.unusedSimpArgs false
open Go.ChangeShapes Go.WideShapes Go.ChangeAt Go.RowKit
open Go.ChangeMaps (open_string shut_string)
set_option linter.unusedVariables false

theorem own : ownKnob Tryd.prog.godebug = none := by kernel_rfl
theorem laidOut : laidOutB Tryd.prog = true := by kernel_rfl

theorem neq_it (x : It) (W : World) : (binOp .neq 37 (.agg x.v) (.agg x.v)).run Tryd.prog W = .ok (.bool false) W := by
  unfold It.v
  go_simp
theorem str_neq (a : ByteArray) : (a.toList != a.toList) = false := by simp
set_option maxHeartbeats 16000000 in
set_option maxRecDepth 100000 in
theorem walk (a0 : Option Addr) (len0 cap0 : Nat) (l : List Mt) (a1 : Option Addr) (len1 cap1 : Nat) (ms : List Mt) (w : World) (ht : Tabs w)
    (h0 : MtsAt w (.slice a0 len0 cap0) l) (ok0 : ∀ f ∈ l, f.ok) (h1 : MtsAt w (.slice a1 len1 cap1) ms) (ok1 : ∀ f ∈ ms, f.ok) : Calls Tryd.prog 5 #[.slice a0 len0 cap0, .slice a1 len1 cap1] w (YesW w) := by
  have PB := Lib.hid (pborn_any _ l w ht h0 ok0)
  have LB := bornR_len l
  have NB := bornR_num l
  have GB := bornR_ge l
  have UN := updF_num [] ⟨#[]⟩ ms (bornR l).1
  have UG := updF_ge [] ⟨#[]⟩ ms (bornR l).1
  have UK := updF_keep ⟨#[]⟩ ms (bornR l).1
  have TW := Lib.hid (fun W (hW : Below w.heap.size w W) => ht.keep hW)
  have M1 := Lib.hid (fun W (hW : Below w.heap.size w W) => h1.keep hW (Nat.le_refl _))
  have OK1 := Lib.hid ok1
  generalize bornR l = R at *
  obtain ⟨L, c⟩ := R
  simp only at LB NB GB UN UG UK
  have UP := Lib.hid (fun v mv ml W (g m : Nat) (D : DataW Unit) X => @pupd_any [] g m D ⟨#[]⟩ v X mv ml W)
  obtain ⟨p1, p2, e1, hm2, hc1⟩ := h1
  simp only [Value.slice.injEq] at e1
  obtain ⟨rfl, rfl, rfl⟩ := e1
  have hmsl : (ms.length : Int) ≤ 140737488355328 := by omega
  have HC1 := Lib.hid hc1
  clear ht h0 ok0 ok1 hc1
  replace LB := Lib.hid LB
  replace UN := Lib.hid UN
  replace UG := Lib.hid UG
  replace UK := Lib.hid UK
  go_enter Tryd.func5, Tryd.ntmps5
  go_wp2_with fail
  refine (PB.out).mono ?_
  rintro e w1 ⟨v1, rfl, i1, b1⟩
  have B1 := Lib.hid b1
  have I1 := Lib.hid (fun W (hW : Below w1.heap.size w1 W) => i1.keep hW (Nat.le_refl _))
  obtain ⟨x1, y1, rfl, -, -⟩ := i1
  clear b1 PB
  by_cases hc : c = 1
  rotate_left
  · have hc' : (c != 1) = true := by simpa using hc
    have hL0 : L = [] := by
      rcases NB with h | ⟨-, h⟩
      · exact absurd h hc
      · exact h
    have hc3 : 3 ≤ c := by
      rcases GB with h | h
      · exact absurd h hc
      · exact h
    subst hL0
    replace hc := Lib.hid hc
    clear UP I1 M1 UN UG UK LB NB GB
    simp only [List.length_nil]
    go_wp2_with fail
    refine (awake31 _ (TW.out _ B1.out)).mono ?_
    rintro e w2 ⟨rfl, b2⟩
    have B2 := Lib.hid (ext_trans B1.out b2)
    clear b2
    go_wp2_with fail
    go_ret
    exact ⟨rfl, B2.out⟩
  subst hc
  clear NB GB
  obtain ⟨i0, z, hi0, hz0, hz1, hz2, hzs⟩ := info37
  replace hi0 := Lib.hid hi0
  replace hz0 := Lib.hid hz0
  replace hz1 := Lib.hid hz1
  replace hz2 := Lib.hid hz2
  replace hzs := Lib.hid hzs
  have E0 := Lib.hid (ext_alloc w1 (.cells #[] 37))
  have O0 := Lib.hid (World.ownsRow_made (base := w1.heap.size) (e := 37) (size := 8) w1 #[] 0 (Nat.le_refl _) (Nat.zero_le _) (by simp))
  have IL0 := Lib.hid (I1.out _ E0.out)
  have l1 : Hid (([] : List It).length + L.length ≤ 100000000) := Lib.hid (by have := LB.out; simp; omega)
  have hLi : (L.length : Int) ≤ 32 := by have := LB.out; omega
  go_wp2_with (at_builtin; refine wpList_append_its _ rfl (.tmp 30) (.tmp 31) 33 rfl w1.heap.size 37 i0 z Tryd.underlying33 hi0.out hz0.out hzs.out hz1.out hz2.out (.slice (some ⟨w1.heap.size, 0, none⟩) 0 0) [] L rfl O0.out IL0.out l1.out (by simp) ?_; intro v2 w2 o2 g2; have E2 := Lib.hid (E0.out.grown g2 (by simp) (fun k hk => (O0.out.lt k hk).1)); have O2 := Lib.hid (show w2.ownsRow w1.heap.size 37 8 v2 L.length (itsAtC L) from o2); have B2 := Lib.hid (ext_trans B1.out E2.out); clear o2 g2)
  have I2 := Lib.hid (fun W (hW : Below w2.heap.size w2 W) => (ItsAt.of_own O2.out (by have := LB.out; omega)).keep hW (Nat.le_refl _))
  have IL2 := Lib.hid (fun W (hW : Below w2.heap.size w2 W) => I1.out W (ext_trans E2.out hW))
  obtain ⟨x2, y2, rfl⟩ := own_slice O2.out
  clear O0 O2 IL0 E0 E2 I1
  refine (new31 _).mono ?_
  rintro e w3 ⟨g3, m3, rfl, hT3, b3⟩
  have B3 := Lib.hid (ext_trans B2.out b3)
  have U1 := Lib.hid (UP.out _ _ _ w3 g3 m3 _ L (TW.out _ B3.out) (IL2.out _ b3) (by have := LB.out; omega) (M1.out _ B3.out) OK1.out hT3)
  have I3 := Lib.hid (fun W (hW : Below w3.heap.size w3 W) => I2.out W (ext_trans b3 hW))
  have IL3 := Lib.hid (fun W (hW : Below w3.heap.size w3 W) => IL2.out W (ext_trans b3 hW))
  generalize hR1 : updF [] ⟨#[]⟩ ms L = R1 at *
  obtain ⟨N, d⟩ := R1
  simp only at U1
  have UN' := UN.out
  have UG' := UG.out
  try simp only at UN' UG'
  replace hR1 := Lib.hid hR1
  clear b3 hT3 I2 IL2 B2 UN UG UP
  go_wp2_with fail
  refine (U1.out).mono ?_
  rintro e w4 ⟨v4, rfl, i4, b4⟩
  have B4 := Lib.hid (ext_trans B3.out b4)
  have IN := Lib.hid (fun W (hW : Below w4.heap.size w4 W) => i4.keep hW (Nat.le_refl _))
  have IL4 := Lib.hid (fun W (hW : Below w4.heap.size w4 W) => IL3.out W (ext_trans b4 hW))
  have SM := Lib.hid (same_eq _ _ L w4 (IL3.out _ b4) (I3.out _ b4))
  obtain ⟨x4, y4, rfl, hNl, -⟩ := i4
  clear b4 U1 I3 IL3
  go_wp2_with fail
  refine (SM.out).mono ?_
  rintro e w5 ⟨rfl, b5⟩
  have B5 := Lib.hid (ext_trans B4.out b5)
  have IN5 := Lib.hid (fun W (hW : Below w5.heap.size w5 W) => IN.out W (ext_trans b5 hW))
  have IL5 := Lib.hid (fun W (hW : Below w5.heap.size w5 W) => IL4.out W (ext_trans b5 hW))
  clear b5 SM IN IL4 B3 B4
  by_cases hd : d = 1
  rotate_left
  · have hd' : (d != 1) = true := by simpa using hd
    have hN0 : N = [] := by
      rcases UN' with h | ⟨-, h⟩
      · exact absurd h hd
      · exact h
    have hd3 : 3 ≤ d := by
      rcases UG' with h | h
      · exact absurd h hd
      · exact h
    subst hN0
    replace hd := Lib.hid hd
    clear IN5 IL5 M1 UK UN' UG' hNl
    simp only [List.length_nil]
    go_wp2_with fail
    refine (awake31 _ (TW.out _ B5.out)).mono ?_
    rintro e w6 ⟨rfl, b6⟩
    have B6 := Lib.hid (ext_trans B5.out b6)
    clear b6
    go_wp2_with fail
    go_ret
    exact ⟨rfl, B6.out⟩
  subst hd
  obtain ⟨hNL, hKeep⟩ := UK.out rfl
  try simp only at hNL hKeep
  have NIN : ∀ W, Below w5.heap.size w5 W → ItsAt W (.slice x4 L.length y4) N := fun W hW => by have := IN5.out W hW; rw [hNL] at this; exact this
  rw [hNL]
  obtain ⟨_, _, eN, -, hcN⟩ := NIN w5 (Below.refl _ _)
  simp only [Value.slice.injEq] at eN
  obtain ⟨rfl, -, rfl⟩ := eN
  obtain ⟨_, _, eL, -, hcL⟩ := IL5.out w5 (Below.refl _ _)
  simp only [Value.slice.injEq, true_and] at eL
  obtain ⟨rfl, rfl⟩ := eL
  have HN := Lib.hid hcN
  have HL := Lib.hid hcL
  replace hKeep := Lib.hid hKeep
  replace hNL := Lib.hid hNL
  clear UK UN' UG' IN5 IL5 NIN hcN hcL M1 hNl
  go_wp2_with fail
  go_loopw [10] (fun i wr => ∃ k : Nat, i = .int .i64 (k : Int) ∧ k ≤ L.length ∧ Below w5.heap.size w5 wr) (fun i _ => L.length - (intOf i).toNat)
  case atStart => exact ⟨0, rfl, by omega, Below.refl _ _⟩
  case round =>
    obtain ⟨k, rfl, hk, hb⟩ := hrel
    replace hb := Lib.hid hb
    by_cases hend : k = L.length
    · subst hend
      have BE := Lib.hid (B5.out.trans (hb.out.mono B5.out.size))
      clear HN HL hKeep
      go_wp2_with fail
      refine (awake31 _ (TW.out _ BE.out)).mono ?_
      rintro e w6 ⟨rfl, b6⟩
      have BF := Lib.hid (ext_trans BE.out b6)
      clear b6
      go_wp2_with fail
      go_ret
      exact ⟨rfl, BF.out⟩
    have hkl : k < L.length := by omega
    have klt : (k : Int) < (L.length : Int) := by omega
    obtain ⟨x, hx⟩ : ∃ x, L[k]? = some x := ⟨_, List.getElem?_eq_getElem hkl⟩
    obtain ⟨y, hy, q0, q1, q2, q3, q4⟩ := hKeep.out k x hx
    obtain ⟨bN, oN, eN, hbN, e0, e1, e2, e3, e4, e5, e6, e7⟩ := itsAt_at hy hb.out HN.out
    obtain ⟨bL, oL, eL, hbL, f0, f1, f2, f3, f4, f5, f6, f7⟩ := itsAt_at hx hb.out HL.out
    subst eN eL
    obtain ⟨n0, n1, n2, n3, n4, n5, n6, n7⟩ := y
    obtain ⟨m0, m1, m2, m3, m4, m5, m6, m7⟩ := x
    simp only at q0 q1 q2 q3 q4 e0 e1 e2 e3 e4 e5 e6 e7 f0 f1 f2 f3 f4 f5 f6 f7
    subst q0 q1 q2 q3
    replace hx := Lib.hid hx
    replace hy := Lib.hid hy
    replace q4 := Lib.hid q4
    replace hend := Lib.hid hend
    go_wp2_with fail
    go_loopw [11, 12] (fun b i wr2 => ∃ j : Nat, i = .int .i64 (j : Int) ∧ j ≤ ms.length ∧ b = .bool (nam (ms.take j) n0) ∧ Below wr.heap.size wr wr2) (fun _ i _ => ms.length - (intOf i).toNat)
    case atStart => exact ⟨0, rfl, by omega, rfl, Below.refl _ _⟩
    case round =>
      obtain ⟨j, rfl, hj, rfl, hb2⟩ := hrel
      replace hb2 := Lib.hid hb2
      have r0 := (hb2.out.cell (p := ⟨bN, oN + k * 8, none⟩) (by have := hb.out.size; simp; omega)).trans e0
      have s0 := (hb2.out.cell (p := ⟨bL, oL + k * 8, none⟩) (by have := hb.out.size; simp; omega)).trans f0
      by_cases hend2 : j = ms.length
      · subst hend2
        have r1 := (hb2.out.cell (p := ⟨bN, oN + k * 8 + 1, none⟩) (by have := hb.out.size; simp; omega)).trans e1
        have r2 := (hb2.out.cell (p := ⟨bN, oN + k * 8 + 2, none⟩) (by have := hb.out.size; simp; omega)).trans e2
        have r3 := (hb2.out.cell (p := ⟨bN, oN + k * 8 + 3, none⟩) (by have := hb.out.size; simp; omega)).trans e3
        have r4 := (hb2.out.cell (p := ⟨bN, oN + k * 8 + 4, none⟩) (by have := hb.out.size; simp; omega)).trans e4
        have r5 := (hb2.out.cell (p := ⟨bN, oN + k * 8 + 5, none⟩) (by have := hb.out.size; simp; omega)).trans e5
        have r6 := (hb2.out.cell (p := ⟨bN, oN + k * 8 + 6, none⟩) (by have := hb.out.size; simp; omega)).trans e6
        have r7 := (hb2.out.cell (p := ⟨bN, oN + k * 8 + 7, none⟩) (by have := hb.out.size; simp; omega)).trans e7
        have s1 := (hb2.out.cell (p := ⟨bL, oL + k * 8 + 1, none⟩) (by have := hb.out.size; simp; omega)).trans f1
        have s2 := (hb2.out.cell (p := ⟨bL, oL + k * 8 + 2, none⟩) (by have := hb.out.size; simp; omega)).trans f2
        have s3 := (hb2.out.cell (p := ⟨bL, oL + k * 8 + 3, none⟩) (by have := hb.out.size; simp; omega)).trans f3
        have s4 := (hb2.out.cell (p := ⟨bL, oL + k * 8 + 4, none⟩) (by have := hb.out.size; simp; omega)).trans f4
        have s5 := (hb2.out.cell (p := ⟨bL, oL + k * 8 + 5, none⟩) (by have := hb.out.size; simp; omega)).trans f5
        have s6 := (hb2.out.cell (p := ⟨bL, oL + k * 8 + 6, none⟩) (by have := hb.out.size; simp; omega)).trans f6
        have s7 := (hb2.out.cell (p := ⟨bL, oL + k * 8 + 7, none⟩) (by have := hb.out.size; simp; omega)).trans f7
        have es := str_neq n0
        have BX := Lib.hid (hb.out.trans (hb2.out.mono hb.out.size))
        clear e0 e1 e2 e3 e4 e5 e6 e7 f0 f1 f2 f3 f4 f5 f6 f7
        rw [List.take_length] at *
        cases hn : nam ms n0 with
        | true =>
          clear q4 hx hy
          replace hn := Lib.hid hn
          go_wp2_with fail
          dsimp only [List.append]
          go_quiet (fail)
          go_wp2_with fail
          go_roundw
          case rel => exact ⟨k + 1, by simp, by omega, BX.out.trans ⟨rfl, rfl, rfl, Nat.le_refl _, fun _ _ => rfl⟩⟩
          case measure => simp [intOf]; omega
        | false =>
          have hq := q4.out (nam_false hn)
          simp only [It.mk.injEq, true_and] at hq
          obtain ⟨rfl, rfl, rfl, rfl⟩ := hq
          clear q4 hx hy
          replace hn := Lib.hid hn
          go_wp2_with fail
          dsimp only [List.append]
          go_quiet (fail)
          go_wp2_with fail
          go_roundw
          case rel => exact ⟨k + 1, by simp, by omega, BX.out.trans ⟨rfl, rfl, rfl, Nat.le_refl _, fun _ _ => rfl⟩⟩
          case measure => simp [intOf]; omega
      have hjl : j < ms.length := by omega
      have jlt : (j : Int) < (ms.length : Int) := by omega
      obtain ⟨f, hf⟩ : ∃ f, ms[j]? = some f := ⟨_, List.getElem?_eq_getElem hjl⟩
      obtain ⟨bM, oM, eM, hbM, t0, -⟩ := mtsAt_at hf (B5.out.trans ((hb.out.trans (hb2.out.mono hb.out.size)).mono B5.out.size)) HC1.out
      subst eM
      have nt := nam_take hf n0
      obtain ⟨fn, fha, fal, fti, fty, fhi, ftr, fnu, fvm, fvp, fkk, fnn, fs, fvs, fvt⟩ := f
      simp only at t0 nt
      replace hf := Lib.hid hf
      clear e0 e1 e2 e3 e4 e5 e6 e7 f0 f1 f2 f3 f4 f5 f6 f7 r0
      cases hn : nam (ms.take j) n0 with
      | true =>
        rw [hn, Bool.true_or] at nt
        replace nt := Lib.hid nt
        replace hn := Lib.hid hn
        go_wp2_with fail
        go_quiet (fail)
        go_wp2_with fail
        go_roundw
        case rel => exact ⟨j + 1, by simp, by omega, by rw [nt.out], hb2.out.trans ⟨rfl, rfl, rfl, Nat.le_refl _, fun _ _ => rfl⟩⟩
        case measure => simp [intOf]; omega
      | false =>
        rw [hn, Bool.false_or] at nt
        replace hn := Lib.hid hn
        by_cases hfn : fn = n0
        · subst hfn
          have et := str_eq fn
          have nt2 : nam (ms.take (j + 1)) fn = true := by rw [nt]; simp
          replace nt2 := Lib.hid nt2
          clear nt
          go_wp2_with fail
          go_quiet (fail)
          go_wp2_with fail
          go_roundw
          case rel => exact ⟨j + 1, by simp, by omega, by rw [nt2.out], hb2.out.trans ⟨rfl, rfl, rfl, Nat.le_refl _, fun _ _ => rfl⟩⟩
          case measure => simp [intOf]; omega
        · have et := str_ne hfn
          have nt2 : nam (ms.take (j + 1)) n0 = false := by rw [nt]; simpa using hfn
          replace nt2 := Lib.hid nt2
          replace hfn := Lib.hid hfn
          clear nt
          go_wp2_with fail
          go_quiet (fail)
          go_wp2_with fail
          go_roundw
          case rel => exact ⟨j + 1, by simp, by omega, by rw [nt2.out], hb2.out.trans ⟨rfl, rfl, rfl, Nat.le_refl _, fun _ _ => rfl⟩⟩
          case measure => simp [intOf]; omega

set_option maxRecDepth 100000 in
theorem contract (F : Stop.Interp) (H : Type) (enc : TypeId × Value → H) (W : World) (base : Nat) (args : Array Value) (ds gs : List (DataW H)) (before : List MemPlace)
    (hval : ∀ (j : Nat) t v, Tryd.f5.params[j]? = some t → args[j]? = some v → Value.okWide Tryd.prog W .any base t v)
    (hW : DataW.Whole enc Tryd.prog Tryd.f5.params.toList Rows.itemsStaySpec.vars false W args.toList ds gs before)
    
    (hsz : (DataW.weightsEach Tryd.prog (Tryd.f5.params.toList ++ (OpenSpec.ofChange Rows.itemsStaySpec).bare.plain.varTypes Tryd.prog) (ds ++ gs)).all (· ≤ reachBytes) = true) (hL : laidMetH Tryd.prog Rows.itemsStayRow.laid W) :
    Calls Tryd.prog 5 args W fun e W' => ∃ v, e = .returned v ∧ ((OpenSpec.ofChange Rows.itemsStaySpec).at F).post enc Tryd.prog Tryd.f5 false true false false W args v W' := by
  have hW' := hW
  obtain ⟨p, q, hA0, hV, rfl, hfz, hnd⟩ := hW
  have hA : DataW.TrodAll enc Tryd.prog W 0 (fun _ => true) true Tryd.f5.params.toList args.toList ds p := hA0
  rw [Tryd.params5] at hA hval hsz
  obtain ⟨v0, vs0, d0, ds0, p0, q0, hargs, rfl, rfl, h0, r0⟩ := trodAll_cons hA
  obtain ⟨v1, vs1, d1, ds1, p1, q1, rfl, rfl, rfl, h1, r1⟩ := trodAll_cons r0
  obtain ⟨rfl, rfl, rfl⟩ := trodAll_nil r1
  obtain rfl : args = #[v0, v1] := by cases args; simp_all
  obtain ⟨rfl, rfl⟩ := trodVars_none hV
  have k0 := h0
  have lt0 : ∀ x ∈ p0, x.block < W.heap.size := by obtain ⟨m, hm⟩ := k0; exact DataW.trod_lt m _ _ _ hm
  have k1 := h1
  have lt1 : ∀ x ∈ p1, x.block < W.heap.size := by obtain ⟨m, hm⟩ := k1; exact DataW.trod_lt m _ _ _ hm
  obtain ⟨a0, len0, cap0, rfl⟩ := okWide_slice Tryd.underlying22 (hval 0 22 v0 rfl rfl)
  obtain ⟨z0, w0, s0⟩ : ∃ l : List Mt, MtsAt W (.slice a0 len0 cap0) l ∧ ∀ f ∈ l, f.ok := by
    obtain ⟨fuel, hf⟩ := h0
    exact open_mts hf (fun n hn => by
      have hm := List.all_eq_true.1 hsz n (DataW.weights_mem_each (j := 0) (t := 22) rfl rfl _ hn)
      simpa [reachBytes] using of_decide_eq_true hm)
  obtain ⟨a1, len1, cap1, rfl⟩ := okWide_slice Tryd.underlying22 (hval 1 22 v1 rfl rfl)
  obtain ⟨z1, w1, s1⟩ : ∃ l : List Mt, MtsAt W (.slice a1 len1 cap1) l ∧ ∀ f ∈ l, f.ok := by
    obtain ⟨fuel, hf⟩ := h1
    exact open_mts hf (fun n hn => by
      have hm := List.all_eq_true.1 hsz n (DataW.weights_mem_each (j := 1) (t := 22) rfl rfl _ hn)
      simpa [reachBytes] using of_decide_eq_true hm)
  clear hA0
  refine (walk a0 len0 cap0 z0 a1 len1 cap1 z1 W (tabs_of hL) w0 s0 w1 s1).mono fun e W' ⟨he, bel⟩ => ?_
  subst he
  exact ⟨_, rfl, _, _, _, [], _, [], hW', trodAll_mk1 (shut_bool Tryd.underlying4 _), (trodAll_cons_mk (Below.trod laidOut (by kernel_rfl) (of_decide_eq_true (by kernel_rfl)) k0 bel lt0) (trodAll_cons_mk (Below.trod laidOut (by kernel_rfl) (of_decide_eq_true (by kernel_rfl)) k1 bel lt1) trodAll_mk0)), rfl, bel.frame _, fun h => by cases h⟩

/-- A world for the witness. -/
noncomputable def laidWorld (os : Os) : World := laidW os
theorem laid_met (os : Os) : laidMetH Tryd.prog Rows.itemsStayRow.laid ((laidWorld os).forCall (fun _ _ => 0) ⟨#[], #[.slice none 0 0, .slice none 0 0], []⟩).memory := laidW_met os _
theorem reads (os : Os) {H : Type} (enc : TypeId × Value → H) : ∃ places, DataW.whole enc Tryd.prog ((laidWorld os).forCall (fun _ _ => 0) ⟨#[], #[.slice none 0 0, .slice none 0 0], []⟩).memory Tryd.f5.params.toList Rows.itemsStaySpec.vars false #[Value.slice none 0 0, .slice none 0 0].toList 8 = some ([.nil, .nil], [], places) :=
  ⟨[], by kernel_rfl⟩

set_option maxRecDepth 100000 in
theorem lifted (os : Os) (started : os.Started) (H : Type) (enc : TypeId × Value → H) (F : Stop.Interp) :
    ReturnsInHanded {} Tryd.checked os 5 .any ((OpenSpec.ofChange Rows.itemsStaySpec).preRow enc Tryd.prog Tryd.f5 Rows.itemsStayRow.domain false Rows.itemsStayRow.laid) (((OpenSpec.ofChange Rows.itemsStaySpec).at F).post enc Tryd.prog Tryd.f5 false true false false) := by
  obtain ⟨places, hx⟩ := reads os enc
  refine returnsInHanded_of_row (C := Tryd.checked) (s := (OpenSpec.ofChange Rows.itemsStaySpec)) own started (by kernel_rfl) Tryd.func5
    (witness_row_at (enc := enc) (C := Tryd.checked) false (laidWorld os) #[.slice none 0 0, .slice none 0 0] rfl (by kernel_rfl) (by kernel_rfl) (by kernel_rfl)
      (OpenSpec.preRow_of_cond 8 hx (by kernel_rfl) (fun k hk => by cases hk) (by kernel_rfl) (laid_met os))) ?_
  intro W base args ds gs before hval hW _ hcnd hsz hL _ _
  exact contract F H enc W base args ds gs before hval hW  hsz hL

theorem said : Rows.ItemsStaySaid :=
  OpenClaim.holds_of_cond 5 Tryd.f5 rfl rfl rfl rfl rfl rfl rfl ⟨rfl, rfl, rfl, rfl, rfl⟩ rfl rfl rfl rfl rfl (by kernel_rfl) Tryd.func5 (by kernel_rfl)
    (of_decide_eq_true (by kernel_rfl)) (by unfold Func.isWrapper; first | (rw [if_pos (by decide +kernel)]; kernel_rfl) | (rw [if_neg (by decide +kernel)]; exact ⟨rfl, rfl⟩))
    (fun os started H enc _ F => by rw [OpenClaim.pre_eq_preRow]; exact lifted os started H enc F)

theorem plain (f : FuncId) (fn : Func) (hf : Tryd.pinned.checked.prog.funcNamed "crier/crierlaw31.ItemsStay" = some f) (hfn : Tryd.pinned.checked.prog.funcs[f]? = some fn) :
    true = Tryd.pinned.checked.prog.looks [] ∧ ∀ (j : Nat) t, fn.params[j]? = some t → Tryd.pinned.checked.prog.wantsStandIn t = false := by
  obtain rfl : f = 5 := Option.some.inj ((show Tryd.prog.funcNamed "crier/crierlaw31.ItemsStay" = some 5 by kernel_rfl).symm.trans hf) |>.symm
  obtain rfl : fn = Tryd.f5 := (Option.some.inj (Tryd.func5.symm.trans hfn)).symm
  refine ⟨by kernel_rfl, fun j t ht => ?_⟩
  rw [Tryd.params5] at ht
  obtain rfl : t = 22 := by have := Array.mem_of_getElem? ht; simpa using this
  exact (show Tryd.prog.wantsStandIn 22 = false by kernel_rfl)

/-- THE CARD. -/
theorem proved : Rows.ItemsStayCardSaid :=
  Claim7.holds_tied_plain_at .later [] _ _ _ _ said (fun _ h => by cases h) (by kernel_rfl) (fun _ h => by cases h) itemsStay_row_tie rfl ⟨rfl, rfl⟩ (by kernel_rfl) rfl plain (by kernel_rfl)
end Go.Proofs.YtihblangceblhaaDoor.itemsStay
