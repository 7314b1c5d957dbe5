/-
  FlightEnds: FOR EVERY INPUT the law returns true and leaves its arguments as they were.
-/
import Derived.Test.YtcjoemejoeekiaaFn
import Derived.Test.YtcjoemejoeekiaaByt
import Derived.Test.YtcjoemejoeekiaaBl
import Derived.Test.YtcjoemejoeekiaaRows
import Derived.WalkKit
import Derived.ProofKit
import Derived.OpenShut
import Derived.ShutString
import Derived.ChangeOld
import Derived.Below
import Derived.SizedLaws
import Derived.Lib.SmallJoins
namespace Go.Proofs.Ytcjoemejoeekiaa.flightEnds
open Go.ChangeShapes Go.WideShapes Go.ChangeAt Go.RowKit
open Go.ChangeMaps (open_string shut_string)
set_option linter.unusedVariables false

theorem own : ownKnob Try.prog.godebug = none := by kernel_rfl
theorem laidOut : laidOutB Try.prog = true := by kernel_rfl

open Fli Que Ids
set_option maxHeartbeats 32000000 in
set_option maxRecDepth 100000 in
theorem walk (a : Option Addr) (len cap : Nat) (F : Nat → Bool) (m : Int) (w : World) (h1 : IsBools w a len F) (b1 : 0 ≤ m ∧ m ≤ 255) :
    Calls Try.prog 10 #[.slice a len cap, .int .u8 m] w (Yes w) := by
  obtain ⟨i3, hi3, hz0, hz1, hz2⟩ := info_parts info3
  obtain ⟨hl, hc⟩ := h1
  have hl' : (len : Int) ≤ 9223372036854775807 := by unfold maxLen at hl; omega
  have x0 : 0 ≤ m := b1.1
  have x1 : m ≤ 255 := b1.2
  replace hc := Lib.hid hc
  clear b1
  have N1 := Lib.hid (f_new w)
  go_enter Try.func10, Try.ntmps10
  go_wp2_with fail
  refine N1.out.mono ?_
  rintro e w1 ⟨f, g, rfl, s1, b1⟩
  have S1 : Hid (FN w w1 f g [] (sL F 0) (.slice none 0 0) 0) := Lib.hid ⟨s1.weaken (fun k hk => hk.elim id (fun e => by cases e)), World.ownsRow_nil _ _ _ _, b1⟩
  clear s1 b1 N1
  go_wp2_with fail
  go_loopw [6, 7] (fun nv iv wr => ∃ (i : Nat) (T : List Bool), iv = .int .i64 (i : Int) ∧ i ≤ len ∧ i ≤ 8 ∧ FN w wr f g T (sL F i) nv i) (fun _ iv _ => len - (intOf iv).toNat)
  case atStart => exact ⟨0, [], rfl, by omega, by omega, S1.out⟩
  case round =>
    obtain ⟨i, T, rfl, hi, hi2, h⟩ := hrel
    obtain ⟨va, vc, rfl⟩ := own_slice h.row
    by_cases hlt : i < len ∧ i < 8
    · obtain ⟨hlt0, hlt1⟩ := hlt
      obtain ⟨kb, ko, rfl, hk1⟩ : ∃ b o, a = some ⟨b, o, none⟩ ∧ ∀ W, Below w.heap.size w W → W.cell? ⟨b, o + i, none⟩ = some (.bool (F i)) := by
        rcases hc.out with h' | ⟨b, o, ha, hb0, h'⟩
        · omega
        · exact ⟨b, o, ha, fun W hW => (hW.cell (by simpa using hb0)).trans (h' i hlt0)⟩
      have hlt0' : (i : Int) < (len : Int) := by omega
      have hlt1' : (i : Int) < 8 := by omega
      have hi0 : (0 : Int) ≤ (i : Int) := by omega
      have hx := nxt_sL h.fs
      have SE : Hid (∀ W, Below wr.heap.size wr W → Calls Try.prog 36 #[.pointer (some ⟨f, 0, none⟩), .agg #[.string { data := #[116] }, .string { data := #[] }, .int .i64 (qOf (F i)), .bool false]] W fun e w' => e = .returned (.tuple #[.int .i64 ((i : Int) + 1), .int .i64 0]) ∧ ∃ T', FN w w' f g T' (sL F (i + 1)) (.slice va i vc) i) := Lib.hid fun W hW => by
        have s := send_ok (h.ext hW).fs { data := #[116] } { data := #[] } (qOf (F i)) false (by unfold qOf; split <;> simp) (by rw [sL_len]; exact hlt1)
        rw [hx] at s
        refine s.mono ?_
        rintro e w' ⟨he, s2, k2⟩
        refine ⟨he, tk T, (h.ext hW).onF ?_ k2⟩
        rw [sL_snoc]; exact s2
      have bw := h.bw
      have hk2 := hk1 wr bw
      have KX := Lib.hid (fun W (hW : Below wr.heap.size wr W) => hk1 W (ext_trans bw hW))
      clear h hk1 hx bw
      cases hF : F i
      · rw [hF] at hk2 SE KX
        replace hF := Lib.hid hF
        have kx := KX.out (wr.alloc (.cells #[.string { data := #[116] }, .string { data := #[] }, .int .i64 1, .bool false] 65)) (ext_alloc _ _)
        go_wp2_with fail
        refine (SE.out _ (by first | exact ext_alloc _ _ | exact (ext_alloc _ _).setCell (Nat.le_refl _) _)).mono ?_
        rintro e w3 ⟨rfl, T3, h3⟩
        have H3 := Lib.hid h3
        have oA := Lib.hid (own_keep h3.row (ext_alloc w3 (.cells #[.int .i64 ((i : Int) + 1)] 3)))
        have sz3 := Lib.hid (show w.heap.size ≤ w3.heap.size from h3.bw.size)
        have hnew : Hid (∀ j u, ([Value.int .i64 ((i : Int) + 1)] : List Value)[j]? = some u → (w3.alloc (.cells #[.int .i64 ((i : Int) + 1)] 3)).cell? ((⟨w3.heap.size, 0, none⟩ : Addr).add j) = some u) := Lib.hid (by
          intro j u hj
          have := cell_of_row (w3.alloc (.cells #[.int .i64 ((i : Int) + 1)] 3)) w3.heap.size j _ 3 (0, 0) (heap_alloc_new w3 _)
          rw [add_off', Nat.zero_add, this, ← hj]
          simp)
        clear h3 SE KX kx
        go_wp2_with (first
          | (at_builtin; go_loud (refine wpList_append_own_at _ rfl (.tmp 50) (.tmp 52) 34 rfl w.heap.size 3 i3 (.int .i64 0) 1 8 Try.underlying34 hi3 hz0 hz1 hz2 rfl (by decide) (.slice va i vc) i (il (idL i)) rfl oA.out ⟨w3.heap.size, 0, none⟩ 1 1 [.int .i64 ((i : Int) + 1)] rfl rfl hnew.out (by intro u hu; simp at hu; subst hu; rfl) (by unfold maxLen; omega) (by omega) (by have := sz3.out; simp; omega) ?_); intro v2 w2 o2 g2 _ hat))
        have H4 := Lib.hid (H3.out.onV (ext_alloc w3 _) g2 o2 (fun j hj => by
          rcases hat with e | e
          · exact .inl (e ▸ hj)
          · rw [hj] at e; simp at e; exact .inr (by omega)))
        clear o2 g2 hat
        go_roundw
        case rel => exact ⟨i + 1, T3, by simp, by omega, by omega, H4.out⟩
        case measure => simp [intOf]; omega
      · rw [hF] at hk2 SE KX
        replace hF := Lib.hid hF
        have kx := KX.out (wr.alloc (.cells #[.string { data := #[116] }, .string { data := #[] }, .int .i64 1, .bool false] 65)) (ext_alloc _ _)
        go_wp2_with fail
        refine (SE.out _ (by first | exact ext_alloc _ _ | exact (ext_alloc _ _).setCell (Nat.le_refl _) _)).mono ?_
        rintro e w3 ⟨rfl, T3, h3⟩
        have H3 := Lib.hid h3
        have oA := Lib.hid (own_keep h3.row (ext_alloc w3 (.cells #[.int .i64 ((i : Int) + 1)] 3)))
        have sz3 := Lib.hid (show w.heap.size ≤ w3.heap.size from h3.bw.size)
        have hnew : Hid (∀ j u, ([Value.int .i64 ((i : Int) + 1)] : List Value)[j]? = some u → (w3.alloc (.cells #[.int .i64 ((i : Int) + 1)] 3)).cell? ((⟨w3.heap.size, 0, none⟩ : Addr).add j) = some u) := Lib.hid (by
          intro j u hj
          have := cell_of_row (w3.alloc (.cells #[.int .i64 ((i : Int) + 1)] 3)) w3.heap.size j _ 3 (0, 0) (heap_alloc_new w3 _)
          rw [add_off', Nat.zero_add, this, ← hj]
          simp)
        clear h3 SE KX kx
        go_wp2_with (first
          | (at_builtin; go_loud (refine wpList_append_own_at _ rfl (.tmp 50) (.tmp 52) 34 rfl w.heap.size 3 i3 (.int .i64 0) 1 8 Try.underlying34 hi3 hz0 hz1 hz2 rfl (by decide) (.slice va i vc) i (il (idL i)) rfl oA.out ⟨w3.heap.size, 0, none⟩ 1 1 [.int .i64 ((i : Int) + 1)] rfl rfl hnew.out (by intro u hu; simp at hu; subst hu; rfl) (by unfold maxLen; omega) (by omega) (by have := sz3.out; simp; omega) ?_); intro v2 w2 o2 g2 _ hat))
        have H4 := Lib.hid (H3.out.onV (ext_alloc w3 _) g2 o2 (fun j hj => by
          rcases hat with e | e
          · exact .inl (e ▸ hj)
          · rw [hj] at e; simp at e; exact .inr (by omega)))
        clear o2 g2 hat
        go_roundw
        case rel => exact ⟨i + 1, T3, by simp, by omega, by omega, H4.out⟩
        case measure => simp [intOf]; omega
    · have BW := Lib.hid h.bw
      have hex : (i < len ∧ ¬ i < 8) ∨ ¬ i < len := by omega
      rcases hex with ⟨g1, g2⟩ | g1
      all_goals
        first
          | (have hx3 : ¬ (i : Int) < 8 := by omega
             have hx4 : (i : Int) < (len : Int) := by omega)
          | (have hx4 : ¬ (i : Int) < (len : Int) := by omega)
        clear hlt
        by_cases hn0 : i = 0
        · first
            | (exfalso; omega)
            | (subst hn0
               clear h
               go_wp2_with fail
               refine (awake23_any _).mono ?_
               rintro e w2 ⟨rfl, b2⟩
               go_wp2
               go_ret
               exact ⟨rfl, ext_trans BW.out b2⟩)
        · obtain ⟨j, rfl⟩ : ∃ j, i = j + 1 := ⟨i - 1, by omega⟩
          obtain ⟨k, hkm⟩ : ∃ k : Nat, m % ((j : Int) + 1) = (k : Int) := ⟨(m % ((j : Int) + 1)).toNat, by have := Int.emod_nonneg m (show (j : Int) + 1 ≠ 0 by omega); omega⟩
          have hki : k < j + 1 := by have := Int.emod_lt_of_pos m (show (0 : Int) < (j : Int) + 1 by omega); omega
          obtain ⟨ga, ca, hga⟩ := own_slice' h.row (by omega)
          simp only [Value.slice.injEq] at hga
          obtain ⟨rfl, -, rfl⟩ := hga
          obtain ⟨kb, ko, rfl, hk1⟩ : ∃ b o, a = some ⟨b, o, none⟩ ∧ ∀ W, Below w.heap.size w W → W.cell? ⟨b, o + k, none⟩ = some (.bool (F k)) := by
            rcases hc.out with h' | ⟨b, o, ha, hb0, h'⟩
            · omega
            · exact ⟨b, o, ha, fun W hW => (hW.cell (by simpa using hb0)).trans (h' k (by omega))⟩
          have fk := hk1 wr BW.out
          have n0 := h.num hki
          have hj8 : (j : Int) + 1 ≤ 8 := by omega
          have hj1 : ((j : Int) + 1 == 0) = false := by simp; omega
          have hkl : (k : Int) < (len : Int) := by omega
          have hkj : (k : Int) < (j : Int) + 1 := by omega
          have hk0 : (0 : Int) ≤ (k : Int) := by omega
          have hj0 : (0 : Int) ≤ (j : Int) := by omega
          clear hn0 hk1
          cases hF : F k
          · rw [hF] at fk
            have D1 := Lib.hid (d1 h hki hF)
            replace hF := Lib.hid hF
            clear h
            go_wp2_with fail
            refine D1.out.mono ?_
            rintro e w3 ⟨rfl, h3⟩
            have n3 := h3.num hki
            have D2 := Lib.hid (c2 h3 hki)
            clear h3 D1 n0
            go_wp2_with fail
            refine D2.out.mono ?_
            rintro e w4 ⟨rfl, h4⟩
            have n4 := h4.num hki
            have D3 := Lib.hid (d3 h4 hki hF.out)
            clear h4 D2 n3
            go_wp2_with fail
            refine D3.out.mono ?_
            rintro e w5 ⟨rfl, T5, h5⟩
            have n5 := h5.num hki
            have D4 := Lib.hid (d0 h5 hki)
            clear h5 D3 n4
            go_wp2_with fail
            refine D4.out.mono ?_
            rintro e w6 ⟨rfl, h6⟩
            clear D4 n5
            have AL := Lib.hid (f_all h6.fs)
            have H6 := Lib.hid h6
            clear h6
            go_wp2_with fail
            refine AL.out.mono ?_
            rintro e w7 ⟨v7, rfl, o7, b7⟩
            rw [lft_len F hki, Nat.add_sub_cancel] at o7
            obtain ⟨va7, vc7, rfl⟩ := own_slice o7
            have H7 := Lib.hid (H6.out.ext b7)
            have AG := Lib.hid (f_again H7.out.fs)
            replace o7 := Lib.hid o7
            clear b7 AL
            go_wp2_with fail
            refine AG.out.mono ?_
            rintro e w8 ⟨v8, rfl, o8, b8⟩
            rw [lft_len F hki, Nat.add_sub_cancel] at o8
            obtain ⟨va8, vc8, rfl⟩ := own_slice o8
            have H8 := Lib.hid (H7.out.ext b8)
            have O7 := Lib.hid (own_keep o7.out b8)
            have O8 := Lib.hid o8
            clear o8 b8 AG H7 o7
            have CE : Hid (∀ W, Below w8.heap.size w8 W → ∀ (p : Nat) (y : Se), (lft F (j + 1) k)[p]? = some y → y.s ≠ 3 → ∃ g7 g8, va7 = some ⟨g7, 0, none⟩ ∧ va8 = some ⟨g8, 0, none⟩ ∧ W.cell? ⟨g7, p * 6, none⟩ = some (.int .i64 y.i) ∧ W.cell? ⟨g8, p * 24, none⟩ = some (.int .i64 3) ∧ W.cell? ⟨g8, p * 24 + 1, none⟩ = some (.int .i64 y.i) ∧ W.cell? ⟨g8, p * 24 + 2, none⟩ = some (.bool true)) := Lib.hid fun W hW p y hy hs => by
              have hp := (List.getElem?_eq_some_iff.1 hy).1
              rw [lft_len F hki, Nat.add_sub_cancel] at hp
              obtain ⟨g7, c7, hv7⟩ := own_slice' O7.out (by omega)
              obtain ⟨g8, c8, hv8⟩ := own_slice' O8.out (by omega)
              have o7 := own_keep O7.out hW
              have o8 := own_keep O8.out hW
              simp only [Value.slice.injEq] at hv7 hv8
              obtain ⟨rfl, -, rfl⟩ := hv7
              obtain ⟨rfl, -, rfl⟩ := hv8
              have G7 := seC_get _ p y hy 0 (by omega)
              have G8 := pkC_get _ p y hy
              have hpk : pk y = pkP y := if_neg hs
              rw [hpk] at G8
              exact ⟨g7, g8, rfl, rfl, own_get o7 (by simpa [Se.cells] using G7), own_get o8 (by have := G8 0 (by omega); simpa [pkP] using this), own_get o8 (by have := G8 1 (by omega); simpa [pkP] using this), own_get o8 (by have := G8 2 (by omega); simpa [pkP] using this)⟩
            have NU : Hid (∀ W, Below w8.heap.size w8 W → ∀ p, p < j + 1 → W.cell? ⟨ga, p, none⟩ = some (.int .i64 ((p : Int) + 1))) := Lib.hid fun W hW p hp => (H8.out.ext hW).num hp
            have qn3 : Hid (∀ p, (sE F p).s ≠ 3) := Lib.hid fun p => by unfold sE qOf; split <;> simp
            go_wp2_with fail
            go_loopw [15, 16] (fun pv _ wq => ∃ p : Nat, pv = .int .i64 (p : Int) ∧ p ≤ j ∧ Below w8.heap.size w8 wq) (fun pv _ _ => j - (intOf pv).toNat)
            case atStart => exact ⟨0, rfl, by omega, Below.refl _ _⟩
            case round =>
              obtain ⟨p, rfl, hp, hbq⟩ := hrel
              have HQ := Lib.hid hbq
              by_cases hpj : p < j
              · have hpj' : (p : Int) < (j : Int) := by omega
                have np := NU.out _ hbq p (by omega)
                have np1 := NU.out _ hbq (p + 1) (by omega)
                rw [show ((p + 1 : Nat) : Int) + 1 = (p : Int) + 1 + 1 by omega] at np1
                by_cases hpk : p < k
                · have hpk' : ¬ (k : Int) ≤ (p : Int) := by omega
                  obtain ⟨g7, g8, rfl, rfl, z0, z1, z2, z3⟩ := CE.out _ hbq p _ (lft_lo F hki hpk) (qn3.out p)
                  simp only [sE] at z0 z2
                  clear hbq
                  go_wp2_with fail
                  go_roundw
                  case rel => exact ⟨p + 1, by simp, by omega, HQ.out⟩
                  case measure => simp [intOf]; omega
                · have hpk' : (k : Int) ≤ (p : Int) := by omega
                  obtain ⟨g7, g8, rfl, rfl, z0, z1, z2, z3⟩ := CE.out _ hbq p _ (lft_hi F hki (by omega) (by omega)) (qn3.out (p + 1))
                  simp only [sE] at z0 z2
                  rw [show ((p + 1 : Nat) : Int) + 1 = (p : Int) + 1 + 1 by omega] at z0 z2
                  clear hbq
                  go_wp2_with fail
                  go_roundw
                  case rel => exact ⟨p + 1, by simp, by omega, HQ.out⟩
                  case measure => simp [intOf]; omega
              · obtain rfl : p = j := by omega
                have S9 := Lib.hid (s9 (H8.out.ext hbq) hki (by omega))
                clear hbq
                go_wp2_with fail
                refine S9.out.mono ?_
                rintro e w9 ⟨rfl, T9, L9, h9⟩
                have n9 := h9.num hki
                have B9 := Lib.hid h9.bw
                clear h9 S9
                go_wp2_with fail
                refine (awake23_any _).mono ?_
                rintro e w2 ⟨rfl, b2⟩
                go_wp2
                go_ret
                exact ⟨rfl, ext_trans B9.out b2⟩
          · rw [hF] at fk
            have D1 := Lib.hid (c1 h hki hF)
            replace hF := Lib.hid hF
            clear h
            go_wp2_with fail
            refine D1.out.mono ?_
            rintro e w3 ⟨rfl, h3⟩
            have n3 := h3.num hki
            have D2 := Lib.hid (c2 h3 hki)
            clear h3 D1 n0
            go_wp2_with fail
            refine D2.out.mono ?_
            rintro e w4 ⟨rfl, h4⟩
            have n4 := h4.num hki
            have D3 := Lib.hid (c3 h4 hki hF.out)
            clear h4 D2 n3
            go_wp2_with fail
            refine D3.out.mono ?_
            rintro e w5 ⟨rfl, T5, h5⟩
            have HH5 := Lib.hid h5
            have DG := Lib.hid (f_again h5.fs)
            clear h5 D3 n4
            go_wp2_with fail
            refine DG.out.mono ?_
            rintro e wa ⟨vg, rfl, og, bg⟩
            rw [show (l3 F (j + 1) k).length = j + 1 by unfold l3; rw [List.length_set, sL_len]] at og
            obtain ⟨gg, cg, hvg⟩ := own_slice' og (by omega)
            have zk : wa.cell? ⟨gg, k * 24, none⟩ = some (.int .i64 6) := by
              have o := og
              rw [hvg] at o
              exact own_get o (by have := pkC_get _ k _ (l3_get (F := F) hki) 0 (by omega); simpa [pk, pkR, e3] using this)
            subst hvg
            have h5 := HH5.out.ext bg
            have n5 := h5.num hki
            have D4 := Lib.hid (c4 h5 hki)
            clear og bg DG h5
            go_wp2_with fail
            refine D4.out.mono ?_
            rintro e wb ⟨rfl, Tb, hb⟩
            have nb := hb.num hki
            have D5 := Lib.hid (c5 hb hki)
            clear hb D4 n5 zk
            go_wp2_with fail
            refine D5.out.mono ?_
            rintro e wc ⟨rfl, Tc, hcc⟩
            have nc := hcc.num hki
            have D6 := Lib.hid (c6 hcc hki)
            clear hcc D5 nb
            go_wp2_with fail
            refine D6.out.mono ?_
            rintro e w6 ⟨rfl, h6⟩
            clear D6 nc
            have AL := Lib.hid (f_all h6.fs)
            have H6 := Lib.hid h6
            clear h6
            go_wp2_with fail
            refine AL.out.mono ?_
            rintro e w7 ⟨v7, rfl, o7, b7⟩
            rw [lft_len F hki, Nat.add_sub_cancel] at o7
            obtain ⟨va7, vc7, rfl⟩ := own_slice o7
            have H7 := Lib.hid (H6.out.ext b7)
            have AG := Lib.hid (f_again H7.out.fs)
            replace o7 := Lib.hid o7
            clear b7 AL
            go_wp2_with fail
            refine AG.out.mono ?_
            rintro e w8 ⟨v8, rfl, o8, b8⟩
            rw [lft_len F hki, Nat.add_sub_cancel] at o8
            obtain ⟨va8, vc8, rfl⟩ := own_slice o8
            have H8 := Lib.hid (H7.out.ext b8)
            have O7 := Lib.hid (own_keep o7.out b8)
            have O8 := Lib.hid o8
            clear o8 b8 AG H7 o7
            have CE : Hid (∀ W, Below w8.heap.size w8 W → ∀ (p : Nat) (y : Se), (lft F (j + 1) k)[p]? = some y → y.s ≠ 3 → ∃ g7 g8, va7 = some ⟨g7, 0, none⟩ ∧ va8 = some ⟨g8, 0, none⟩ ∧ W.cell? ⟨g7, p * 6, none⟩ = some (.int .i64 y.i) ∧ W.cell? ⟨g8, p * 24, none⟩ = some (.int .i64 3) ∧ W.cell? ⟨g8, p * 24 + 1, none⟩ = some (.int .i64 y.i) ∧ W.cell? ⟨g8, p * 24 + 2, none⟩ = some (.bool true)) := Lib.hid fun W hW p y hy hs => by
              have hp := (List.getElem?_eq_some_iff.1 hy).1
              rw [lft_len F hki, Nat.add_sub_cancel] at hp
              obtain ⟨g7, c7, hv7⟩ := own_slice' O7.out (by omega)
              obtain ⟨g8, c8, hv8⟩ := own_slice' O8.out (by omega)
              have o7 := own_keep O7.out hW
              have o8 := own_keep O8.out hW
              simp only [Value.slice.injEq] at hv7 hv8
              obtain ⟨rfl, -, rfl⟩ := hv7
              obtain ⟨rfl, -, rfl⟩ := hv8
              have G7 := seC_get _ p y hy 0 (by omega)
              have G8 := pkC_get _ p y hy
              have hpk : pk y = pkP y := if_neg hs
              rw [hpk] at G8
              exact ⟨g7, g8, rfl, rfl, own_get o7 (by simpa [Se.cells] using G7), own_get o8 (by have := G8 0 (by omega); simpa [pkP] using this), own_get o8 (by have := G8 1 (by omega); simpa [pkP] using this), own_get o8 (by have := G8 2 (by omega); simpa [pkP] using this)⟩
            have NU : Hid (∀ W, Below w8.heap.size w8 W → ∀ p, p < j + 1 → W.cell? ⟨ga, p, none⟩ = some (.int .i64 ((p : Int) + 1))) := Lib.hid fun W hW p hp => (H8.out.ext hW).num hp
            have qn3 : Hid (∀ p, (sE F p).s ≠ 3) := Lib.hid fun p => by unfold sE qOf; split <;> simp
            go_wp2_with fail
            go_loopw [15, 16] (fun pv _ wq => ∃ p : Nat, pv = .int .i64 (p : Int) ∧ p ≤ j ∧ Below w8.heap.size w8 wq) (fun pv _ _ => j - (intOf pv).toNat)
            case atStart => exact ⟨0, rfl, by omega, Below.refl _ _⟩
            case round =>
              obtain ⟨p, rfl, hp, hbq⟩ := hrel
              have HQ := Lib.hid hbq
              by_cases hpj : p < j
              · have hpj' : (p : Int) < (j : Int) := by omega
                have np := NU.out _ hbq p (by omega)
                have np1 := NU.out _ hbq (p + 1) (by omega)
                rw [show ((p + 1 : Nat) : Int) + 1 = (p : Int) + 1 + 1 by omega] at np1
                by_cases hpk : p < k
                · have hpk' : ¬ (k : Int) ≤ (p : Int) := by omega
                  obtain ⟨g7, g8, rfl, rfl, z0, z1, z2, z3⟩ := CE.out _ hbq p _ (lft_lo F hki hpk) (qn3.out p)
                  simp only [sE] at z0 z2
                  clear hbq
                  go_wp2_with fail
                  go_roundw
                  case rel => exact ⟨p + 1, by simp, by omega, HQ.out⟩
                  case measure => simp [intOf]; omega
                · have hpk' : (k : Int) ≤ (p : Int) := by omega
                  obtain ⟨g7, g8, rfl, rfl, z0, z1, z2, z3⟩ := CE.out _ hbq p _ (lft_hi F hki (by omega) (by omega)) (qn3.out (p + 1))
                  simp only [sE] at z0 z2
                  rw [show ((p + 1 : Nat) : Int) + 1 = (p : Int) + 1 + 1 by omega] at z0 z2
                  clear hbq
                  go_wp2_with fail
                  go_roundw
                  case rel => exact ⟨p + 1, by simp, by omega, HQ.out⟩
                  case measure => simp [intOf]; omega
              · obtain rfl : p = j := by omega
                have S9 := Lib.hid (s9 (H8.out.ext hbq) hki (by omega))
                clear hbq
                go_wp2_with fail
                refine S9.out.mono ?_
                rintro e w9 ⟨rfl, T9, L9, h9⟩
                have n9 := h9.num hki
                have B9 := Lib.hid h9.bw
                clear h9 S9
                go_wp2_with fail
                refine (awake23_any _).mono ?_
                rintro e w2 ⟨rfl, b2⟩
                go_wp2
                go_ret
                exact ⟨rfl, ext_trans B9.out b2⟩

set_option maxRecDepth 100000 in
theorem lifted (os : Os) (started : os.Started) (H : Type) (enc : TypeId × Value → H) :
    ReturnsInHanded {} Try.checked os 10 .any (Rows.flightEndsSpec.pre6 enc Try.prog Try.f10 Rows.flightEndsRow.domain false) (Rows.flightEndsSpec.post enc Try.prog Try.f10 false true false false) := by
  refine returnsInHanded_of_change_sized (C := Try.checked) own started (by kernel_rfl) Try.func10
    (ChangeSpec.witness6 (enc := enc) (C := Try.checked) false ⟨#[], #[.slice none 0 0, .int .u8 0], []⟩ 8 (by kernel_rfl) (by kernel_rfl) (by kernel_rfl) (by kernel_rfl)) ?_
  intro W base args ds gs before hval0 hW hcnd hsz0 _
  have hsz : (DataW.weightsEach Try.prog (Try.f10.params.toList ++ Rows.flightEndsSpec.plain.varTypes Try.prog) (ds ++ gs)).all (· ≤ reachBytes) = true := hsz0
  have hval : ∀ (j : Nat) t v, Try.f10.params[j]? = some t → args[j]? = some v → Value.okWide Try.prog W .any base t v := hval0
  have hW' := hW
  obtain ⟨p, q, hA0, hV, rfl, hfz, hnd⟩ := hW
  have hA : DataW.TrodAll enc Try.prog W 0 (fun _ => true) true Try.f10.params.toList args.toList ds p := hA0
  rw [Try.params10] at hA hval hsz
  obtain ⟨v0, vs0, d0, ds0, p0, q0, hargs, rfl, rfl, h0, r0⟩ := trodAll_cons hA
  obtain ⟨v1, vs1, d1, ds1, p1, q1, rfl, rfl, rfl, h1, r1⟩ := trodAll_cons r0
  obtain ⟨rfl, rfl, rfl⟩ := trodAll_nil r1
  obtain rfl : args = #[v0, v1] := by cases args; simp_all
  obtain ⟨rfl, rfl⟩ := trodVars_none hV
  have k0 := h0
  have lt0 : ∀ x ∈ p0, x.block < W.heap.size := by obtain ⟨m, hm⟩ := k0; exact DataW.trod_lt m _ _ _ hm
  have k1 := h1
  have lt1 : ∀ x ∈ p1, x.block < W.heap.size := by obtain ⟨m, hm⟩ := k1; exact DataW.trod_lt m _ _ _ hm
  obtain ⟨a0, len0, cap0, rfl⟩ := okWide_slice Try.underlying80 (hval 0 80 v0 rfl rfl)
  obtain ⟨z0, w0⟩ : ∃ B, IsBools W a0 len0 B := by
    obtain ⟨fuel, hf⟩ := h0
    exact open_bools_arg Try.underlying80 Try.underlying4 (by kernel_rfl) hf
  obtain ⟨a1, rfl, rfl, rfl, w1⟩ := open_int Try.underlying5 (hval 1 5 v1 rfl rfl) h1
  have b1 := wf_u8 w1
  clear hA0 hval0 hsz0
  refine (walk a0 len0 cap0 z0 a1 W w0 b1).mono fun e W' ⟨he, bel⟩ => ?_
  subst he
  exact ⟨_, rfl, _, _, _, [], _, [], hW', trodAll_mk1 (shut_bool Try.underlying4 _), (trodAll_cons_mk (Below.trod laidOut (by kernel_rfl) (of_decide_eq_true (by kernel_rfl)) k0 bel lt0) (trodAll_cons_mk (Below.trod laidOut (by kernel_rfl) (of_decide_eq_true (by kernel_rfl)) k1 bel lt1) trodAll_mk0)), rfl, bel.frame _, fun h => by cases h⟩

theorem over : Rows.flightEndsRow.holds Try.pinned (OpenSpec.ofChange Rows.flightEndsSpec) :=
  OpenClaim.holds_of_wide 10 Try.f10 rfl rfl rfl rfl rfl rfl rfl ⟨rfl, rfl, rfl, rfl, rfl⟩ rfl rfl rfl rfl rfl (by kernel_rfl) Try.func10 (by kernel_rfl)
    (of_decide_eq_true (by kernel_rfl)) (by unfold Func.isWrapper; first | (rw [if_pos (by decide +kernel)]; kernel_rfl) | (rw [if_neg (by decide +kernel)]; exact ⟨rfl, rfl⟩))
    (fun os started H enc _ => lifted os started H enc)

theorem proved : Rows.FlightEndsSaid := over
end Go.Proofs.Ytcjoemejoeekiaa.flightEnds
