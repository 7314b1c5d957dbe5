/-
  RatePlays: FOR EVERY INPUT the law returns true and leaves its arguments as they were.
-/
import Derived.Test.YtoijdmchkjmpgaaRl
import Derived.Test.YtoijdmchkjmpgaaByt
import Derived.Test.YtoijdmchkjmpgaaStr
import Derived.Test.YtoijdmchkjmpgaaRows
import Derived.WalkKit
import Derived.Deep.RegionHeld3
import Derived.ProofKit
import Derived.OpenShut
import Derived.ShutString
import Derived.ChangeOld
import Derived.Below
import Derived.SizedLaws
import Derived.Lib.SmallJoins
namespace Go.Proofs.Ytoijdmchkjmpgaa.ratePlays
open Go.ChangeShapes Go.WideShapes Go.ChangeAt Go.RowKit
open Go.ChangeMaps (open_string shut_string)
set_option linter.unusedVariables false

theorem own : ownKnob Try.prog.godebug = none := by kernel_rfl
theorem laidOut : laidOutB Try.prog = true := by kernel_rfl

open Rte Que
set_option maxHeartbeats 32000000 in
set_option maxRecDepth 100000 in
theorem walk (m : Int) (a1 : Option Addr) (len1 cap1 : Nat) (ss : List ByteArray) (a2 : Option Addr) (len2 cap2 : Nat) (zs : List Int) (w : World) (b0 : -9223372036854775808 ≤ m ∧ m ≤ 9223372036854775807) (h1 : StrRow w a1 len1 ss) (h2 : IsRow .i64 w a2 len2 cap2 zs) (s2 : cap2 * 8 ≤ 140737488351232) :
    Calls Try.prog 10 #[.int .i64 m, .slice a1 len1 cap1, .slice a2 len2 cap2] w (Yes w) := by
  obtain ⟨-, hl1, hc1⟩ := h1
  obtain ⟨hl2, hlc2⟩ := h2.len_le
  have hl1' : (len1 : Int) ≤ 9223372036854775807 := by unfold maxLen at hl1; omega
  have hl2' : (len2 : Int) ≤ 9223372036854775807 := by omega
  have C2 := Lib.hid h2.cellAt
  replace hc1 := Lib.hid hc1
  clear h2 hl1 hl2 hlc2 s2
  by_cases hm : 0 ≤ m ∧ m ≤ 1073741824
  · have N1 := Lib.hid (rnew m w hm)
    have X1 := Lib.hid (fun W => xnew_any w.heap.size m W hm)
    clear hm b0
    go_enter Try.func10, Try.ntmps10
    go_wp2_with fail
    refine N1.out.mono ?_
    rintro e w1 ⟨rfl, r1, b1, z1⟩
    have R1 := Lib.hid r1
    have B1 := Lib.hid b1
    have Z1 := Lib.hid z1
    clear r1 b1 z1 N1
    go_wp2_with fail
    refine (X1.out w1).mono ?_
    rintro e w2 ⟨rfl, x2, b2, z2⟩
    have I2 : Hid (RS w w2 w.heap.size w1.heap.size m (.slice none 0 0) [] []) := Lib.hid (by
      have lw := B1.out.size
      have e1 := Z1.out
      refine ⟨R1.out.others (S := fun _ => False) (Far.of_ext b2) (fun _ h => h.elim) ?_, ?_, ext_trans B1.out b2, lw⟩
      · rintro k (hk | rfl | hk)
        · exact .inl hk
        · exact .inr ⟨Nat.le_refl _, by omega⟩
        · cases hk
      · exact x2)
    clear x2 b2 z2 R1 B1 X1 Z1
    generalize w1.heap.size = x at *
    go_wp2_with fail
    go_loopw [11] (fun iv wr => ∃ (i : Nat) (v : Value) (G L : List Gr), iv = .int .i64 (i : Int) ∧ i ≤ len1 ∧ i ≤ 60 ∧ RS w wr w.heap.size x m v G L ∧ Eq2 G L) (fun iv _ => len1 - (intOf iv).toNat)
    case atStart => exact ⟨0, _, [], [], rfl, by omega, by omega, I2.out, fun _ => rfl, rfl⟩
    case round =>
      obtain ⟨i, v, G, L, rfl, hi, hi2, h, heq⟩ := hrel
      by_cases hlt : i < len1 ∧ i < len2 ∧ i < 60
      · obtain ⟨hlt0, hlt1, hlt2⟩ := hlt
        obtain ⟨kb, ko, rfl, hk1⟩ : ∃ b o, a1 = some ⟨b, o, none⟩ ∧ ∀ W, Below w.heap.size w W → W.cell? ⟨b, o + i, none⟩ = some (.string (ss.getD i ByteArray.empty)) := by
          rcases hc1.out with h' | ⟨b, o, ha, hb0, h'⟩
          · omega
          · exact ⟨b, o, ha, fun W hW => (hW.cell (by simpa using hb0)).trans (h' i hlt0).1⟩
        obtain ⟨tb, to, rfl, ht1⟩ : ∃ b o, a2 = some ⟨b, o, none⟩ ∧ ∀ W, Below w.heap.size w W → W.cell? ⟨b, o + i, none⟩ = some (.int .i64 (zs.getD i 0)) := by
          rcases C2.out with h' | ⟨b, o, ha, hb0, h'⟩
          · omega
          · exact ⟨b, o, ha, fun W hW => (hW.cell (by simpa using hb0)).trans (h' i hlt1).1⟩
        generalize ss.getD i ByteArray.empty = s at *
        generalize zs.getD i 0 = t at *
        have hlt0' : (i : Int) < (len1 : Int) := by omega
        have hlt1' : (i : Int) < (len2 : Int) := by omega
        have hlt2' : (i : Int) < 60 := by omega
        have KK := Lib.hid (fun W (hW : Below w.heap.size w W) => And.intro (hk1 W hW) (ht1 W hW))
        have KS := Lib.hid hk1
        clear hk1 ht1
        have BW := Lib.hid h.bw
        have mc := may_congr heq.1 heq.2 s t (gap := m)
        obtain ⟨bb, hb⟩ : ∃ bb, may m G s t = bb := ⟨_, rfl⟩
        rw [hb] at mc
        have P1 : Hid (∀ W, Below wr.heap.size wr W → Calls Try.prog 44 #[.pointer (some ⟨w.heap.size, 0, none⟩), .string s, .int .i64 t] W fun e w' => e = .returned (.bool bb) ∧ Below wr.heap.size wr w') := Lib.hid fun W hW => (rmay (h.ext hW).rs s t).mono fun e w' ⟨he, b⟩ => ⟨by rw [he, hb], ext_trans hW b⟩
        have P2 : Hid (∀ W, Below wr.heap.size wr W → Calls Try.prog 45 #[.pointer (some ⟨x, 0, none⟩), .string s, .int .i64 t] W fun e w' => e = .returned (.bool bb) ∧ Below wr.heap.size wr w') := Lib.hid fun W hW => (xmayS (h.ext hW).xs s t).mono fun e w' ⟨he, n, hn⟩ => ⟨by rw [he, mc], hn ▸ below_drewN hW n⟩
        have P3 : Hid (∀ W, Below wr.heap.size wr W → Calls Try.prog 46 #[.pointer (some ⟨w.heap.size, 0, none⟩), .string s, .int .i64 t] W fun e w' => e = .returned (.bool bb) ∧ ∃ G2, RS w w' w.heap.size x m v G2 L ∧ Asked bb s t G G2) := Lib.hid fun W hW => (rask (h.ext hW).rs s t).mono fun e w' ⟨he, kp, G2, r2, ask⟩ => ⟨by rw [he, hb], G2, (h.ext hW).onP r2 kp, hb ▸ ask⟩
        have P4 : Hid (∀ W, (∃ G2, RS w W w.heap.size x m v G2 L ∧ Asked bb s t G G2) → Calls Try.prog 47 #[.pointer (some ⟨x, 0, none⟩), .string s, .int .i64 t] W fun e w' => e = .returned (.bool bb) ∧ ∃ v2 G2 L2, RS w w' w.heap.size x m v2 G2 L2 ∧ Eq2 G2 L2) := Lib.hid fun W ⟨G2, hI, ask⟩ => (xask hI.xs hI.bw.size s t).mono fun e w' ⟨he, v', L', xs, F, nb, ask2⟩ => ⟨by rw [he, mc], v', G2, L', hI.onX xs F nb, eq2_upd heq ask (mc ▸ ask2)⟩
        have Q3 : Hid (∀ W W', (∃ G2, RS w W w.heap.size x m v G2 L ∧ Asked bb s t G G2) → Below W.heap.size W W' → ∃ G2, RS w W' w.heap.size x m v G2 L ∧ Asked bb s t G G2) := Lib.hid fun W W' ⟨G2, hI, ask⟩ hW => ⟨G2, hI.ext hW, ask⟩
        have Q4 : Hid (∀ W W', (∃ v2 G2 L2, RS w W w.heap.size x m v2 G2 L2 ∧ Eq2 G2 L2) → Below W.heap.size W W' → ∃ v2 G2 L2, RS w W' w.heap.size x m v2 G2 L2 ∧ Eq2 G2 L2) := Lib.hid fun W W' ⟨v2, G2, L2, hI, ask⟩ hW => ⟨v2, G2, L2, hI.ext hW, ask⟩
        have T3 : Hid (∀ W, (∃ G2, RS w W w.heap.size x m v G2 L ∧ Asked bb s t G G2) → Below w.heap.size w W) := Lib.hid fun W ⟨G2, hI, ask⟩ => hI.bw
        have T4 : Hid (∀ W, (∃ v2 G2 L2, RS w W w.heap.size x m v2 G2 L2 ∧ Eq2 G2 L2) → Below w.heap.size w W) := Lib.hid fun W ⟨v2, G2, L2, hI, ask⟩ => hI.bw
        have KW := Lib.hid (fun W (hW : Below wr.heap.size wr W) => KK.out W (ext_trans BW.out hW))
        clear h heq hb mc
        go_wp2_with fail
        go_region_held3 (fun W => W.cell? ⟨kb, ko + i, none⟩ = some (.string s) ∧ W.cell? ⟨tb, to + i, none⟩ = some (.int .i64 t))
          (first | exact KW.out _ (Below.refl _ _) | exact KW.out _ (ext_drew _) | exact KW.out _ I1 | exact KW.out _ I1.drew | exact KW.out _ I2' | exact KW.out _ I2'.drew | exact KK.out _ (T3.out _ I3) | exact KK.out _ (T3.out _ (Q3.out _ _ I3 (ext_drew _))) | exact KK.out _ (T4.out _ I4) | exact KK.out _ (T4.out _ (Q4.out _ _ I4 (ext_drew _))))
          (first
            | (go_at_call 44; refine (P1.out _ (by first | exact Below.refl _ _ | exact ext_drew _)).mono ?_; rintro e w3 ⟨rfl, I1⟩)
            | (go_at_call 45; refine (P2.out _ (by first | exact I1 | exact I1.drew)).mono ?_; rintro e w4 ⟨rfl, I2'⟩)
            | (go_at_call 46; refine (P3.out _ (by first | exact I2' | exact I2'.drew)).mono ?_; rintro e w5 ⟨rfl, I3⟩)
            | (go_at_call 47; refine (P4.out _ (by first | exact I3 | exact Q3.out _ _ I3 (ext_drew _))).mono ?_; rintro e w6 ⟨rfl, I4⟩))
        all_goals
          obtain ⟨v6, G6, L6, h6, q6⟩ := (show ∃ v2 G2 L2, RS w _ w.heap.size x m v2 G2 L2 ∧ Eq2 G2 L2 from (by first | exact I4 | exact Q4.out _ _ I4 (ext_drew _) | exact Q4.out _ _ I4 (ext_trans (ext_drew _) (ext_drew _))))
          clear I1 I2' I3 I4
          have RK := Lib.hid (rkeys h6.rs h6.xs.s q6.1)
          have H6 := Lib.hid h6
          have Q6 := Lib.hid q6
          have hL8 := h6.xs.le
          have hL8' : (L6.length : Int) ≤ 8 := by omega
          have hkl : (keysOf L6).length = L6.length := by unfold keysOf; simp
          clear h6 q6 P1 P2 P3 P4 Q3 Q4 T3 T4 KW
          go_wp2_with fail
          refine RK.out.mono ?_
          rintro e w7 ⟨vk, rfl, ok, bk⟩
          rw [hkl] at ok
          obtain ⟨va, vc, rfl⟩ := own_slice ok
          have H7 := Lib.hid (H6.out.ext bk)
          have OK := Lib.hid ok
          obtain ⟨xa, xc, hxv⟩ := own_slice H7.out.xs.r.its
          have XC : Hid (∀ W, Below w7.heap.size w7 W → W.cell? ⟨x, 1, none⟩ = some (.slice xa L6.length xc)) := Lib.hid fun W hW => by
            have := (H7.out.ext hW).xs.r.c1
            rwa [hxv] at this
          have LN : Hid (∀ W, Below w7.heap.size w7 W → Calls Try.prog 49 #[.pointer (some ⟨w.heap.size, 0, none⟩)] W fun e w' => e = .returned (.int .i64 (L6.length : Nat)) ∧ W = w') := Lib.hid fun W hW => by
            have := rlen (H7.out.ext hW).rs
            rwa [← Q6.out.2] at this
          have LA : Hid (∀ W (k : ByteArray), Below w7.heap.size w7 W → Calls Try.prog 50 #[.pointer (some ⟨w.heap.size, 0, none⟩), .string k] W fun e w' => e = .returned (.tuple #[.int .i64 ((lst L6 k).getD 0), .bool (lst L6 k).isSome]) ∧ Below w7.heap.size w7 w') := Lib.hid fun W k hW => (rlast (H7.out.ext hW).rs k).mono fun e w' ⟨he, b⟩ => ⟨by rw [he, ← Q6.out.1], ext_trans hW b⟩
          have KA : Hid (∀ W, Below w7.heap.size w7 W → ∀ (k : Nat) (e : Gr), L6[k]? = some e → ∃ gb gx, va = some ⟨gb, 0, none⟩ ∧ xa = some ⟨gx, 0, none⟩ ∧ W.cell? ⟨gb, k, none⟩ = some (.string e.k) ∧ W.cell? ⟨gx, k * 2, none⟩ = some (.string e.k) ∧ W.cell? ⟨gx, k * 2 + 1, none⟩ = some (.int .i64 e.t)) := Lib.hid fun W hW k e he => by
            have hk := (List.getElem?_eq_some_iff.1 he).1
            obtain ⟨gb, cb, hv⟩ := own_slice' OK.out (by omega)
            have o := own_keep OK.out hW
            obtain ⟨gx, cx, hv2⟩ := own_slice' H7.out.xs.r.its (by omega)
            have at2 := (H7.out.ext hW).xs.r.at hv2 he
            rw [hxv] at hv2
            simp only [Value.slice.injEq] at hv hv2
            obtain ⟨rfl, -, rfl⟩ := hv
            obtain ⟨rfl, -, rfl⟩ := hv2
            exact ⟨gb, gx, rfl, rfl, own_get o (by rw [List.getElem?_map]; unfold keysOf; rw [List.getElem?_map, he]; simp [enc_k]), at2.1, at2.2⟩
          have IL : Hid (∀ W, Below w7.heap.size w7 W → Calls Try.prog 51 #[.slice va L6.length vc, .string s] W fun e w' => e = .returned (.bool (lst L6 s).isSome) ∧ W = w') := Lib.hid fun W hW => by
            rw [mem_keys]
            exact inlist_any (own_keep OK.out hW) hkl.symm (by omega) s
          have SL : Hid (∀ (k : Nat) (e : Gr), L6[k]? = some e → lst L6 e.k = some e.t) := Lib.hid fun k e he => lst_of H7.out.xs.s.nd (List.mem_of_getElem? he)
          have B7 := Lib.hid H7.out.bw
          clear ok bk RK H6 hxv
          have xc7 := XC.out _ (Below.refl _ _)
          go_wp2_with fail
          go_region_held3 (fun W => W.cell? ⟨x, 1, none⟩ = some (.slice xa L6.length xc))
            (first | exact XC.out _ (Below.refl _ _) | exact XC.out _ (ext_drew _) | exact XC.out _ (ext_trans (ext_drew _) (ext_drew _)))
            (first
              | (go_at_call 49; refine (LN.out _ (by first | exact Below.refl _ _ | exact ext_drew _ | exact ext_trans (ext_drew _) (ext_drew _))).mono ?_; rintro e w8 ⟨rfl, rfl⟩))
          all_goals
            have B8 := Lib.hid (Below.refl w7.heap.size w7)
            go_wp2_with fail
            go_loopw [13] (fun kv wq => ∃ k : Nat, kv = .int .i64 (k : Int) ∧ k ≤ L6.length ∧ Below w7.heap.size w7 wq) (fun kv _ => L6.length - (intOf kv).toNat)
            case atStart => exact ⟨0, rfl, by omega, by first | exact Below.refl _ _ | exact ext_drew _ | exact ext_trans (ext_drew _) (ext_drew _)⟩
            case round =>
              obtain ⟨k, rfl, hk, hbq⟩ := hrel
              have xq := XC.out _ hbq
              by_cases hke : k = L6.length
              · subst hke
                have LS := Lib.hid (LA.out _ s hbq)
                have ks := KS.out _ (B7.out.trans (hbq.mono B7.out.size))
                clear hbq
                go_wp2_with fail
                refine LS.out.mono ?_
                rintro e w9 ⟨rfl, b9⟩
                have ks9 := KS.out _ (B7.out.trans (b9.mono B7.out.size))
                have I9 := Lib.hid (IL.out _ b9)
                have H9 := Lib.hid (H7.out.ext b9)
                clear b9 LS
                generalize (lst L6 s).isSome = c at *
                go_wp2_with fail
                refine I9.out.mono ?_
                rintro e w9 ⟨rfl, rfl⟩
                cases c
                all_goals
                  go_wp2_with fail
                  go_roundw
                  case rel => exact ⟨i + 1, _, _, _, by simp, by omega, by omega, H9.out, Q6.out⟩
                  case measure => simp [intOf]; omega
              · have klt : k < L6.length := by omega
                have klt' : (k : Int) < (L6.length : Int) := by omega
                obtain ⟨y, hy⟩ : ∃ y, L6[k]? = some y := ⟨_, List.getElem?_eq_getElem klt⟩
                obtain ⟨gb, gx, rfl, rfl, q0, q1, q2⟩ := KA.out _ hbq k y hy
                have LS := LA.out _ y.k hbq
                rw [SL.out k y hy] at LS
                simp only [Option.getD_some, Option.isSome_some] at LS
                replace LS := Lib.hid LS
                have KC : Hid (∀ W, Below w7.heap.size w7 W → W.cell? ⟨gb, k, none⟩ = some (.string y.k) ∧ W.cell? ⟨x, 1, none⟩ = some (.slice (some ⟨gx, 0, none⟩) L6.length xc) ∧ W.cell? ⟨gx, k * 2, none⟩ = some (.string y.k) ∧ W.cell? ⟨gx, k * 2 + 1, none⟩ = some (.int .i64 y.t)) := Lib.hid fun W hW => by
                  obtain ⟨gb', gx', h1, h2, p0, p1, p2⟩ := KA.out W hW k y hy
                  simp only [Option.some.injEq, Addr.mk.injEq, and_true] at h1 h2
                  subst h1 h2
                  exact ⟨p0, XC.out W hW, p1, p2⟩
                clear hbq hke
                go_wp2_with fail
                refine LS.out.mono ?_
                rintro e w9 ⟨rfl, b9⟩
                have B9 := Lib.hid b9
                have KC9 := Lib.hid (fun W (hW : Below w9.heap.size w9 W) => KC.out W (b9.trans (hW.mono b9.size)))
                clear b9 LS KC
                go_wp2_with fail
                go_region_held3 (fun W => W.cell? ⟨gb, k, none⟩ = some (.string y.k) ∧ W.cell? ⟨x, 1, none⟩ = some (.slice (some ⟨gx, 0, none⟩) L6.length xc) ∧ W.cell? ⟨gx, k * 2, none⟩ = some (.string y.k) ∧ W.cell? ⟨gx, k * 2 + 1, none⟩ = some (.int .i64 y.t))
                  (exact KC9.out _ (by first | exact Below.refl _ _ | exact ext_drew _ | exact ext_trans (ext_drew _) (ext_drew _)))
                  (fail)
                all_goals
                  go_wp2_with fail
                  go_roundw
                  case rel => exact ⟨k + 1, by simp, by omega, by first | exact B9.out | exact B9.out.drew | exact B9.out.drew.drew⟩
                  case measure => simp [intOf]; omega
      · have BW := Lib.hid h.bw
        clear h heq
        by_cases c1 : i < len1
        · by_cases c2 : i < len2
          · have c3 : ¬ (i : Int) < 60 := by omega
            have c4 : (i : Int) < (len1 : Int) := by omega
            have c5 : (i : Int) < (len2 : Int) := by omega
            clear hlt c1 c2
            go_wp2_with fail
            refine (awake35_any _).mono ?_
            rintro e w2 ⟨rfl, b2⟩
            go_wp2
            go_ret
            exact ⟨rfl, ext_trans BW.out b2⟩
          · have c4 : (i : Int) < (len1 : Int) := by omega
            have c5 : ¬ (i : Int) < (len2 : Int) := by omega
            clear hlt c1 c2
            go_wp2_with fail
            refine (awake35_any _).mono ?_
            rintro e w2 ⟨rfl, b2⟩
            go_wp2
            go_ret
            exact ⟨rfl, ext_trans BW.out b2⟩
        · have c4 : ¬ (i : Int) < (len1 : Int) := by omega
          clear hlt c1
          go_wp2_with fail
          refine (awake35_any _).mono ?_
          rintro e w2 ⟨rfl, b2⟩
          go_wp2
          go_ret
          exact ⟨rfl, ext_trans BW.out b2⟩
  · have N1 := Lib.hid (new_bad m w hm)
    have X1 := Lib.hid (xnew_bad m w hm)
    clear hm b0
    go_enter Try.func10, Try.ntmps10
    go_wp2_with fail
    refine N1.out.mono ?_
    rintro e w1 ⟨rfl, rfl⟩
    go_wp2_with fail
    refine X1.out.mono ?_
    rintro e w1 ⟨rfl, rfl⟩
    go_wp2_with fail
    refine (awake35_any _).mono ?_
    rintro e w2 ⟨rfl, b2⟩
    go_wp2
    go_ret
    exact ⟨rfl, b2⟩

set_option maxRecDepth 100000 in
theorem lifted (os : Os) (started : os.Started) (H : Type) (enc : TypeId × Value → H) :
    ReturnsInHanded {} Try.checked os 10 .any (Rows.ratePlaysSpec.pre6 enc Try.prog Try.f10 Rows.ratePlaysRow.domain false) (Rows.ratePlaysSpec.post enc Try.prog Try.f10 false true false false) := by
  refine returnsInHanded_of_change_sized (C := Try.checked) own started (by kernel_rfl) Try.func10
    (ChangeSpec.witness6 (enc := enc) (C := Try.checked) false ⟨#[], #[.int .i64 0, .slice none 0 0, .slice none 0 0], []⟩ 8 (by kernel_rfl) (by kernel_rfl) (by kernel_rfl) (by kernel_rfl)) ?_
  intro W base args ds gs before hval0 hW hcnd hsz0 _
  have hsz : (DataW.weightsEach Try.prog (Try.f10.params.toList ++ Rows.ratePlaysSpec.plain.varTypes Try.prog) (ds ++ gs)).all (· ≤ reachBytes) = true := hsz0
  have hval : ∀ (j : Nat) t v, Try.f10.params[j]? = some t → args[j]? = some v → Value.okWide Try.prog W .any base t v := hval0
  have hW' := hW
  obtain ⟨p, q, hA0, hV, rfl, hfz, hnd⟩ := hW
  have hA : DataW.TrodAll enc Try.prog W 0 (fun _ => true) true Try.f10.params.toList args.toList ds p := hA0
  rw [Try.params10] at hA hval hsz
  obtain ⟨v0, vs0, d0, ds0, p0, q0, hargs, rfl, rfl, h0, r0⟩ := trodAll_cons hA
  obtain ⟨v1, vs1, d1, ds1, p1, q1, rfl, rfl, rfl, h1, r1⟩ := trodAll_cons r0
  obtain ⟨v2, vs2, d2, ds2, p2, q2, rfl, rfl, rfl, h2, r2⟩ := trodAll_cons r1
  obtain ⟨rfl, rfl, rfl⟩ := trodAll_nil r2
  obtain rfl : args = #[v0, v1, v2] := by cases args; simp_all
  obtain ⟨rfl, rfl⟩ := trodVars_none hV
  have k0 := h0
  have lt0 : ∀ x ∈ p0, x.block < W.heap.size := by obtain ⟨m, hm⟩ := k0; exact DataW.trod_lt m _ _ _ hm
  have k1 := h1
  have lt1 : ∀ x ∈ p1, x.block < W.heap.size := by obtain ⟨m, hm⟩ := k1; exact DataW.trod_lt m _ _ _ hm
  have k2 := h2
  have lt2 : ∀ x ∈ p2, x.block < W.heap.size := by obtain ⟨m, hm⟩ := k2; exact DataW.trod_lt m _ _ _ hm
  obtain ⟨a0, rfl, rfl, rfl, w0⟩ := open_int Try.underlying3 (hval 0 3 v0 rfl rfl) h0
  have b0 := wf_i64 w0
  obtain ⟨a1, len1, cap1, rfl⟩ := okWide_slice Try.underlying74 (hval 1 74 v1 rfl rfl)
  obtain ⟨z1, w1⟩ : ∃ ss, StrRow W a1 len1 ss := by
    obtain ⟨fuel, hf⟩ := h1
    exact open_str_arg Try.underlying74 Try.underlying9 (by kernel_rfl) hf
  obtain ⟨a2, len2, cap2, rfl⟩ := okWide_slice Try.underlying22 (hval 2 22 v2 rfl rfl)
  obtain ⟨z2, w2, s2⟩ : ∃ zs, IsRow .i64 W a2 len2 cap2 zs ∧ cap2 * 8 ≤ 140737488351232 := by
    obtain ⟨fuel, hf⟩ := h2
    rcases open_ints Try.underlying22 Try.underlying3 (by kernel_rfl) hf with ⟨hcs, _⟩ | ⟨x, l, c, zs, hcs, _, hl, hm, hz, hx, hcell, hwz⟩
    · simp [Value.cells] at hcs
      obtain ⟨rfl, rfl, rfl⟩ := hcs
      exact ⟨[], .inl ⟨rfl, rfl, rfl, rfl⟩, by omega⟩
    · simp [Value.cells] at hcs
      obtain ⟨rfl, rfl, rfl⟩ := hcs
      have hz' : zs.length = cap2 := by simpa using hz
      have hd : d2 = .slice (lits .i64 (zs.take len2)) (lits .i64 (zs.drop len2)) := congrArg Prod.fst hx
      have hroom := sized_slice hsz (j := 2) (t := 22) (e := 3) rfl (by rw [hd]; rfl) Try.underlying22
      rw [show Try.prog.bytesOf 3 = 8 from by kernel_rfl] at hroom
      simp only [lits, List.length_map, List.length_take, List.length_drop, reachBytes] at hroom
      exact ⟨zs, .inr ⟨_, rfl, hl, hm, hz', hcell, hwz⟩, by omega⟩
  clear hA0 hval0 hsz0
  refine (walk a0 a1 len1 cap1 z1 a2 len2 cap2 z2 W b0 w1 w2 s2).mono fun e W' ⟨he, bel⟩ => ?_
  subst he
  exact ⟨_, rfl, _, _, _, [], _, [], hW', trodAll_mk1 (shut_bool Try.underlying4 _), (trodAll_cons_mk (Below.trod laidOut (by kernel_rfl) (of_decide_eq_true (by kernel_rfl)) k0 bel lt0) (trodAll_cons_mk (Below.trod laidOut (by kernel_rfl) (of_decide_eq_true (by kernel_rfl)) k1 bel lt1) (trodAll_cons_mk (Below.trod laidOut (by kernel_rfl) (of_decide_eq_true (by kernel_rfl)) k2 bel lt2) trodAll_mk0))), rfl, bel.frame _, fun h => by cases h⟩

theorem over : Rows.ratePlaysRow.holds Try.pinned (OpenSpec.ofChange Rows.ratePlaysSpec) :=
  OpenClaim.holds_of_wide 10 Try.f10 rfl rfl rfl rfl rfl rfl rfl ⟨rfl, rfl, rfl, rfl, rfl⟩ rfl rfl rfl rfl rfl (by kernel_rfl) Try.func10 (by kernel_rfl)
    (of_decide_eq_true (by kernel_rfl)) (by unfold Func.isWrapper; first | (rw [if_pos (by decide +kernel)]; kernel_rfl) | (rw [if_neg (by decide +kernel)]; exact ⟨rfl, rfl⟩))
    (fun os started H enc _ => lifted os started H enc)

theorem proved : Rows.RatePlaysSaid := over
end Go.Proofs.Ytoijdmchkjmpgaa.ratePlays
