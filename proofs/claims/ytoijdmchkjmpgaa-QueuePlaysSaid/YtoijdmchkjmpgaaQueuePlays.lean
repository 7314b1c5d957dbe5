/-
  QueuePlays: FOR EVERY INPUT the law returns true and leaves its arguments as they were.
-/
import Derived.Test.YtoijdmchkjmpgaaQn
import Derived.Test.YtoijdmchkjmpgaaByt
import Derived.Test.YtoijdmchkjmpgaaRows
import Derived.WalkKit
import Derived.ProofKit
import Derived.OpenShut
import Derived.ShutString
import Derived.ChangeOld
import Derived.Below
import Derived.SizedLaws
import Derived.Lib.SmallJoins
namespace Go.Proofs.Ytoijdmchkjmpgaa.queuePlays
open Go.ChangeShapes Go.WideShapes Go.ChangeAt Go.RowKit
open Go.ChangeMaps (open_string shut_string)
set_option linter.unusedVariables false

theorem own : ownKnob Try.prog.godebug = none := by kernel_rfl
theorem laidOut : laidOutB Try.prog = true := by kernel_rfl

open Que
set_option maxHeartbeats 64000000 in
set_option maxRecDepth 100000 in
theorem walk (a b : Int) (ad : Option Addr) (len cap : Nat) (A : List Acs.Ac) (w : World) (b0 : -9223372036854775808 ≤ a ∧ a ≤ 9223372036854775807) (b1 : -9223372036854775808 ≤ b ∧ b ≤ 9223372036854775807) (h0 : Acs.AcsAt w (.slice ad len cap) A) (ok0 : ∀ f ∈ A, f.ok) :
    Calls Try.prog 6 #[.int .i64 a, .int .i64 b, .slice ad len cap] w (Yes w) := by
  obtain ⟨x0, y0, hv0, hl0, hc⟩ := id h0
  simp only [Value.slice.injEq] at hv0
  obtain ⟨rfl, rfl, rfl⟩ := hv0
  have hl0' : (A.length : Int) ≤ 9223372036854775807 := by omega
  replace hc := Lib.hid hc
  clear h0 ok0 hl0
  by_cases ha : a < 1 ∨ 1000 < a
  · have N1 := Lib.hid (new_bad a w ha)
    have X1 := Lib.hid (xnew_bad a w ha)
    clear ha
    by_cases hb : b < 1 ∨ 1000 < b
    · have N2 := Lib.hid (new_bad b w hb)
      have X2 := Lib.hid (xnew_bad b w hb)
      clear hb b0 b1
      go_enter Try.func6, Try.ntmps6
      go_wp2_with fail
      refine (N1.out).mono ?_
      rintro e w1 ⟨rfl, rfl⟩
      go_wp2_with fail
      refine (X1.out).mono ?_
      rintro e w1 ⟨rfl, rfl⟩
      go_wp2_with fail
      refine (N2.out).mono ?_
      rintro e w1 ⟨rfl, rfl⟩
      go_wp2_with fail
      refine (X2.out).mono ?_
      rintro e w1 ⟨rfl, rfl⟩
      go_wp2_with fail
      refine (awake22_any _).mono ?_
      rintro e w6 ⟨rfl, b6⟩
      go_wp2
      go_ret
      exact ⟨rfl, b6⟩
    · obtain ⟨nb, rfl⟩ : ∃ n : Nat, b = (n : Int) := ⟨b.toNat, by omega⟩
      have N2 := Lib.hid (new_any nb w (by omega) (by omega))
      have X2 := Lib.hid (fun W => xnew_any 0 nb W (by omega) (by omega))
      clear hb b0 b1
      go_enter Try.func6, Try.ntmps6
      go_wp2_with fail
      refine (N1.out).mono ?_
      rintro e w1 ⟨rfl, rfl⟩
      go_wp2_with fail
      refine (X1.out).mono ?_
      rintro e w1 ⟨rfl, rfl⟩
      go_wp2_with fail
      refine (N2.out).mono ?_
      rintro e w1 ⟨rfl, -, b1, z1⟩
      clear z1
      go_wp2_with fail
      refine (X2.out _).mono ?_
      rintro e w2 ⟨rfl, -, b2, z2⟩
      have B2 := Lib.hid (ext_trans b1 b2)
      clear b1 b2 z2
      go_wp2_with fail
      refine (awake22_any _).mono ?_
      rintro e w6 ⟨rfl, b6⟩
      go_wp2
      go_ret
      exact ⟨rfl, ext_trans B2.out b6⟩
  · obtain ⟨na, rfl⟩ : ∃ n : Nat, a = (n : Int) := ⟨a.toNat, by omega⟩
    have N1 := Lib.hid (new_any na w (by omega) (by omega))
    have X1 := Lib.hid (fun W => xnew_any (w.heap.size + 6) na W (by omega) (by omega))
    have na1 : na ≤ 1000 := by omega
    clear ha
    by_cases hb : b < 1 ∨ 1000 < b
    · have N2 := Lib.hid (fun W => new_bad b W hb)
      have X2 := Lib.hid (fun W => xnew_bad b W hb)
      clear hb b0 b1
      go_enter Try.func6, Try.ntmps6
      go_wp2_with fail
      refine (N1.out).mono ?_
      rintro e w1 ⟨rfl, -, b1, z1⟩
      clear z1
      go_wp2_with fail
      refine (X1.out _).mono ?_
      rintro e w2 ⟨rfl, -, b2, z2⟩
      have B2 := Lib.hid (ext_trans b1 b2)
      clear b1 b2 z2
      go_wp2_with fail
      refine (N2.out _).mono ?_
      rintro e w3 ⟨rfl, rfl⟩
      go_wp2_with fail
      refine (X2.out _).mono ?_
      rintro e w3 ⟨rfl, rfl⟩
      go_wp2_with fail
      refine (awake22_any _).mono ?_
      rintro e w6 ⟨rfl, b6⟩
      go_wp2
      go_ret
      exact ⟨rfl, ext_trans B2.out b6⟩
    · obtain ⟨nb, rfl⟩ : ∃ n : Nat, b = (n : Int) := ⟨b.toNat, by omega⟩
      have N2 := Lib.hid (fun W => new_any nb W (by omega) (by omega))
      have X2 := Lib.hid (fun W => xnew_any (w.heap.size + 6) nb W (by omega) (by omega))
      have nb1 : nb ≤ 1000 := by omega
      clear hb b0 b1
      go_enter Try.func6, Try.ntmps6
      go_wp2_with fail
      refine (N1.out).mono ?_
      rintro e w1 ⟨rfl, p1, b1, z1⟩
      have Z1 := Lib.hid z1
      clear z1
      replace p1 := Lib.hid p1
      replace b1 := Lib.hid b1
      go_wp2_with fail
      refine (X1.out _).mono ?_
      rintro e w2 ⟨rfl, x2, b2, z2⟩
      have Z2 := Lib.hid z2
      clear z2
      replace x2 := Lib.hid x2
      replace b2 := Lib.hid b2
      go_wp2_with fail
      refine (N2.out _).mono ?_
      rintro e w3 ⟨rfl, q3, b3, z3⟩
      have Z3 := Lib.hid z3
      clear z3
      replace q3 := Lib.hid q3
      replace b3 := Lib.hid b3
      go_wp2_with fail
      refine (X2.out _).mono ?_
      rintro e w4 ⟨rfl, y4, b4, z4⟩
      have I4 : Hid (QS w w4 na nb [] 0 (.slice none 0 0) [] 0 [] 0 (.slice none 0 0) [] 0) := Lib.hid (by
        have e1 := Z1.out
        have e2 := Z2.out
        have e3 := Z3.out
        have x2' := x2.out
        have q3' := q3.out
        have y4' := y4
        rw [e1] at x2'
        rw [show w2.heap.size = w.heap.size + 3 by omega] at q3'
        rw [show w3.heap.size = w.heap.size + 5 by omega] at y4'
        exact ⟨((p1.out.keep b2.out).keep b3.out).keep b4, q3'.keep b4, ⟨(x2'.keep b3.out).keep b4, y4', by omega, fun k h => by simp [Value.ownBlock] at h⟩, ext_trans (ext_trans (ext_trans b1.out b2.out) b3.out) b4, by omega⟩)
      have E1 := Z1.out
      have E2 : w2.heap.size = w.heap.size + 3 := by have := Z2.out; have := Z1.out; omega
      have E3 : w3.heap.size = w.heap.size + 5 := by have := Z3.out; omega
      clear p1 x2 q3 y4 b1 b2 b3 b4 z4 Z1 Z2 Z3
      go_wp2_with fail
      replace E1 := Lib.hid E1
      replace E2 := Lib.hid E2
      replace E3 := Lib.hid E3
      go_loopw [15] (fun iv wr => ∃ (k : Nat) (P : List Mg) (lp : Int) (vx : Value) (Q : List Mg) (lq : Int) (vy : Value), iv = .int .i64 (k : Int) ∧ QR w wr A.length k na nb P lp vx Q lq vy) (fun iv _ => A.length - (intOf iv).toNat)
      case atStart => exact ⟨0, [], 0, _, [], 0, _, rfl, ⟨I4.out, by omega, by omega, by simp, by simp, by simp, by simp⟩⟩
      case round =>
        obtain ⟨k, P, lp, vx, Q, lq, vy, rfl, h⟩ := hrel
        have hkl := h.kl
        have hk6 := h.k6
        have hl1 := h.l1
        have hl2 := h.l2
        by_cases hlt : k < A.length ∧ k < 60
        · obtain ⟨hlt0, hlt1⟩ := hlt
          obtain ⟨f, hf⟩ : ∃ f, A[k]? = some f := ⟨_, List.getElem?_eq_getElem hlt0⟩
          have K4 := Lib.hid (fun W (hW : Below w.heap.size w W) => Acs.acsAt_at hf hW hc.out)
          obtain ⟨b', o', rfl, -, c0, c1, c2, c3, c4⟩ := K4.out wr h.s.bw
          have K5 : Hid (∀ W, Below w.heap.size w W → W.cell? ⟨b', o' + k * 5 + 1, none⟩ = some (.string f.a1_0) ∧ W.cell? ⟨b', o' + k * 5 + 2, none⟩ = some (.string f.a1_1) ∧ W.cell? ⟨b', o' + k * 5 + 3, none⟩ = some (.int .i64 f.a1_2) ∧ W.cell? ⟨b', o' + k * 5 + 4, none⟩ = some (.bool f.a1_3)) := Lib.hid fun W hW => by
            obtain ⟨b2, o2, e, -, -, d1, d2, d3, d4⟩ := K4.out W hW
            simp only [Option.some.injEq, Addr.mk.injEq, and_true] at e
            obtain ⟨rfl, rfl⟩ := e
            exact ⟨d1, d2, d3, d4⟩
          clear K4
          obtain ⟨K, m0, m1, m2, m3⟩ := f
          simp only at c0 c1 c2 c3 c4 K5
          have hlt0' : (k : Int) < (A.length : Int) := by omega
          have hlt1' : (k : Int) < 60 := by omega
          have BW0 := Lib.hid h.s.bw
          replace hf := Lib.hid hf
          by_cases k01 : K = 0 ∨ K = 1
          · by_cases hroom : P.length < na
            · have P1 : Hid (∀ W, Below wr.heap.size wr W → Calls Try.prog 28 #[.pointer (some ⟨w.heap.size + 1, 0, none⟩), .agg #[.string m0, .string m1, .int .i64 m2, .bool m3]] W fun e w' => e = .returned (.bool true) ∧ QS w w' na nb (P ++ [⟨m0, m1, m2, m3⟩]) lp vx P lp Q lq vy Q lq) :=
                Lib.hid fun W hW => (put_yes (h.s.ext hW).p ⟨m0, m1, m2, m3⟩ hroom).mono fun e w' ⟨he, q, G⟩ => ⟨he, (h.s.ext hW).onp (.inl rfl) q G⟩
              have P2 : Hid (∀ W, QS w W na nb (P ++ [⟨m0, m1, m2, m3⟩]) lp vx P lp Q lq vy Q lq → Calls Try.prog 29 #[.pointer (some ⟨w.heap.size + 2, 0, none⟩), .agg #[.string m0, .string m1, .int .i64 m2, .bool m3]] W fun e w' => e = .returned (.bool true) ∧ ∃ vx', QS w w' na nb (P ++ [⟨m0, m1, m2, m3⟩]) lp vx' (P ++ [⟨m0, m1, m2, m3⟩]) lp Q lq vy Q lq) :=
                Lib.hid fun W hI => (xput_yes hI.xx.x1 ⟨m0, m1, m2, m3⟩ (by omega) (by omega) hI.sz).mono fun e w' ⟨he, v', n⟩ => ⟨he, v', hI.onx n⟩
              have H0 : Hid (∀ W vx', QS w W na nb (P ++ [⟨m0, m1, m2, m3⟩]) lp vx' (P ++ [⟨m0, m1, m2, m3⟩]) lp Q lq vy Q lq → QR w W A.length (k + 1) na nb (P ++ [⟨m0, m1, m2, m3⟩]) lp vx' Q lq vy) := Lib.hid fun W vx' hI => ⟨hI, by omega, by omega, by simp; omega, h.hq, by omega, by omega⟩
              clear h hroom
              rcases k01 with rfl | rfl
              all_goals
                go_wp2_with fail
                go_region_held3 (fun W => W.cell? ⟨b', o' + k * 5 + 1, none⟩ = some (.string m0) ∧ W.cell? ⟨b', o' + k * 5 + 2, none⟩ = some (.string m1) ∧ W.cell? ⟨b', o' + k * 5 + 3, none⟩ = some (.int .i64 m2) ∧ W.cell? ⟨b', o' + k * 5 + 4, none⟩ = some (.bool m3))
                  (exact K5.out _ (by first | exact BW0.out | exact BW0.out.drew | exact I5.bw | exact I5.bw.drew | exact I6.bw | exact I6.bw.drew))
                  (first
                    | (go_at_call 28; refine (P1.out _ (by first | exact Below.refl _ _ | exact ext_drew _)).mono ?_; rintro e w5 ⟨rfl, I5⟩)
                    | (go_at_call 29; refine (P2.out _ (by first | exact I5 | exact I5.ext (ext_drew _))).mono ?_; rintro e w6 ⟨rfl, vx6, I6⟩))
                all_goals
                  have H2 := Lib.hid (H0.out _ _ (by first | exact I6 | exact I6.ext (ext_drew _)))
                  clear I5 I6
                  go_wp2_with fail
                  have S1 := Lib.hid (stands_any H2.out.s.p H2.out.s.xx.x1 H2.out.hp na1)
                  refine S1.out.mono ?_
                  rintro e w7 ⟨rfl, st⟩
                  have I7 := Lib.hid (H2.out.s.onp (.inl rfl) st.q st.gr)
                  have S2 := Lib.hid (stands_any I7.out.q I7.out.xx.x2 H2.out.hq nb1)
                  clear st S1
                  go_wp2_with fail
                  refine S2.out.mono ?_
                  rintro e w8 ⟨rfl, st⟩
                  have I8 := Lib.hid (I7.out.onq (.inl rfl) st.q st.gr)
                  clear st S2
                  go_wp2_with fail
                  go_roundw
                  case rel => exact ⟨k + 1, _, _, _, _, _, _, by simp, ⟨I8.out, H2.out.kl, H2.out.k6, H2.out.hp, H2.out.hq, H2.out.l1, H2.out.l2⟩⟩
                  case measure => simp [intOf]; omega
            · have hfull := Nat.le_of_not_lt hroom
              have P1 : Hid (∀ W, Below wr.heap.size wr W → Calls Try.prog 28 #[.pointer (some ⟨w.heap.size + 1, 0, none⟩), .agg #[.string m0, .string m1, .int .i64 m2, .bool m3]] W fun e w' => e = .returned (.bool false) ∧ QS w w' na nb P (lp + 1) vx P lp Q lq vy Q lq) :=
                Lib.hid fun W hW => (put_no (h.s.ext hW).p ⟨m0, m1, m2, m3⟩ hfull (by omega) (by omega)).mono fun e w' ⟨he, q, G⟩ => ⟨he, (h.s.ext hW).onp (.inr rfl) q G⟩
              have P2 : Hid (∀ W, QS w W na nb P (lp + 1) vx P lp Q lq vy Q lq → Calls Try.prog 29 #[.pointer (some ⟨w.heap.size + 2, 0, none⟩), .agg #[.string m0, .string m1, .int .i64 m2, .bool m3]] W fun e w' => e = .returned (.bool false) ∧ ∃ vx', QS w w' na nb P (lp + 1) vx' P (lp + 1) Q lq vy Q lq) :=
                Lib.hid fun W hI => (xput_no hI.xx.x1 ⟨m0, m1, m2, m3⟩ (by omega) (by omega) (by have := h.hp; omega)).mono fun e w' ⟨he, v', n⟩ => ⟨he, v', hI.onx n⟩
              have H0 : Hid (∀ W vx', QS w W na nb P (lp + 1) vx' P (lp + 1) Q lq vy Q lq → QR w W A.length (k + 1) na nb P (lp + 1) vx' Q lq vy) := Lib.hid fun W vx' hI => ⟨hI, by omega, by omega, h.hp, h.hq, by omega, by omega⟩
              clear h hroom hfull
              rcases k01 with rfl | rfl
              all_goals
                go_wp2_with fail
                go_region_held3 (fun W => W.cell? ⟨b', o' + k * 5 + 1, none⟩ = some (.string m0) ∧ W.cell? ⟨b', o' + k * 5 + 2, none⟩ = some (.string m1) ∧ W.cell? ⟨b', o' + k * 5 + 3, none⟩ = some (.int .i64 m2) ∧ W.cell? ⟨b', o' + k * 5 + 4, none⟩ = some (.bool m3))
                  (exact K5.out _ (by first | exact BW0.out | exact BW0.out.drew | exact I5.bw | exact I5.bw.drew | exact I6.bw | exact I6.bw.drew))
                  (first
                    | (go_at_call 28; refine (P1.out _ (by first | exact Below.refl _ _ | exact ext_drew _)).mono ?_; rintro e w5 ⟨rfl, I5⟩)
                    | (go_at_call 29; refine (P2.out _ (by first | exact I5 | exact I5.ext (ext_drew _))).mono ?_; rintro e w6 ⟨rfl, vx6, I6⟩))
                all_goals
                  have H2 := Lib.hid (H0.out _ _ (by first | exact I6 | exact I6.ext (ext_drew _)))
                  clear I5 I6
                  go_wp2_with fail
                  have S1 := Lib.hid (stands_any H2.out.s.p H2.out.s.xx.x1 H2.out.hp na1)
                  refine S1.out.mono ?_
                  rintro e w7 ⟨rfl, st⟩
                  have I7 := Lib.hid (H2.out.s.onp (.inl rfl) st.q st.gr)
                  have S2 := Lib.hid (stands_any I7.out.q I7.out.xx.x2 H2.out.hq nb1)
                  clear st S1
                  go_wp2_with fail
                  refine S2.out.mono ?_
                  rintro e w8 ⟨rfl, st⟩
                  have I8 := Lib.hid (I7.out.onq (.inl rfl) st.q st.gr)
                  clear st S2
                  go_wp2_with fail
                  go_roundw
                  case rel => exact ⟨k + 1, _, _, _, _, _, _, by simp, ⟨I8.out, H2.out.kl, H2.out.k6, H2.out.hp, H2.out.hq, H2.out.l1, H2.out.l2⟩⟩
                  case measure => simp [intOf]; omega
          · obtain ⟨d0, d1⟩ : K ≠ 0 ∧ K ≠ 1 := by omega
            have d0b : (K == 0) = false := by simpa using d0
            have d1b : (K == 1) = false := by simpa using d1
            by_cases k2 : K = 2
            · subst k2
              cases P with
              | nil =>
                have T1 : Hid (Calls Try.prog 30 #[.pointer (some ⟨w.heap.size + 1, 0, none⟩)] wr fun e w' => e = .returned (.tuple #[.agg #[.string { data := #[] }, .string { data := #[] }, .int .i64 0, .bool false], .bool false]) ∧ Below wr.heap.size wr w') := Lib.hid ((take_no h.s.p).mono fun e w' ⟨he, _, hb⟩ => ⟨he, hb⟩)
                have T2 : Hid (∀ W, Below wr.heap.size wr W → Calls Try.prog 31 #[.pointer (some ⟨w.heap.size + 2, 0, none⟩)] W fun e w' => e = .returned (.tuple #[.agg #[.string { data := #[] }, .string { data := #[] }, .int .i64 0, .bool false], .bool false]) ∧ Below W.heap.size W w') := Lib.hid fun W hW => xtake_no (h.s.ext hW).xx.x1
                have H0 : Hid (∀ W, Below wr.heap.size wr W → QR w W A.length (k + 1) na nb [] lp vx Q lq vy) := Lib.hid fun W hW => ⟨h.s.ext hW, by omega, by omega, h.hp, h.hq, by omega, by omega⟩
                clear h
                go_wp2_with fail
                refine T1.out.mono ?_
                rintro e w2 ⟨rfl, b2⟩
                have B2 := Lib.hid (ext_trans b2 (ext_alloc w2 (.cells #[.string { data := #[] }, .string { data := #[] }, .int .i64 0, .bool false] 53)))
                have R2 := Lib.hid (heap_alloc_new w2 (.cells #[.string { data := #[] }, .string { data := #[] }, .int .i64 0, .bool false] 53))
                clear b2
                go_wp2_with fail
                refine (T2.out _ B2.out).mono ?_
                rintro e w3 ⟨rfl, b3⟩
                have r3 := (b3.block w2.heap.size (by simp)).trans R2.out
                have x0 : w3.cell? ⟨w2.heap.size, 0, none⟩ = some (.string { data := #[] }) := cell_of_row w3 _ 0 _ 53 (0, 0) r3
                have x1 : w3.cell? ⟨w2.heap.size, 1, none⟩ = some (.string { data := #[] }) := cell_of_row w3 _ 1 _ 53 (0, 0) r3
                have x2 : w3.cell? ⟨w2.heap.size, 2, none⟩ = some (.int .i64 0) := cell_of_row w3 _ 2 _ 53 (0, 0) r3
                have x3 : w3.cell? ⟨w2.heap.size, 3, none⟩ = some (.bool false) := cell_of_row w3 _ 3 _ 53 (0, 0) r3
                have xl := (Array.getElem?_eq_some_iff.1 r3).1
                have H2 := Lib.hid (H0.out _ (ext_trans (ext_trans B2.out b3) (ext_alloc w3 (.cells #[.string { data := #[] }, .string { data := #[] }, .int .i64 0, .bool false] 53))))
                clear r3 b3
                go_wp2_with fail
                have S1 := Lib.hid (stands_any H2.out.s.p H2.out.s.xx.x1 H2.out.hp na1)
                refine S1.out.mono ?_
                rintro e w7 ⟨rfl, st⟩
                have I7 := Lib.hid (H2.out.s.onp (.inl rfl) st.q st.gr)
                have S2 := Lib.hid (stands_any I7.out.q I7.out.xx.x2 H2.out.hq nb1)
                clear st S1
                go_wp2_with fail
                refine S2.out.mono ?_
                rintro e w8 ⟨rfl, st⟩
                have I8 := Lib.hid (I7.out.onq (.inl rfl) st.q st.gr)
                clear st S2
                go_wp2_with fail
                go_roundw
                case rel => exact ⟨k + 1, _, _, _, _, _, _, by simp, ⟨I8.out, H2.out.kl, H2.out.k6, H2.out.hp, H2.out.hq, H2.out.l1, H2.out.l2⟩⟩
                case measure => simp [intOf]; omega
              | cons m R =>
                have T1 : Hid (Calls Try.prog 30 #[.pointer (some ⟨w.heap.size + 1, 0, none⟩)] wr fun e w' => e = .returned (.tuple #[.agg #[.string m.a0, .string m.a1, .int .i64 m.a2, .bool m.a3], .bool true]) ∧ QS w w' na nb R lp vx (m :: R) lp Q lq vy Q lq) := Lib.hid ((take_yes h.s.p).mono fun e w' ⟨he, q, G⟩ => ⟨he, h.s.onp (.inl rfl) q G⟩)
                have hR : R.length + 1 ≤ na := by simpa using h.hp
                have T2 : Hid (∀ W, QS w W na nb R lp vx (m :: R) lp Q lq vy Q lq → Calls Try.prog 31 #[.pointer (some ⟨w.heap.size + 2, 0, none⟩)] W fun e w' => e = .returned (.tuple #[.agg #[.string m.a0, .string m.a1, .int .i64 m.a2, .bool m.a3], .bool true]) ∧ ∃ v', XNew (w.heap.size + 6) W w' (w.heap.size + 2) vx R na lp v') := Lib.hid fun W hW => xtake_yes hW.xx.x1 (by omega) hW.sz
                have H0 : Hid (∀ W vx', QS w W na nb R lp vx' R lp Q lq vy Q lq → QR w W A.length (k + 1) na nb R lp vx' Q lq vy) := Lib.hid fun W vx' hI => ⟨hI, by omega, by omega, by omega, h.hq, by omega, by omega⟩
                clear h hR
                go_wp2_with fail
                refine T1.out.mono ?_
                rintro e w2 ⟨rfl, I2⟩
                have hx2 : ∀ j, vx.ownBlock = some j → j < w2.heap.size := fun j hj => (I2.xx.x1.its.lt j hj).2
                have hs2 := I2.sz
                have I3 := Lib.hid (I2.ext (ext_alloc w2 (.cells #[.string m.a0, .string m.a1, .int .i64 m.a2, .bool m.a3] 53)))
                have R2 := Lib.hid (heap_alloc_new w2 (.cells #[.string m.a0, .string m.a1, .int .i64 m.a2, .bool m.a3] 53))
                replace hx2 := Lib.hid hx2
                clear I2
                go_wp2_with fail
                refine (T2.out _ I3.out).mono ?_
                rintro e w3 ⟨rfl, vx', n⟩
                have r3 := (n.far.block w2.heap.size (by simp) (fun e => e.elim (fun e => by omega) (fun e => absurd (hx2.out _ e) (Nat.lt_irrefl _)))).trans R2.out
                have x0 : w3.cell? ⟨w2.heap.size, 0, none⟩ = some (.string m.a0) := cell_of_row w3 _ 0 _ 53 (0, 0) r3
                have x1 : w3.cell? ⟨w2.heap.size, 1, none⟩ = some (.string m.a1) := cell_of_row w3 _ 1 _ 53 (0, 0) r3
                have x2 : w3.cell? ⟨w2.heap.size, 2, none⟩ = some (.int .i64 m.a2) := cell_of_row w3 _ 2 _ 53 (0, 0) r3
                have x3 : w3.cell? ⟨w2.heap.size, 3, none⟩ = some (.bool m.a3) := cell_of_row w3 _ 3 _ 53 (0, 0) r3
                have xl := (Array.getElem?_eq_some_iff.1 r3).1
                have H2 := Lib.hid (H0.out _ _ ((I3.out.onx n).ext (ext_alloc w3 (.cells #[.string m.a0, .string m.a1, .int .i64 m.a2, .bool m.a3] 53))))
                clear r3 n
                go_wp2_with fail
                have S1 := Lib.hid (stands_any H2.out.s.p H2.out.s.xx.x1 H2.out.hp na1)
                refine S1.out.mono ?_
                rintro e w7 ⟨rfl, st⟩
                have I7 := Lib.hid (H2.out.s.onp (.inl rfl) st.q st.gr)
                have S2 := Lib.hid (stands_any I7.out.q I7.out.xx.x2 H2.out.hq nb1)
                clear st S1
                go_wp2_with fail
                refine S2.out.mono ?_
                rintro e w8 ⟨rfl, st⟩
                have I8 := Lib.hid (I7.out.onq (.inl rfl) st.q st.gr)
                clear st S2
                go_wp2_with fail
                go_roundw
                case rel => exact ⟨k + 1, _, _, _, _, _, _, by simp, ⟨I8.out, H2.out.kl, H2.out.k6, H2.out.hp, H2.out.hq, H2.out.l1, H2.out.l2⟩⟩
                case measure => simp [intOf]; omega
            have d2b : (K == 2) = false := by simpa using k2
            by_cases k3 : K = 3
            · subst k3
              obtain ⟨ya, yc, rfl⟩ := own_slice h.s.xx.x2.its
              have yc0 := h.s.xx.x2.c0
              have yf := h.s.xx.x2.fz 0
              have hqb : (Q.length : Int) ≤ 1000 := by have := h.hq; omega
              have n1 : XNew (w.heap.size + 6) wr (wr.setCell ⟨w.heap.size + 5, 0, none⟩ (.slice none 0 0)) (w.heap.size + 5) (.slice ya Q.length yc) [] nb lq (.slice none 0 0) :=
                ⟨⟨by simpa using setX h.s.xx.x2.row (j := 0) (.slice none 0 0), World.ownsRow_nil _ _ _ _⟩, Far.of_grown set_grownX (fun j _ e => .inl (by simpa using e.symm)), fun j hj => by simp [Value.ownBlock] at hj⟩
              have I1 := h.s.ony n1
              have C1 : Hid (Calls Try.prog 32 #[.pointer (some ⟨w.heap.size + 4, 0, none⟩)] (wr.setCell ⟨w.heap.size + 5, 0, none⟩ (.slice none 0 0)) fun e w' => e = .returned (.int .i64 Q.length) ∧ QR w w' A.length (k + 1) na nb P lp vx [] lq (.slice none 0 0)) := Lib.hid ((clear_any I1.q (by have := h.hq; omega)).mono fun e w' ⟨he, q, G⟩ => ⟨he, ⟨I1.onq (.inl rfl) q G, by omega, by omega, h.hp, by simp, by omega, by omega⟩⟩)
              clear h n1 I1
              go_wp2_with fail
              refine C1.out.mono ?_
              rintro e w2 ⟨rfl, h2⟩
              have H2 := Lib.hid h2
              clear h2
              go_wp2_with fail
              have S1 := Lib.hid (stands_any H2.out.s.p H2.out.s.xx.x1 H2.out.hp na1)
              refine S1.out.mono ?_
              rintro e w7 ⟨rfl, st⟩
              have I7 := Lib.hid (H2.out.s.onp (.inl rfl) st.q st.gr)
              have S2 := Lib.hid (stands_any I7.out.q I7.out.xx.x2 H2.out.hq nb1)
              clear st S1
              go_wp2_with fail
              refine S2.out.mono ?_
              rintro e w8 ⟨rfl, st⟩
              have I8 := Lib.hid (I7.out.onq (.inl rfl) st.q st.gr)
              clear st S2
              go_wp2_with fail
              go_roundw
              case rel => exact ⟨k + 1, _, _, _, _, _, _, by simp, ⟨I8.out, H2.out.kl, H2.out.k6, H2.out.hp, H2.out.hq, H2.out.l1, H2.out.l2⟩⟩
              case measure => simp [intOf]; omega
            have d3b : (K == 3) = false := by simpa using k3
            by_cases k4 : K = 4
            · subst k4
              obtain ⟨d, hd⟩ : ∃ d, d = movedN P Q nb := ⟨_, rfl⟩
              have M1 : Hid (Calls Try.prog 33 #[.pointer (some ⟨w.heap.size + 4, 0, none⟩), .pointer (some ⟨w.heap.size + 1, 0, none⟩)] wr fun e w' => e = .returned (.int .i64 (d : Int)) ∧ QS w w' na nb (P.drop d) lp vx P lp (Q ++ P.take d) lq vy Q lq) := Lib.hid (by
                rw [hd]
                exact (move_any h.s.p h.s.q (by omega) (by omega) (by have := h.hp; omega) h.hq nb1).mono fun e w' ⟨he, p, q, T⟩ => ⟨he, h.s.moved p q (T.far (.inl rfl) (.inr rfl))⟩)
              have M2 : Hid (∀ W, QS w W na nb (P.drop d) lp vx P lp (Q ++ P.take d) lq vy Q lq → Calls Try.prog 34 #[.pointer (some ⟨w.heap.size + 5, 0, none⟩), .pointer (some ⟨w.heap.size + 2, 0, none⟩)] W fun e w' => e = .returned (.int .i64 (d : Int)) ∧ ∃ vx' vy', QS w w' na nb (P.drop d) lp vx' (P.drop d) lp (Q ++ P.take d) lq vy' (Q ++ P.take d) lq) := Lib.hid fun W hI => by
                have e := hd
                rw [hd] at hI ⊢
                exact (xmove_any hI.xx hI.sz (by have := h.hp; omega) h.hq nb1).mono fun e w' ⟨he, a1, a2, M⟩ => ⟨he, a1, a2, hI.xmoved M.xx M.far (fun j hj => by rcases hj with (e | e) | e | e <;> simp [e])⟩
              have hd1 : d ≤ P.length := by rw [hd]; exact moved_le _ _ _
              have hd2 : Q.length + d ≤ nb := by have := h.hq; rw [hd]; unfold movedN; omega
              have H0 : Hid (∀ W vx' vy', QS w W na nb (P.drop d) lp vx' (P.drop d) lp (Q ++ P.take d) lq vy' (Q ++ P.take d) lq → QR w W A.length (k + 1) na nb (P.drop d) lp vx' (Q ++ P.take d) lq vy') := Lib.hid fun W vx' vy' hI => ⟨hI, by omega, by omega, by have := h.hp; simp; omega, by simp; omega, by omega, by omega⟩
              clear h hd hd1 hd2
              go_wp2_with fail
              refine M1.out.mono ?_
              rintro e w2 ⟨rfl, I2⟩
              have MM := Lib.hid (M2.out _ I2)
              clear I2
              go_wp2_with fail
              refine MM.out.mono ?_
              rintro e w3 ⟨rfl, vx', vy', I3⟩
              have H2 := Lib.hid (H0.out _ _ _ I3)
              clear I3
              go_wp2_with fail
              have S1 := Lib.hid (stands_any H2.out.s.p H2.out.s.xx.x1 H2.out.hp na1)
              refine S1.out.mono ?_
              rintro e w7 ⟨rfl, st⟩
              have I7 := Lib.hid (H2.out.s.onp (.inl rfl) st.q st.gr)
              have S2 := Lib.hid (stands_any I7.out.q I7.out.xx.x2 H2.out.hq nb1)
              clear st S1
              go_wp2_with fail
              refine S2.out.mono ?_
              rintro e w8 ⟨rfl, st⟩
              have I8 := Lib.hid (I7.out.onq (.inl rfl) st.q st.gr)
              clear st S2
              go_wp2_with fail
              go_roundw
              case rel => exact ⟨k + 1, _, _, _, _, _, _, by simp, ⟨I8.out, H2.out.kl, H2.out.k6, H2.out.hp, H2.out.hq, H2.out.l1, H2.out.l2⟩⟩
              case measure => simp [intOf]; omega
            have d4b : (K == 4) = false := by simpa using k4
            by_cases k5 : K = 5
            · subst k5
              obtain ⟨d, hd⟩ : ∃ d, d = movedN Q P na := ⟨_, rfl⟩
              have M1 : Hid (Calls Try.prog 33 #[.pointer (some ⟨w.heap.size + 1, 0, none⟩), .pointer (some ⟨w.heap.size + 4, 0, none⟩)] wr fun e w' => e = .returned (.int .i64 (d : Int)) ∧ QS w w' na nb (P ++ Q.take d) lp vx P lp (Q.drop d) lq vy Q lq) := Lib.hid (by
                rw [hd]
                exact (move_any h.s.q h.s.p (by omega) (by omega) (by have := h.hq; omega) h.hp na1).mono fun e w' ⟨he, q, p, T⟩ => ⟨he, h.s.moved p q (T.far (.inr rfl) (.inl rfl))⟩)
              have M2 : Hid (∀ W, QS w W na nb (P ++ Q.take d) lp vx P lp (Q.drop d) lq vy Q lq → Calls Try.prog 34 #[.pointer (some ⟨w.heap.size + 2, 0, none⟩), .pointer (some ⟨w.heap.size + 5, 0, none⟩)] W fun e w' => e = .returned (.int .i64 (d : Int)) ∧ ∃ vx' vy', QS w w' na nb (P ++ Q.take d) lp vx' (P ++ Q.take d) lp (Q.drop d) lq vy' (Q.drop d) lq) := Lib.hid fun W hI => by
                rw [hd] at hI ⊢
                exact (xmove_any hI.xx.swap hI.sz (by have := h.hq; omega) h.hp na1).mono fun e w' ⟨he, a1, a2, M⟩ => ⟨he, a2, a1, hI.xmoved M.xx.swap M.far (fun j hj => by rcases hj with (e | e) | e | e <;> simp [e])⟩
              have hd1 : d ≤ Q.length := by rw [hd]; exact moved_le _ _ _
              have hd2 : P.length + d ≤ na := by have := h.hp; rw [hd]; unfold movedN; omega
              have H0 : Hid (∀ W vx' vy', QS w W na nb (P ++ Q.take d) lp vx' (P ++ Q.take d) lp (Q.drop d) lq vy' (Q.drop d) lq → QR w W A.length (k + 1) na nb (P ++ Q.take d) lp vx' (Q.drop d) lq vy') := Lib.hid fun W vx' vy' hI => ⟨hI, by omega, by omega, by simp; omega, by have := h.hq; simp; omega, by omega, by omega⟩
              clear h hd hd1 hd2
              go_wp2_with fail
              refine M1.out.mono ?_
              rintro e w2 ⟨rfl, I2⟩
              have MM := Lib.hid (M2.out _ I2)
              clear I2
              go_wp2_with fail
              refine MM.out.mono ?_
              rintro e w3 ⟨rfl, vx', vy', I3⟩
              have H2 := Lib.hid (H0.out _ _ _ I3)
              clear I3
              go_wp2_with fail
              have S1 := Lib.hid (stands_any H2.out.s.p H2.out.s.xx.x1 H2.out.hp na1)
              refine S1.out.mono ?_
              rintro e w7 ⟨rfl, st⟩
              have I7 := Lib.hid (H2.out.s.onp (.inl rfl) st.q st.gr)
              have S2 := Lib.hid (stands_any I7.out.q I7.out.xx.x2 H2.out.hq nb1)
              clear st S1
              go_wp2_with fail
              refine S2.out.mono ?_
              rintro e w8 ⟨rfl, st⟩
              have I8 := Lib.hid (I7.out.onq (.inl rfl) st.q st.gr)
              clear st S2
              go_wp2_with fail
              go_roundw
              case rel => exact ⟨k + 1, _, _, _, _, _, _, by simp, ⟨I8.out, H2.out.kl, H2.out.k6, H2.out.hp, H2.out.hq, H2.out.l1, H2.out.l2⟩⟩
              case measure => simp [intOf]; omega
            have d5b : (K == 5) = false := by simpa using k5
            clear k2 k3 k4 k5 k01 d0 d1
            have H2 : Hid (QR w wr A.length (k + 1) na nb P lp vx Q lq vy) := Lib.hid ⟨h.s, by omega, by omega, h.hp, h.hq, by omega, by omega⟩
            clear h
            go_wp2_with fail
            have S1 := Lib.hid (stands_any H2.out.s.p H2.out.s.xx.x1 H2.out.hp na1)
            refine S1.out.mono ?_
            rintro e w7 ⟨rfl, st⟩
            have I7 := Lib.hid (H2.out.s.onp (.inl rfl) st.q st.gr)
            have S2 := Lib.hid (stands_any I7.out.q I7.out.xx.x2 H2.out.hq nb1)
            clear st S1
            go_wp2_with fail
            refine S2.out.mono ?_
            rintro e w8 ⟨rfl, st⟩
            have I8 := Lib.hid (I7.out.onq (.inl rfl) st.q st.gr)
            clear st S2
            go_wp2_with fail
            go_roundw
            case rel => exact ⟨k + 1, _, _, _, _, _, _, by simp, ⟨I8.out, H2.out.kl, H2.out.k6, H2.out.hp, H2.out.hq, H2.out.l1, H2.out.l2⟩⟩
            case measure => simp [intOf]; omega
        · have BW := Lib.hid h.s.bw
          clear h
          by_cases c1 : k < A.length
          all_goals
            first
              | (have c3 : ¬ (k : Int) < 60 := by omega
                 have c4 : (k : Int) < (A.length : Int) := by omega)
              | (have c4 : ¬ (k : Int) < (A.length : Int) := by omega)
            clear hlt c1
            go_wp2_with fail
            refine (awake22_any _).mono ?_
            rintro e w2 ⟨rfl, b2⟩
            go_wp2
            go_ret
            exact ⟨rfl, ext_trans BW.out b2⟩

set_option maxRecDepth 100000 in
theorem lifted (os : Os) (started : os.Started) (H : Type) (enc : TypeId × Value → H) :
    ReturnsInHanded {} Try.checked os 6 .any (Rows.queuePlaysSpec.pre6 enc Try.prog Try.f6 Rows.queuePlaysRow.domain false) (Rows.queuePlaysSpec.post enc Try.prog Try.f6 false true false false) := by
  refine returnsInHanded_of_change_sized (C := Try.checked) own started (by kernel_rfl) Try.func6
    (ChangeSpec.witness6 (enc := enc) (C := Try.checked) false ⟨#[], #[.int .i64 0, .int .i64 0, .slice none 0 0], []⟩ 8 (by kernel_rfl) (by kernel_rfl) (by kernel_rfl) (by kernel_rfl)) ?_
  intro W base args ds gs before hval0 hW hcnd hsz0 _
  have hsz : (DataW.weightsEach Try.prog (Try.f6.params.toList ++ Rows.queuePlaysSpec.plain.varTypes Try.prog) (ds ++ gs)).all (· ≤ reachBytes) = true := hsz0
  have hval : ∀ (j : Nat) t v, Try.f6.params[j]? = some t → args[j]? = some v → Value.okWide Try.prog W .any base t v := hval0
  have hW' := hW
  obtain ⟨p, q, hA0, hV, rfl, hfz, hnd⟩ := hW
  have hA : DataW.TrodAll enc Try.prog W 0 (fun _ => true) true Try.f6.params.toList args.toList ds p := hA0
  rw [Try.params6] at hA hval hsz
  obtain ⟨v0, vs0, d0, ds0, p0, q0, hargs, rfl, rfl, h0, r0⟩ := trodAll_cons hA
  obtain ⟨v1, vs1, d1, ds1, p1, q1, rfl, rfl, rfl, h1, r1⟩ := trodAll_cons r0
  obtain ⟨v2, vs2, d2, ds2, p2, q2, rfl, rfl, rfl, h2, r2⟩ := trodAll_cons r1
  obtain ⟨rfl, rfl, rfl⟩ := trodAll_nil r2
  obtain rfl : args = #[v0, v1, v2] := by cases args; simp_all
  obtain ⟨rfl, rfl⟩ := trodVars_none hV
  have k0 := h0
  have lt0 : ∀ x ∈ p0, x.block < W.heap.size := by obtain ⟨m, hm⟩ := k0; exact DataW.trod_lt m _ _ _ hm
  have k1 := h1
  have lt1 : ∀ x ∈ p1, x.block < W.heap.size := by obtain ⟨m, hm⟩ := k1; exact DataW.trod_lt m _ _ _ hm
  have k2 := h2
  have lt2 : ∀ x ∈ p2, x.block < W.heap.size := by obtain ⟨m, hm⟩ := k2; exact DataW.trod_lt m _ _ _ hm
  obtain ⟨a0, rfl, rfl, rfl, w0⟩ := open_int Try.underlying3 (hval 0 3 v0 rfl rfl) h0
  have b0 := wf_i64 w0
  obtain ⟨a1, rfl, rfl, rfl, w1⟩ := open_int Try.underlying3 (hval 1 3 v1 rfl rfl) h1
  have b1 := wf_i64 w1
  obtain ⟨a2, len2, cap2, rfl⟩ := okWide_slice Try.underlying45 (hval 2 45 v2 rfl rfl)
  obtain ⟨z2, w2, s2⟩ : ∃ l : List Acs.Ac, Acs.AcsAt W (.slice a2 len2 cap2) l ∧ ∀ f ∈ l, f.ok := by
    obtain ⟨fuel, hf⟩ := h2
    exact Acs.open_acs hf (fun n hn => by
      have hm := List.all_eq_true.1 hsz n (DataW.weights_mem_each (j := 2) (t := 45) rfl rfl _ hn)
      simpa [reachBytes] using of_decide_eq_true hm)
  clear hA0 hval0 hsz0
  refine (walk a0 a1 a2 len2 cap2 z2 W b0 b1 w2 s2).mono fun e W' ⟨he, bel⟩ => ?_
  subst he
  exact ⟨_, rfl, _, _, _, [], _, [], hW', trodAll_mk1 (shut_bool Try.underlying4 _), (trodAll_cons_mk (Below.trod laidOut (by kernel_rfl) (of_decide_eq_true (by kernel_rfl)) k0 bel lt0) (trodAll_cons_mk (Below.trod laidOut (by kernel_rfl) (of_decide_eq_true (by kernel_rfl)) k1 bel lt1) (trodAll_cons_mk (Below.trod laidOut (by kernel_rfl) (of_decide_eq_true (by kernel_rfl)) k2 bel lt2) trodAll_mk0))), rfl, bel.frame _, fun h => by cases h⟩

theorem over : Rows.queuePlaysRow.holds Try.pinned (OpenSpec.ofChange Rows.queuePlaysSpec) :=
  OpenClaim.holds_of_wide 6 Try.f6 rfl rfl rfl rfl rfl rfl rfl ⟨rfl, rfl, rfl, rfl, rfl⟩ rfl rfl rfl rfl rfl (by kernel_rfl) Try.func6 (by kernel_rfl)
    (of_decide_eq_true (by kernel_rfl)) (by unfold Func.isWrapper; first | (rw [if_pos (by decide +kernel)]; kernel_rfl) | (rw [if_neg (by decide +kernel)]; exact ⟨rfl, rfl⟩))
    (fun os started H enc _ => lifted os started H enc)

theorem proved : Rows.QueuePlaysSaid := over
end Go.Proofs.Ytoijdmchkjmpgaa.queuePlays
