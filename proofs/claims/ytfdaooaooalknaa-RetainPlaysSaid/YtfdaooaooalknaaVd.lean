/-
  LAYER 18: the document's Match, Wide, Covers.
-/
import Derived.Test.YtfdaooaooalknaaVc
namespace Go.Proofs.Ytfdaooaooalknaa
set_option linter.unusedSimpArgs false
set_option linter.unusedVariables false
open Go.RowKit

set_option maxHeartbeats 1000000 in
set_option maxRecDepth 100000 in
theorem rmatch_any (a b : ByteArray) (w : World) (ha : a.size ≤ 1048576) (hb : b.size ≤ 1048576) : Calls Try.prog 23 #[.string a, .string b] w (BoolIs (matchB a b) w) := by
  have F := fun w => rfilter_any a w ha
  have N := fun w => rname_any rr_any b w hb
  have SA := Lib.hid fun w => rsplit_any a w ha
  have SB := Lib.hid fun w => rsplit_any b w hb
  have la : (spS a).length ≤ 4194304 := by have := spS_le a; omega
  have lb : (spS b).length ≤ 4194304 := by have := spS_le b; omega
  unfold matchB coverB
  cases hA : filterB a with
  | false =>
    rw [hA] at F
    replace F := Lib.hid F
    clear hA N ha hb la lb
    go_enter Try.func23, Try.ntmps23
    go_wp2_with fail
    refine (F.out _).mono ?_
    rintro e w1 ⟨rfl, b1⟩
    go_wp2_with fail
    go_ret
    exact ⟨rfl, b1⟩
  | true =>
    rw [hA] at F
    replace F := Lib.hid F
    cases hB : nameB b with
    | false =>
      rw [hB] at N
      replace N := Lib.hid N
      clear hA hB ha hb la lb
      go_enter Try.func23, Try.ntmps23
      go_wp2_with fail
      refine (F.out _).mono ?_
      rintro e w1 ⟨rfl, b1⟩
      go_wp2_with fail
      refine (N.out _).mono ?_
      rintro e w2 ⟨rfl, b2⟩
      go_wp2_with fail
      go_ret
      exact ⟨rfl, ext_trans b1 b2⟩
    | true =>
      rw [hB] at N
      replace N := Lib.hid N
      have sa : a.size ≠ 0 := ((fits_iff _).1 ((filter_iff _).1 hA).1).1
      have sb : b.size ≠ 0 := ((fits_iff _).1 ((name_iff _).1 hB).1).1
      have SH := fun w => shy_any a b w sa sb
      rw [shy_is hA sb] at SH
      have WV : wantF (spS a) (spS b) = covF (spS a) (spS b) := want_cov _ _ (fun y hy => (name_parts hB y hy).2)
      clear hA hB sa sb
      cases hs : leadB a && hidB b with
      | true =>
        rw [hs] at SH
        replace SH := Lib.hid SH
        replace hs := Lib.hid hs
        clear ha hb la lb WV
        go_enter Try.func23, Try.ntmps23
        go_wp2_with fail
        refine (F.out _).mono ?_
        rintro e w1 ⟨rfl, b1⟩
        replace b1 := Lib.hid b1
        go_wp2_with fail
        refine (N.out _).mono ?_
        rintro e w2 ⟨rfl, b2⟩
        replace b2 := Lib.hid (ext_trans b1.out b2)
        go_wp2_with fail
        refine (SH.out _).mono ?_
        rintro e w3 ⟨rfl, b3⟩
        replace b3 := Lib.hid (ext_trans b2.out b3)
        go_wp2_with fail
        go_ret
        exact ⟨rfl, b3.out⟩
      | false =>
        rw [hs] at SH
        replace SH := Lib.hid SH
        replace hs := Lib.hid hs
        replace la := Lib.hid la
        replace lb := Lib.hid lb
        replace WV := Lib.hid WV
        clear ha hb
        go_enter Try.func23, Try.ntmps23
        go_wp2_with fail
        refine (F.out _).mono ?_
        rintro e w1 ⟨rfl, b1⟩
        replace b1 := Lib.hid b1
        go_wp2_with fail
        refine (N.out _).mono ?_
        rintro e w2 ⟨rfl, b2⟩
        replace b2 := Lib.hid (ext_trans b1.out b2)
        go_wp2_with fail
        refine (SH.out _).mono ?_
        rintro e w3 ⟨rfl, b3⟩
        replace b3 := Lib.hid (ext_trans b2.out b3)
        go_wp2_with fail
        refine (SA.out _).mono ?_
        rintro e w4 ⟨v1, rfl, own1, b4⟩
        replace b4' := Lib.hid (ext_trans b3.out b4)
        obtain ⟨g1, c1, rfl, hc1, hg1, L1⟩ := spl_lies own1
        replace L1 := Lib.hid L1
        replace hc1 := Lib.hid hc1
        clear own1 b4
        go_wp2_with fail
        refine (SB.out _).mono ?_
        rintro e w5 ⟨v2, rfl, own2, b5⟩
        have L1' := L1.out.keep hg1 b5
        replace b5' := Lib.hid (ext_trans b4'.out b5)
        obtain ⟨g2, c2, rfl, hc2, hg2, L2⟩ := spl_lies own2
        have W := wants_any (spS a) (spS b) w5 g1 0 c1 g2 0 c2 hc1.out la.out hc2 lb.out L1' L2
        rw [WV.out] at W
        replace W := Lib.hid W
        clear own2 b5 L1' L2 L1 hc1 hc2 hg1 hg2 WV la lb
        generalize (spS a).length = na at *
        generalize (spS b).length = nb at *
        go_wp2_with fail
        refine W.out.mono ?_
        rintro e w6 ⟨rfl, m, rfl⟩
        go_wp2_with fail
        go_ret
        exact ⟨rfl, ext_trans b5'.out (drewN_below _ _)⟩
end Go.Proofs.Ytfdaooaooalknaa
