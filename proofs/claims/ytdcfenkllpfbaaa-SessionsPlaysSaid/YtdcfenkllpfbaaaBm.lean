/-
  LAYER 28: awake.
-/
import Derived.Test.YtdcfenkllpfbaaaBl
namespace Go.Proofs.Ytdcfenkllpfbaaa.Sns
set_option linter.unusedVariables false
set_option linter.unusedSimpArgs false
open Go.Proofs.Ytdcfenkllpfbaaa
open Go.RowKit Que
variable {w w' : World} {t : Nat} {n : Int} {L : List (Option Ze)}
theorem okA : okId ⟨#[97]⟩ := ⟨by decide, by decide +kernel, by decide +kernel⟩
theorem opn_first {cl : ByteArray} {cn : Bool} (h : okId cl) : opnR cl cn (List.replicate 8 none) = (0, false, 0, some 0) := by
  unfold opnR
  rw [if_pos h]
  rfl
theorem opn_again {cl : ByteArray} {s p g c : Nat} {l : List Mg} {lost : Int} (h : okId cl) : opnR cl false ((List.replicate 8 none).set 0 (some ⟨s, p, g, c, cl, false, l, lost⟩)) = (0, true, 0, none) := by
  unfold opnR
  rw [if_pos h]
  simp [List.replicate, fndS]
/-- Far by blocks that came later. -/
theorem Far.ext0 {B t : Nat} {w1 w2 w0 : World} (F : Far (fun k => k = t) w1 w2) (b : Below w0.heap.size w0 w1) (ht : w0.heap.size ≤ t) : Below w0.heap.size w0 w2 :=
  b.trans (F.below b.size (fun k hk => by omega))
set_option maxHeartbeats 8000000 in
theorem awake28_any (w : World) : Calls Try.prog 13 #[] w (Yes w) := by
  go_enter Try.func13, Try.ntmps13
  go_wp2_with fail
  refine (st_new _).mono ?_
  rintro e w1 ⟨rfl, h1, b1⟩
  have O1 := Lib.hid (st_open h1 (Int.le_refl 0) ⟨#[97]⟩ false (by decide))
  replace b1 := Lib.hid b1
  clear h1
  go_wp2_with fail
  refine O1.out.mono ?_
  unfold OpenIs
  rw [opn_first okA]
  rintro e w2 ⟨rfl, F2, L2, h2, -, s, p, g, c, z1, z2, z3, z4, rfl⟩
  have b2 := Lib.hid (Far.ext0 (B := 0) F2 b1.out (Nat.le_refl _))
  have O2 := Lib.hid (st_open h2 (Int.le_refl 0) ⟨#[97]⟩ false (by decide))
  clear h2 O1 b1 F2 z1 z2 z3 z4
  go_wp2_with fail
  refine O2.out.mono ?_
  unfold OpenIs
  rw [opn_again okA]
  rintro e w3 ⟨rfl, F3, L3, h3, rfl⟩
  have b3 := Lib.hid (Far.ext0 (B := 0) F3 b2.out (Nat.le_refl _))
  have K := Lib.hid (st_len h3)
  clear h3 O2 b2 F3
  go_wp2_with fail
  refine K.out.mono ?_
  rintro e w4 ⟨rfl, b4⟩
  have b5 := Lib.hid (ext_trans b3.out b4)
  clear b4 b3 K
  go_wp2_with fail
  go_ret
  exact ⟨rfl, b5.out⟩
end Go.Proofs.Ytdcfenkllpfbaaa.Sns
