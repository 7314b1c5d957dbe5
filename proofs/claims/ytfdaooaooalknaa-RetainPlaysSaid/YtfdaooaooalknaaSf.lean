/-
  LAYER 17: the document's: sized, Name, Filter; Hidden of both sides.
-/
import Derived.Test.YtfdaooaooalknaaShelq
import Derived.Test.YtfdaooaooalknaaSe

namespace Go.Proofs.Ytfdaooaooalknaa
set_option linter.unusedSimpArgs false
set_option linter.unusedVariables false
open Go.RowKit

def RRight : Prop := ∀ (s : ByteArray) (w : World), Calls Try.prog 45 #[.string s] w (BoolIs (rightB s) w)
theorem spS_count (s : ByteArray) : (spS s).length = s.data.toList.count 47 + 1 := by
  unfold spS
  rw [List.length_map, spl_length]
  unfold slashes
  rw [List.count, List.countP_eq_length_filter]
set_option maxHeartbeats 1000000 in
set_option maxRecDepth 100000 in
theorem sized_any (RR : RRight) (s : ByteArray) (w : World) (hs : s.size ≤ 1048576) : Calls Try.prog 29 #[.string s] w (BoolIs (fitsB s) w) := by
  have R := Lib.hid (RR s)
  have S := Lib.hid (fun w => rsplit_any s w hs)
  by_cases h0 : s.size = 0
  · obtain rfl := size0 h0
    go_enter Try.func29, Try.ntmps29
    go_wp2_with fail
    go_ret
    exact ⟨rfl, Below.refl _ _⟩
  by_cases h96 : s.size ≤ 96
  · have h96' : (s.size : Int) ≤ 96 := by omega
    have h1 : (1 : Int) ≤ s.size := by omega
    have hF : fitsB s = (rightB s && decide (s.data.toList.count 47 < 12)) := by unfold fitsB; simp [h0, h96]
    replace hF := Lib.hid hF
    have hcnt := spS_count s
    have hsl := spS_le s
    replace h0 := Lib.hid h0
    go_enter Try.func29, Try.ntmps29
    go_wp2_with fail
    refine (R.out _).mono ?_
    rintro e w1 ⟨rfl, b1⟩
    cases hr : rightB s with
    | false =>
      replace hr := Lib.hid hr
      go_wp2_with fail
      go_ret
      exact ⟨by rw [hF.out, hr.out]; rfl, b1⟩
    | true =>
      replace hr := Lib.hid hr
      go_wp2_with fail
      refine (S.out _).mono ?_
      rintro e w2 ⟨v, rfl, hown, b2⟩
      generalize spS s = ss at *
      obtain ⟨g, cap, rfl, -, -, -, -⟩ := own_cells hown (by omega)
      generalize s.data.toList.count 47 = n at *
      have hn : (n : Int) ≤ 97 := by omega
      have hl : (ss.length : Int) = n + 1 := by omega
      have B := Lib.hid (ext_trans b1 b2)
      clear hown b1 b2
      go_wp2_with fail
      go_ret
      refine ⟨?_, B.out⟩
      rw [hF.out, hr.out, Bool.true_and]
      show Ending.returned (.bool (decide _)) = _
      congr 2
      rw [decide_eq_decide]
      omega
  · have h96' : ¬ (s.size : Int) ≤ 96 := by omega
    have hs' : (s.size : Int) ≤ 1048576 := by omega
    have h1 : (1 : Int) ≤ s.size := by omega
    have hF : fitsB s = false := by unfold fitsB; simp [h96]
    replace hF := Lib.hid hF
    replace h0 := Lib.hid h0
    replace h96 := Lib.hid h96
    go_enter Try.func29, Try.ntmps29
    go_wp2_with fail
    go_ret
    exact ⟨by rw [hF.out]; rfl, Below.refl _ _⟩
set_option maxHeartbeats 1000000 in
set_option maxRecDepth 100000 in
theorem rname_any (RR : RRight) (s : ByteArray) (w : World) (hs : s.size ≤ 1048576) : Calls Try.prog 19 #[.string s] w (BoolIs (nameB s) w) := by
  have F := Lib.hid (sized_any RR s w hs)
  have W := Lib.hid (fun w => wild_any s w hs)
  unfold nameB
  generalize hf : fitsB s = f at *
  replace hf := Lib.hid hf
  go_enter Try.func19, Try.ntmps19
  go_wp2_with fail
  refine (F.out).mono ?_
  rintro e w1 ⟨rfl, b1⟩
  cases f with
  | false =>
    go_wp2_with fail
    go_ret
    exact ⟨rfl, b1⟩
  | true =>
    go_wp2_with fail
    refine (W.out _).mono ?_
    rintro e w2 ⟨rfl, b2⟩
    cases hb : anyB s with
    | false =>
      replace hb := Lib.hid hb
      go_wp2_with fail
      go_ret
      exact ⟨by rw [hb.out]; rfl, ext_trans b1 b2⟩
    | true =>
      replace hb := Lib.hid hb
      go_wp2_with fail
      go_ret
      exact ⟨by rw [hb.out]; rfl, ext_trans b1 b2⟩
def hidB (s : ByteArray) : Bool := Lib.hasPrefix s.data.toList [36]
set_option maxHeartbeats 1000000 in
set_option maxRecDepth 100000 in
theorem hidden_any (s : ByteArray) (w : World) : Calls Try.prog 40 #[.string s] w (BoolIs (hidB s) w) := by
  have H := Lib.hid (Try.strings_HasPrefix s)
  go_enter Try.func40, Try.ntmps40
  go_wp2_with fail
  refine (H.out _ _).mono ?_
  rintro e w1 ⟨rfl, rfl⟩
  go_wp2_with fail
  go_ret
  exact ⟨rfl, Below.refl _ _⟩
end Go.Proofs.Ytfdaooaooalknaa
