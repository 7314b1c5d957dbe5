/-
  LAYER 4: awake.
-/
import Derived.Test.YtaannopaipjcoaaUf
namespace Go.Proofs.Ytaannopaipjcoaa
open Go.RowKit

theorem awake_any (w : World) : Calls Try.prog 17 #[] w (Yes w) := by
  have r1 : rightB ⟨#[97]⟩ = true := by decide +kernel
  have r2 : rightB ⟨#[192, 128]⟩ = false := by decide +kernel
  have R1 := right_any ⟨#[97]⟩
  have R2 := right_any ⟨#[192, 128]⟩
  rw [r1] at R1
  rw [r2] at R2
  have P := put_ok ⟨#[97]⟩ w (by decide) r1
  have hs : strB (rawL ⟨#[97]⟩) = ⟨#[0, 1, 97]⟩ := by decide +kernel
  have hl : (rawL ⟨#[97]⟩).length = 3 := by decide +kernel
  have HS := Lib.hid hs
  have HL := Lib.hid hl
  replace R1 := Lib.hid R1
  replace R2 := Lib.hid R2
  replace P := Lib.hid P
  clear hs hl r1 r2
  go_enter Try.func17, Try.ntmps17
  go_wp2_with fail
  refine P.out.mono ?_
  rintro e w1 ⟨v, rfl, hown, hb1⟩
  have hB := BytesAt.of_own hown
  have kc := hB.conv (P := Try.prog) Try.underlying22 Try.underlying5 Try.underlying9
  rw [HS.out] at kc
  obtain ⟨a, cap, rfl, _⟩ := hB
  rw [HL.out] at kc ⊢
  clear hown
  go_wp2_with fail
  refine (R1.out _).mono ?_
  rintro e w2 ⟨rfl, hb2⟩
  go_wp2_with fail
  refine (R2.out _).mono ?_
  rintro e w3 ⟨rfl, hb3⟩
  go_wp2_with fail
  go_ret
  exact ⟨rfl, ext_trans (ext_trans hb1 hb2) hb3⟩
end Go.Proofs.Ytaannopaipjcoaa
