/-
  LAYER 6: Put of both sides; awake.
-/
import Derived.Test.YtoglgdkeknojkaaMf
namespace Go.Proofs.Ytoglgdkeknojkaa
open Go.RowKit

theorem getN_le {m : Me} (hm : m.ok) (i : Nat) : getN i m ≤ 18446744073709551615 := by
  obtain ⟨h1, h2, h3, -⟩ := hm
  unfold getN
  split
  · split <;> omega
  · split
    · exact h2
    · split
      · exact h3
      · omega
theorem getS_le {m : Me} (hm : m.ok) (i : Nat) : (getS i m).size ≤ 140737488351232 := by
  obtain ⟨h1, h2, h3, h4, h5, h6, h7⟩ := hm
  unfold getS
  split
  · exact h1
  · split
    · exact h4
    · split
      · exact h5
      · split
        · exact h6
        · split
          · exact h7
          · simp [empty, ByteArray.size]
theorem kindP_02 (i : Nat) : kindP i = 0 ∨ kindP i = 2 := by unfold kindP; split <;> simp
theorem fieldP_ok {m : Me} (hm : m.ok) {i : Nat} (hi : i < 8) : ∀ f ∈ fieldP m i, f.ok := by
  intro f hf
  unfold fieldP at hf
  split at hf
  · simp at hf
  · rw [List.mem_singleton.1 hf]
    have := kindP_02 i
    exact ⟨by simp only; omega, by simp only; omega, getN_le hm i, getS_le hm i⟩
theorem fields_ok {m : Me} (hm : m.ok) : ∀ f ∈ fieldsK m 8, f.ok := by
  intro f hf
  simp only [fieldsK, List.mem_flatMap, List.mem_range] at hf
  obtain ⟨i, hi, hf⟩ := hf
  exact fieldP_ok hm hi f hf
theorem mput_any (m : Me) (w : World) (hm : m.ok) : Calls Try.prog 7 #[m.val] w (Puts (putsE (fieldsK m 8)) (putsL (fieldsK m 8)) w) :=
  mput7_any m w hm fun v W _ hF => (puts3 v _ W hF (fields_ok hm)).1
set_option maxHeartbeats 1000000 in
set_option maxRecDepth 100000 in
theorem mrput_any (m : Me) (w : World) (hm : m.ok) : Calls Try.prog 8 #[m.val] w (Puts (putsE (fieldsK m 8)) (putsL (fieldsK m 8)) w) := by
  have P := Lib.hid (fun v W hF => (puts3 v (fieldsK m 8) W hF (fields_ok hm)).2)
  have F := Lib.hid (fun w => fields_any m w hm)
  unfold FldP at F
  generalize putsE (fieldsK m 8) = PE at *
  generalize putsL (fieldsK m 8) = PL at *
  generalize fieldsK m 8 = L at *
  have hA := Lib.hid (ext_alloc w (.cells m.cells 24))
  unfold Me.val at *
  have em : m.cells = #[.bool m.multi, .string m.type, .int .u64 (m.size : Nat), .int .u64 (m.seq : Nat), .string m.file, .string m.kind, .string m.md5, .string m.desc] := rfl
  rw [em] at F hA ⊢
  clear em hm
  go_enter Try.func8, Try.ntmps8
  go_wp2_with fail
  refine (F.out _).mono ?_
  rintro e w1 ⟨v1, rfl, f1, b1⟩
  have Q := Lib.hid (P.out v1 w1 f1)
  obtain ⟨a1, c1, rfl, -⟩ := f1
  have B1 := Lib.hid (ext_trans hA.out b1)
  clear b1
  go_wp2_with fail
  refine Q.out.mono ?_
  rintro e w2 ⟨v2, rfl, s2, b2⟩
  go_wp2_with fail
  go_ret2
  exact ⟨_, rfl, s2, ext_trans B1.out b2⟩
def oneM : Me := ⟨false, ⟨#[]⟩, 0, 0, ⟨#[]⟩, ⟨#[]⟩, ⟨#[]⟩, ⟨#[120]⟩⟩
theorem oneM_f : fieldsK oneM 8 = [⟨8, 2, 0, ⟨#[120]⟩⟩] := rfl
set_option maxHeartbeats 1000000 in
set_option maxRecDepth 100000 in
theorem mawake_any (w : World) : Calls Try.prog 11 #[] w (Yes w) := by
  have P := Lib.hid (mput_any oneM w ⟨by decide, by decide, by decide, by decide, by decide, by decide, by decide⟩)
  rw [oneM_f, show putsE [⟨8, 2, 0, ⟨#[120]⟩⟩] = 0 from rfl, show putsL [⟨8, 2, 0, ⟨#[120]⟩⟩] = [66, 1, 120] from rfl] at P
  go_enter Try.func11, Try.ntmps11
  go_wp2_with fail
  refine P.out.mono ?_
  rintro e w1 ⟨v1, rfl, s1, b1⟩
  have kc := s1.bytes.conv (P := Try.prog) Try.underlying25 Try.underlying5 Try.underlying9
  obtain ⟨a1, c1, rfl, -⟩ := s1
  replace kc : (convert 25 9 (.slice a1 3 c1)).run Try.prog w1 = .ok (.string ⟨#[66, 1, 120]⟩) w1 := kc
  replace b1 := Lib.hid b1
  go_wp2_with fail
  go_ret
  exact ⟨rfl, b1.out⟩
end Go.Proofs.Ytoglgdkeknojkaa
