/-
  LAYER 28: Drop.
-/
import Derived.Test.YtdcfenkllpfbaaaBg
namespace Go.Proofs.Ytdcfenkllpfbaaa.Sns
set_option linter.unusedVariables false
set_option linter.unusedSimpArgs false
open Go.Proofs.Ytdcfenkllpfbaaa
open Go.RowKit Que
variable {w w' : World} {t : Nat} {P : List (Option Nat)}
theorem SetIs.sp {i : Nat} {x : Option Nat} {e : Ending} (h : Sp w t P) (hi : i < 8) (s : SetIs w t i x e w') : Sp w' t (P.set i x) ∧ Far (fun k => k = t) w w' := by
  obtain ⟨-, rfl⟩ := s
  exact ⟨h.set hi x, (Far.of_grown set_grownX (fun k _ e => by simpa using e.symm)).trans (Far.of_grown set_grownX (fun k _ e => by simpa using e.symm)) (fun k _ hk => hk)⟩
set_option maxHeartbeats 8000000 in
theorem drop_there (h : Sp w t P) {i s : Nat} (hi : P[i]? = some (some s)) : Calls Try.prog 10 #[.pointer (some ⟨t, 0, none⟩), .int .i64 (i : Int)] w fun e w' => e = .returned (.bool true) ∧ Sp w' t (P.set i none) ∧ Far (fun k => k = t) w w' := by
  have A := Lib.hid (at_in h hi)
  have hl : i < 8 := by have := (List.getElem?_eq_some_iff.1 hi).1; have := h.len; omega
  have hl' : (i : Int) < 8 := by omega
  have L := Lib.hid (leave_any h hl)
  have H := Lib.hid h
  replace hi := Lib.hid hi
  clear h
  go_enter Try.func10, Try.ntmps10
  go_wp2_with fail
  refine A.out.mono ?_
  rintro e w1 ⟨rfl, rfl⟩
  simp only [Option.map_some]
  go_wp2_with fail
  refine L.out.mono ?_
  intro e w1 hs
  have hsp := Lib.hid (hs.sp H.out hl)
  obtain ⟨rfl, -⟩ := hs
  go_wp2_with fail
  go_ret
  exact ⟨rfl, hsp.out.1, hsp.out.2⟩
set_option maxHeartbeats 8000000 in
theorem drop_none (h : Sp w t P) (i : Int) (hi : i < 0 ∨ 8 ≤ i ∨ ∃ j : Nat, i = j ∧ P[j]? = some none) : Calls Try.prog 10 #[.pointer (some ⟨t, 0, none⟩), .int .i64 i] w fun e w' => e = .returned (.bool false) ∧ w = w' := by
  have A : Hid (Calls Try.prog 9 #[.pointer (some ⟨t, 0, none⟩), .int .i64 i] w fun e w' => e = .returned (.pointer none) ∧ w = w') := Lib.hid (by
    rcases hi with hi | hi | ⟨j, rfl, hj⟩
    · exact at_off h i (.inl hi)
    · exact at_off h i (.inr hi)
    · exact at_in h hj)
  clear h hi
  go_enter Try.func10, Try.ntmps10
  go_wp2_with fail
  refine A.out.mono ?_
  rintro e w1 ⟨rfl, rfl⟩
  go_wp2_with fail
  go_ret
  exact ⟨rfl, rfl⟩
end Go.Proofs.Ytdcfenkllpfbaaa.Sns
