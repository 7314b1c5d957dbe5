/-
  LAYER 28: New, At, free, take, leave.
-/
import Derived.Test.YtdcfenkllpfbaaaBa
namespace Go.Proofs.Ytdcfenkllpfbaaa.Sns
set_option linter.unusedVariables false
set_option linter.unusedSimpArgs false
open Go.Proofs.Ytdcfenkllpfbaaa
open Go.RowKit
variable {w w' : World} {t : Nat} {P : List (Option Nat)}
set_option maxHeartbeats 8000000 in
theorem ss_new (w : World) : Calls Try.prog 14 #[] w fun e w' => e = .returned (.pointer (some ⟨w.heap.size, 0, none⟩)) ∧ Sp w' w.heap.size (List.replicate 8 none) ∧ w' = w.alloc (.cells (rowS (List.replicate 8 none)) 28) := by
  go_enter Try.func14, Try.ntmps14
  go_wp2_with fail
  go_ret
  refine ⟨rfl, ⟨?_, rfl⟩, rfl⟩
  exact heap_alloc_new w _
set_option maxHeartbeats 8000000 in
theorem at_in (h : Sp w t P) {i : Nat} {x : Option Nat} (hi : P[i]? = some x) : Calls Try.prog 9 #[.pointer (some ⟨t, 0, none⟩), .int .i64 (i : Int)] w fun e w' => e = .returned (.pointer (x.map fun s => ⟨s, 0, none⟩)) ∧ w = w' := by
  have N := Lib.hid (none_no h)
  have hh := h.has hi
  have hl : i < 8 := by have := (List.getElem?_eq_some_iff.1 hi).1; have := h.len; omega
  have hl' : (i : Int) < 8 := by omega
  go_enter Try.func9, Try.ntmps9
  go_wp2_with fail
  refine N.out.mono ?_
  rintro e w1 ⟨rfl, rfl⟩
  go_wp2_with fail
  go_ret
  exact ⟨rfl, rfl⟩
set_option maxHeartbeats 8000000 in
theorem at_off (h : Sp w t P) (i : Int) (hi : i < 0 ∨ 8 ≤ i) : Calls Try.prog 9 #[.pointer (some ⟨t, 0, none⟩), .int .i64 i] w fun e w' => e = .returned (.pointer none) ∧ w = w' := by
  have N := Lib.hid (none_no h)
  go_enter Try.func9, Try.ntmps9
  go_wp2_with fail
  refine N.out.mono ?_
  rintro e w1 ⟨rfl, rfl⟩
  by_cases h0 : i < 0
  · go_wp2_with fail
    go_ret
    exact ⟨rfl, rfl⟩
  · have h1 : 8 ≤ i := by omega
    have h1' : ¬ i < 8 := by omega
    go_wp2_with fail
    go_ret
    exact ⟨rfl, rfl⟩
/-- A place is set: one row is struck twice. -/
theorem Sp.set (h : Sp w t P) {i : Nat} (hi : i < 8) (x : Option Nat) : Sp ((w.setCell ⟨t, 1 + i * 2, none⟩ (.bool x.isSome)).setCell ⟨t, 1 + i * 2 + 1, none⟩ (.pointer (x.map fun s => ⟨s, 0, none⟩))) t (P.set i x) := by
  have e1 := heap_setCell_same w t (1 + i * 2) _ 28 (.bool x.isSome) h.row
  have e2 := heap_setCell_same _ t (1 + i * 2 + 1) _ 28 (.pointer (x.map fun s => ⟨s, 0, none⟩)) e1
  rw [rowS_set (by rw [h.len]; exact hi)] at e2
  exact ⟨e2, by rw [List.length_set]; exact h.len⟩
def SetIs (w : World) (t i : Nat) (x : Option Nat) (e : Ending) (w' : World) : Prop :=
  e = .returned (.tuple #[]) ∧ w' = (w.setCell ⟨t, 1 + i * 2, none⟩ (.bool x.isSome)).setCell ⟨t, 1 + i * 2 + 1, none⟩ (.pointer (x.map fun s => ⟨s, 0, none⟩))
set_option maxHeartbeats 8000000 in
theorem take_any (h : Sp w t P) {i : Nat} (hi : i < 8) (s : Nat) : Calls Try.prog 27 #[.pointer (some ⟨t, 1 + i * 2, none⟩), .pointer (some ⟨s, 0, none⟩)] w (SetIs w t i (some s)) := by
  obtain ⟨x, hx⟩ : ∃ x, P[i]? = some x := ⟨_, List.getElem?_eq_getElem (by rw [h.len]; exact hi)⟩
  have c0 := h.taken hx
  have f0 := h.fz (1 + i * 2)
  have e1 := heap_setCell_same w t (1 + i * 2) _ 28 (.bool true) h.row
  have c1 : (w.setCell ⟨t, 1 + i * 2, none⟩ (.bool true)).cell? ⟨t, 1 + i * 2 + 1, none⟩ = some (.pointer (x.map fun s => ⟨s, 0, none⟩)) := by
    rw [cell_of_row _ t _ _ 28 (0, 0) e1, Array.getElem?_setIfInBounds_ne (by omega), ← cell_of_row w t _ _ 28 (0, 0) h.row]
    exact h.has hx
  have f1 := frozen_of_row _ t (1 + i * 2 + 1) _ 28 e1
  go_enter Try.func27, Try.ntmps27
  go_wp2_with fail
  refine bodyPost_end (results_none rfl _ _ _) rfl ?_
  exact ⟨rfl, rfl⟩
set_option maxHeartbeats 8000000 in
theorem leave_any (h : Sp w t P) {i : Nat} (hi : i < 8) : Calls Try.prog 29 #[.pointer (some ⟨t, 1 + i * 2, none⟩)] w (SetIs w t i none) := by
  obtain ⟨x, hx⟩ : ∃ x, P[i]? = some x := ⟨_, List.getElem?_eq_getElem (by rw [h.len]; exact hi)⟩
  have c0 := h.taken hx
  have f0 := h.fz (1 + i * 2)
  have e1 := heap_setCell_same w t (1 + i * 2) _ 28 (.bool false) h.row
  have c1 : (w.setCell ⟨t, 1 + i * 2, none⟩ (.bool false)).cell? ⟨t, 1 + i * 2 + 1, none⟩ = some (.pointer (x.map fun s => ⟨s, 0, none⟩)) := by
    rw [cell_of_row _ t _ _ 28 (0, 0) e1, Array.getElem?_setIfInBounds_ne (by omega), ← cell_of_row w t _ _ 28 (0, 0) h.row]
    exact h.has hx
  have f1 := frozen_of_row _ t (1 + i * 2 + 1) _ 28 e1
  go_enter Try.func29, Try.ntmps29
  go_wp2_with fail
  refine bodyPost_end (results_none rfl _ _ _) rfl ?_
  exact ⟨rfl, rfl⟩
/-- The least free place. -/
def fr : List (Option Nat) → Nat → Option Nat
  | [], _ => none
  | none :: _, n => some n
  | some _ :: P, n => fr P (n + 1)
theorem fr_at : ∀ (P : List (Option Nat)) (n i : Nat) , (∀ j, j < i → ∃ s, P[j]? = some (some s)) → i ≤ P.length → fr P n = fr (P.drop i) (n + i)
  | P, n, 0, _, _ => by simp
  | [], n, i + 1, h, hl => by simp at hl
  | p :: P, n, i + 1, h, hl => by
    obtain ⟨s, hs⟩ := h 0 (by omega)
    simp at hs
    subst hs
    rw [List.drop_succ_cons, fr, fr_at P (n + 1) i (fun j hj => by obtain ⟨s, hs⟩ := h (j + 1) (by omega); exact ⟨s, by simpa using hs⟩) (by simpa using hl), show n + 1 + i = n + (i + 1) by omega]
theorem fr_here {P : List (Option Nat)} {i : Nat} (h : ∀ j, j < i → ∃ s, P[j]? = some (some s)) (hi : P[i]? = some none) : fr P 0 = some i := by
  have hl := (List.getElem?_eq_some_iff.1 hi).1
  rw [fr_at P 0 i h (by omega)]
  have e : P.drop i = none :: P.drop (i + 1) := by
    rw [List.drop_eq_getElem_cons hl]
    congr 1
    rw [List.getElem?_eq_getElem hl] at hi
    simpa using hi
  rw [e, fr]
  simp
theorem fr_none {P : List (Option Nat)} (h : ∀ j, j < P.length → ∃ s, P[j]? = some (some s)) : fr P 0 = none := by
  rw [fr_at P 0 P.length h (Nat.le_refl _), List.drop_length]
  rfl
/-- What free answers. -/
def frV : Option Nat → Value
  | some i => .tuple #[.int .i64 (i : Int), .int .i64 0]
  | none => .tuple #[.int .i64 0, .int .i64 6]
set_option maxHeartbeats 8000000 in
theorem free_any (h : Sp w t P) : Calls Try.prog 26 #[.pointer (some ⟨t, 0, none⟩)] w fun e w' => e = .returned (frV (fr P 0)) ∧ w = w' := by
  have H := Lib.hid h
  clear h
  go_enter Try.func26, Try.ntmps26
  go_wp2_with fail
  go_loopw [5] (fun v wr => ∃ i : Nat, v = .int .i64 (i : Int) ∧ i ≤ 8 ∧ (∀ j, j < i → ∃ s, P[j]? = some (some s)) ∧ wr = w) (fun v _ => 8 - (intOf v).toNat)
  case atStart => exact ⟨0, rfl, by omega, fun j hj => absurd hj (by omega), rfl⟩
  case round =>
    obtain ⟨i, rfl, hi, hj, rfl⟩ := hrel
    by_cases h8 : i < 8
    · have h8' : (i : Int) < 8 := by omega
      obtain ⟨x, hx⟩ : ∃ x, P[i]? = some x := ⟨_, List.getElem?_eq_getElem (by rw [H.out.len]; exact h8)⟩
      have c0 := H.out.taken hx
      cases x with
      | none =>
        have hf := Lib.hid (fr_here hj hx)
        simp only [Option.isSome_none] at c0
        go_wp2_with fail
        go_ret2
        rw [hf.out]
        exact ⟨rfl, rfl⟩
      | some s =>
        have hj2 : Hid (∀ j, j < i + 1 → ∃ s, P[j]? = some (some s)) := Lib.hid (fun j hj' => by
          rcases Nat.lt_or_ge j i with h | h
          · exact hj j h
          · have : j = i := by omega
            subst this
            exact ⟨s, hx⟩)
        simp only [Option.isSome_some] at c0
        go_wp2_with fail
        go_roundw
        case rel => exact ⟨i + 1, by simp, by omega, hj2.out, trivial⟩
        case measure => simp [intOf]; omega
    · have h8' : ¬ (i : Int) < 8 := by omega
      have hf := Lib.hid (fr_none (P := P) (fun j hl => hj j (by rw [H.out.len] at hl; omega)))
      go_wp2_with fail
      go_ret2
      rw [hf.out]
      exact ⟨rfl, rfl⟩
end Go.Proofs.Ytdcfenkllpfbaaa.Sns
