/-
  LAYER 28: the places, and a session that is not online.
-/
import Derived.Test.YtdcfenkllpfbaaaCom
import Derived.Test.YtdcfenkllpfbaaaFr
namespace Go.Proofs.Ytdcfenkllpfbaaa.Sns
set_option linter.unusedVariables false
set_option linter.unusedSimpArgs false
open Go.Proofs.Ytdcfenkllpfbaaa
open Go.RowKit
/-- A place: whether it is taken, and by whom. -/
def plc : Option Nat → List Value
  | none => [.bool false, .pointer none]
  | some s => [.bool true, .pointer (some ⟨s, 0, none⟩)]
def rowS (P : List (Option Nat)) : Array Value := (.bool true :: P.flatMap plc).toArray
theorem plc_at : ∀ (P : List (Option Nat)) (i : Nat) (x : Option Nat), P[i]? = some x → (P.flatMap plc)[2 * i]? = some (.bool x.isSome) ∧ (P.flatMap plc)[2 * i + 1]? = some (.pointer (x.map fun s => ⟨s, 0, none⟩))
  | [], i, x, h => by simp at h
  | p :: P, 0, x, h => by
    simp at h
    subst h
    cases p <;> simp [plc]
  | p :: P, i + 1, x, h => by
    have ih := plc_at P i x (by simpa using h)
    have hl : (plc p).length = 2 := by cases p <;> rfl
    have e1 : 2 * (i + 1) = (plc p).length + 2 * i := by omega
    have e2 : 2 * (i + 1) + 1 = (plc p).length + (2 * i + 1) := by omega
    rw [List.flatMap_cons, e2, e1]
    rw [List.getElem?_append_right (by omega), List.getElem?_append_right (by omega)]
    simpa using ih
theorem rowS_taken {P : List (Option Nat)} {i : Nat} {x : Option Nat} (h : P[i]? = some x) : (rowS P)[1 + 2 * i]? = some (.bool x.isSome) := by
  have := (plc_at P i x h).1
  rw [show 1 + 2 * i = 2 * i + 1 by omega]
  simpa [rowS] using this
theorem rowS_has {P : List (Option Nat)} {i : Nat} {x : Option Nat} (h : P[i]? = some x) : (rowS P)[2 + 2 * i]? = some (.pointer (x.map fun s => ⟨s, 0, none⟩)) := by
  have := (plc_at P i x h).2
  rw [show 2 + 2 * i = (2 * i + 1) + 1 by omega]
  simpa [rowS] using this
theorem plc_set : ∀ (P : List (Option Nat)) (i : Nat) (x : Option Nat), i < P.length → ((P.flatMap plc).set (2 * i) (.bool x.isSome)).set (2 * i + 1) (.pointer (x.map fun s => ⟨s, 0, none⟩)) = (P.set i x).flatMap plc
  | [], i, x, h => by simp at h
  | p :: P, 0, x, h => by cases p <;> cases x <;> simp [plc]
  | p :: P, i + 1, x, h => by
    have ih := plc_set P i x (by simpa using h)
    rw [List.set_cons_succ, List.flatMap_cons, List.flatMap_cons, show 2 * (i + 1) = 2 * i + 1 + 1 by omega]
    cases p <;> simp only [plc, List.cons_append, List.nil_append, List.set_cons_succ, ih]
theorem rowS_set {P : List (Option Nat)} {i : Nat} (h : i < P.length) (x : Option Nat) : ((rowS P).setIfInBounds (1 + i * 2) (.bool x.isSome)).setIfInBounds (1 + i * 2 + 1) (.pointer (x.map fun s => ⟨s, 0, none⟩)) = rowS (P.set i x) := by
  have := plc_set P i x h
  unfold rowS
  rw [← this, show 1 + i * 2 = 2 * i + 1 by omega]
  simp
theorem rowS_made (P : List (Option Nat)) : (rowS P)[0]? = some (.bool true) := by simp [rowS]
/-- The places of sessions, as one fact. -/
structure Sp (w : World) (t : Nat) (P : List (Option Nat)) : Prop where
  row : w.heap[t]? = some (.cells (rowS P) 28 (0, 0))
  len : P.length = 8
variable {w w' : World} {t : Nat} {P : List (Option Nat)}
theorem Sp.lt (h : Sp w t P) : t < w.heap.size := (Array.getElem?_eq_some_iff.1 h.row).1
theorem Sp.ext (h : Sp w t P) (hb : Below w.heap.size w w') : Sp w' t P := ⟨(hb.block t h.lt).trans h.row, h.len⟩
theorem Sp.made (h : Sp w t P) : w.cell? ⟨t, 0, none⟩ = some (.bool true) := (cell_of_row w t 0 _ 28 (0, 0) h.row).trans (rowS_made P)
theorem Sp.taken (h : Sp w t P) {i : Nat} {x : Option Nat} (hi : P[i]? = some x) : w.cell? ⟨t, 1 + i * 2, none⟩ = some (.bool x.isSome) := (cell_of_row w t _ _ 28 (0, 0) h.row).trans (by rw [Nat.mul_comm]; exact rowS_taken hi)
theorem Sp.has (h : Sp w t P) {i : Nat} {x : Option Nat} (hi : P[i]? = some x) : w.cell? ⟨t, 1 + i * 2 + 1, none⟩ = some (.pointer (x.map fun s => ⟨s, 0, none⟩)) := (cell_of_row w t _ _ 28 (0, 0) h.row).trans (by rw [show 1 + i * 2 + 1 = 2 + 2 * i by omega]; exact rowS_has hi)
theorem Sp.fz (h : Sp w t P) (j : Nat) : w.frozen? ⟨t, j, none⟩ = false := frozen_of_row w _ j _ 28 h.row
/-- A session that is not online: its row, its parts' row. -/
structure Sn (w : World) (s p g : Nat) (cl : ByteArray) (cn : Bool) : Prop where
  row : w.heap[s]? = some (.cells #[.string cl, .bool cn, .bool false, .pointer (some ⟨p, 0, none⟩)] 73 (0, 0))
  prow : ∃ f i : Value, w.heap[p]? = some (.cells #[.pointer (some ⟨g, 0, none⟩), f, i] 79 (0, 0))
variable {s p g : Nat} {cl : ByteArray} {cn : Bool}
theorem Sn.lts (h : Sn w s p g cl cn) : s < w.heap.size := (Array.getElem?_eq_some_iff.1 h.row).1
theorem Sn.ltp (h : Sn w s p g cl cn) : p < w.heap.size := by obtain ⟨f, i, h⟩ := h.prow; exact (Array.getElem?_eq_some_iff.1 h).1
theorem Sn.ext (h : Sn w s p g cl cn) (hb : Below w.heap.size w w') : Sn w' s p g cl cn := by
  obtain ⟨f, i, hp⟩ := h.prow
  exact ⟨(hb.block s h.lts).trans h.row, f, i, (hb.block p h.ltp).trans hp⟩
theorem Sn.s0 (h : Sn w s p g cl cn) : w.cell? ⟨s, 0, none⟩ = some (.string cl) := cell_of_row w _ 0 _ 73 (0, 0) h.row
theorem Sn.s1 (h : Sn w s p g cl cn) : w.cell? ⟨s, 1, none⟩ = some (.bool cn) := cell_of_row w _ 1 _ 73 (0, 0) h.row
theorem Sn.s2 (h : Sn w s p g cl cn) : w.cell? ⟨s, 2, none⟩ = some (.bool false) := cell_of_row w _ 2 _ 73 (0, 0) h.row
theorem Sn.s3 (h : Sn w s p g cl cn) : w.cell? ⟨s, 3, none⟩ = some (.pointer (some ⟨p, 0, none⟩)) := cell_of_row w _ 3 _ 73 (0, 0) h.row
theorem Sn.p0 (h : Sn w s p g cl cn) : w.cell? ⟨p, 0, none⟩ = some (.pointer (some ⟨g, 0, none⟩)) := by obtain ⟨f, i, hp⟩ := h.prow; exact cell_of_row w _ 0 _ 79 (0, 0) hp
set_option maxHeartbeats 8000000 in
theorem s_none (h : Sn w s p g cl cn) : Calls Try.prog 30 #[.pointer (some ⟨s, 0, none⟩)] w fun e w' => e = .returned (.bool false) ∧ w = w' := by
  have s3 := h.s3
  go_enter Try.func30, Try.ntmps30
  go_wp2_with fail
  go_ret
  exact ⟨rfl, rfl⟩
set_option maxHeartbeats 8000000 in
theorem s_client (h : Sn w s p g cl cn) : Calls Try.prog 18 #[.pointer (some ⟨s, 0, none⟩)] w fun e w' => e = .returned (.string cl) ∧ w = w' := by
  have s0 := h.s0
  have N := Lib.hid (s_none h)
  go_enter Try.func18, Try.ntmps18
  go_wp2_with fail
  refine N.out.mono ?_
  rintro e w1 ⟨rfl, rfl⟩
  go_wp2_with fail
  go_ret
  exact ⟨rfl, rfl⟩
set_option maxHeartbeats 8000000 in
theorem s_clean (h : Sn w s p g cl cn) : Calls Try.prog 17 #[.pointer (some ⟨s, 0, none⟩)] w fun e w' => e = .returned (.bool cn) ∧ w = w' := by
  have s1 := h.s1
  have N := Lib.hid (s_none h)
  go_enter Try.func17, Try.ntmps17
  go_wp2_with fail
  refine N.out.mono ?_
  rintro e w1 ⟨rfl, rfl⟩
  go_wp2_with fail
  go_ret
  exact ⟨rfl, rfl⟩
set_option maxHeartbeats 8000000 in
theorem s_fill (h : Sn w s p g cl cn) : Calls Try.prog 32 #[.pointer (some ⟨s, 0, none⟩)] w fun e w' => e = .returned (.slice none 0 0) ∧ w = w' := by
  have s2 := h.s2
  go_enter Try.func32, Try.ntmps32
  go_wp2_with fail
  go_loopw [3] (fun v wr => v = .slice none 0 0 ∧ wr = w) (fun _ _ => 0)
  case atStart => exact ⟨rfl, rfl⟩
  case round =>
    obtain ⟨rfl, rfl⟩ := hrel
    go_wp2_with fail
    go_ret
    exact ⟨rfl, rfl⟩
set_option maxHeartbeats 8000000 in
theorem none_no (h : Sp w t P) : Calls Try.prog 24 #[.pointer (some ⟨t, 0, none⟩)] w fun e w' => e = .returned (.bool false) ∧ w = w' := by
  have s0 := h.made
  go_enter Try.func24, Try.ntmps24
  go_wp2_with fail
  go_ret
  exact ⟨rfl, rfl⟩
end Go.Proofs.Ytdcfenkllpfbaaa.Sns
