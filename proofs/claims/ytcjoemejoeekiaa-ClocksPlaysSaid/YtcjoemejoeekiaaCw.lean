/-
  LAYER 26: the document's clocks: an array of eight times.
-/
import Derived.Test.YtcjoemejoeekiaaCt
namespace Go.Proofs.Ytcjoemejoeekiaa.Cl
open Go.RowKit Go.Maps Que Hp Hg
def ft : Option Int → Int
  | none => -1
  | some d => d
/-- The document's clocks in block p. -/
def Xd (w : World) (p : Nat) (L : List Tm) : Prop := w.heap[p]? = some (.cells (row8 ft L) 41 (0, 0))
section
variable {w w' : World} {p : Nat} {L : List Tm}
theorem Xd.at (h : Xd w p L) {k : Nat} (hk : k < 8) : w.cell? ⟨p, k, none⟩ = some (.int .i64 (ft (dueL L (k : Int)))) := by
  rw [cell_of_row w p k _ 41 (0, 0) h, row8_at ft L hk]
theorem Xd.fz (h : Xd w p L) (k : Nat) : w.frozen? ⟨p, k, none⟩ = false := frozen_of_row w p k _ 41 h
theorem Xd.lt (h : Xd w p L) : p < w.heap.size := (Array.getElem?_eq_some_iff.1 h).1
theorem Xd.keep (h : Xd w p L) (hb : Below w.heap.size w w') : Xd w' p L := (hb.block p h.lt).trans h
theorem Xd.put (h : Xd w p L) (k : Nat) (d : Int) : Xd (w.setCell ⟨p, k, none⟩ (.int .i64 d)) p (putL L (k : Int) d) := by
  have := heap_setCell_same w p k _ 41 (.int .i64 d) h
  rw [show (Value.int .i64 d) = .int .i64 (ft (some d)) from rfl, row8_put] at this
  exact this
theorem Xd.del (h : Xd w p L) (k : Nat) : Xd (w.setCell ⟨p, k, none⟩ (.int .i64 (-1))) p (delL L (k : Int)) := by
  have := heap_setCell_same w p k _ 41 (.int .i64 (-1)) h
  rw [show (Value.int .i64 (-1)) = .int .i64 (ft none) from rfl, row8_del] at this
  exact this
theorem set_p (w : World) (p j : Nat) (u : Value) : Far (fun k => k = p) w (w.setCell ⟨p, j, none⟩ u) := ⟨rfl, rfl, rfl, by simp [World.setCell], fun q _ hq => Below.heap_setCell _ _ _ _ hq⟩
set_option maxRecDepth 100000 in
theorem xset (h : Xd w p L) (who due : Int) : Calls Try.prog 15 #[.pointer (some ⟨p, 0, none⟩), .int .i64 who, .int .i64 due] w fun e w' => e = .returned (.int .i64 (setE who due)) ∧ Xd w' p (if setE who due = 0 then putL L who due else L) ∧ Far (fun k => k = p) w w' := by
  by_cases h1 : who < 0 ∨ 8 ≤ who
  · have he : setE who due = 1 := if_pos h1
    rw [he]
    have Z : Hid (Xd w p (if (1 : Int) = 0 then putL L who due else L)) := Lib.hid h
    clear he h
    by_cases h0 : who < 0
    · clear h1
      go_enter Try.func15, Try.ntmps15
      go_wp2
      go_ret
      exact ⟨rfl, Z.out, Far.refl _ _⟩
    · have h2 : 8 ≤ who := by omega
      clear h1
      go_enter Try.func15, Try.ntmps15
      go_wp2
      go_ret
      exact ⟨rfl, Z.out, Far.refl _ _⟩
  · have h2 : ¬ who < 0 := by omega
    have h3 : ¬ 8 ≤ who := by omega
    by_cases h4 : due < 0
    · have he : setE who due = 5 := by unfold setE; rw [if_neg h1, if_pos h4]
      rw [he]
      have Z : Hid (Xd w p (if (5 : Int) = 0 then putL L who due else L)) := Lib.hid h
      clear he h h1
      go_enter Try.func15, Try.ntmps15
      go_wp2
      go_ret
      exact ⟨rfl, Z.out, Far.refl _ _⟩
    · have he : setE who due = 0 := by unfold setE; rw [if_neg h1, if_neg h4]
      rw [he, if_pos rfl]
      obtain ⟨k, rfl⟩ : ∃ k : Nat, who = (k : Int) := ⟨who.toNat, by omega⟩
      have k8 : (k : Int) < 8 := by omega
      have cc := h.at (k := k) (by omega)
      have fz := h.fz k
      have Z := Lib.hid (h.put k due)
      have al := alen39
      clear h h1 he
      go_enter Try.func15, Try.ntmps15
      go_wp2
      go_ret
      exact ⟨rfl, Z.out, set_p _ _ _ _⟩
set_option maxRecDepth 100000 in
theorem xdrop (h : Xd w p L) (hr : ∀ x ∈ L, 0 ≤ x.k ∧ x.k < 8 ∧ 0 ≤ x.d) (who : Int) : Calls Try.prog 17 #[.pointer (some ⟨p, 0, none⟩), .int .i64 who] w fun e w' => e = .returned (.bool (dueL L who).isSome) ∧ Xd w' p (delL L who) ∧ Far (fun k => k = p) w w' := by
  by_cases h1 : who < 0 ∨ 8 ≤ who
  · have hno : ∀ x ∈ L, x.k ≠ who := fun x hx e => by have := hr x hx; omega
    rw [dueL_no hno, delL_no hno]
    have Z := Lib.hid h
    clear h hno hr
    by_cases h0 : who < 0
    · clear h1
      go_enter Try.func17, Try.ntmps17
      go_wp2
      go_ret
      exact ⟨rfl, Z.out, Far.refl _ _⟩
    · have h2 : 8 ≤ who := by omega
      clear h1
      go_enter Try.func17, Try.ntmps17
      go_wp2
      go_ret
      exact ⟨rfl, Z.out, Far.refl _ _⟩
  · have h2 : ¬ who < 0 := by omega
    have h3 : ¬ 8 ≤ who := by omega
    obtain ⟨k, rfl⟩ : ∃ k : Nat, who = (k : Int) := ⟨who.toNat, by omega⟩
    have k8 : (k : Int) < 8 := by omega
    have cc := h.at (k := k) (by omega)
    have al := alen39
    cases hd : dueL L (k : Int) with
    | none =>
      rw [hd] at cc
      have Z : Hid (Xd w p (delL L (k : Int))) := Lib.hid (by rw [delL_no (dueL_none hd)]; exact h)
      replace cc : w.cell? ⟨p, k, none⟩ = some (.int .i64 (-1)) := cc
      clear h hd hr h1
      go_enter Try.func17, Try.ntmps17
      go_wp2
      go_ret
      exact ⟨rfl, Z.out, Far.refl _ _⟩
    | some d =>
      rw [hd] at cc
      replace cc : w.cell? ⟨p, k, none⟩ = some (.int .i64 d) := cc
      have d0 : ¬ d < 0 := by have := hr _ (dueL_some hd); simp only at this; omega
      have fz := h.fz k
      have Z := Lib.hid (h.del k)
      clear h hd hr h1
      go_enter Try.func17, Try.ntmps17
      go_wp2
      go_ret
      exact ⟨rfl, Z.out, set_p _ _ _ _⟩
/-- The best among the first i. -/
def Best (L : List Tm) (i : Nat) (o : Int) : Prop :=
  (o = -1 ∧ ∀ j : Nat, j < i → dueL L (j : Int) = none) ∨ ∃ (k : Nat) (d : Int), o = (k : Int) ∧ k < i ∧ dueL L (k : Int) = some d ∧ ∀ (j : Nat) (e : Int), j < i → dueL L (j : Int) = some e → d * 8 + (k : Int) ≤ e * 8 + (j : Int)
set_option maxHeartbeats 2000000 in
set_option maxRecDepth 100000 in
theorem xbest (h : Xd w p L) (hr : ∀ x ∈ L, 0 ≤ x.k ∧ x.k < 8 ∧ 0 ≤ x.d) : Calls Try.prog 45 #[.pointer (some ⟨p, 0, none⟩)] w fun e w' => (∃ o, e = .returned (.int .i64 o) ∧ Best L 8 o) ∧ Below w.heap.size w w' := by
  have al := alen39
  have HH := Lib.hid h
  clear h
  replace hr := Lib.hid hr
  go_enter Try.func45, Try.ntmps45
  go_wp2_with fail
  go_loopw [3, 4] (fun ov iv wr => ∃ (i : Nat) (o : Int), ov = .int .i64 o ∧ iv = .int .i64 (i : Int) ∧ i ≤ 8 ∧ Best L i o ∧ Below w.heap.size w wr) (fun _ iv _ => 8 - (intOf iv).toNat)
  case atStart => exact ⟨0, -1, rfl, rfl, by omega, .inl ⟨rfl, fun j hj => by omega⟩, Below.refl _ _⟩
  case round =>
    obtain ⟨i, o, rfl, rfl, hi, hB, hb⟩ := hrel
    by_cases hlt : i < 8
    · have hlt' : (i : Int) < 8 := by omega
      have X := HH.out.keep hb
      have c1 := X.at hlt
      cases hd : dueL L (i : Int) with
      | none =>
        rw [hd] at c1
        replace c1 : wr.cell? ⟨p, i, none⟩ = some (.int .i64 (-1)) := c1
        have B2 : Hid (Best L (i + 1) o) := Lib.hid (by
          rcases hB with ⟨h1, h2⟩ | ⟨k, d, h1, h2, h3, h4⟩
          · exact .inl ⟨h1, fun j hj => by
              by_cases e : j = i
              · subst e; exact hd
              · exact h2 j (by omega)⟩
          · exact .inr ⟨k, d, h1, by omega, h3, fun j e hj hje => by
              by_cases e2 : j = i
              · subst e2; rw [hd] at hje; cases hje
              · exact h4 j e (by omega) hje⟩)
        replace hb := Lib.hid hb
        clear X hd hB
        go_wp2_with fail
        go_quiet (fail)
        go_wp2_with fail
        go_roundw
        case rel => exact ⟨i + 1, o, rfl, by simp, by omega, B2.out, below_drewN hb.out _⟩
        case measure => simp [intOf]; omega
      | some di =>
        rw [hd] at c1
        replace c1 : wr.cell? ⟨p, i, none⟩ = some (.int .i64 di) := c1
        have d0 : ¬ di < 0 := by have := hr.out _ (dueL_some hd); simp only at this; omega
        rcases hB with ⟨rfl, h2⟩ | ⟨k, d, rfl, h2, h3, h4⟩
        · have B2 : Hid (Best L (i + 1) (i : Int)) := Lib.hid (.inr ⟨i, di, rfl, by omega, hd, fun j e hj hje => by
            by_cases e2 : j = i
            · subst e2; rw [hd] at hje; cases hje; omega
            · rw [h2 j (by omega)] at hje; cases hje⟩)
          replace hb := Lib.hid hb
          clear X hd h2
          go_wp2_with fail
          go_quiet (fail)
          go_wp2_with fail
          go_roundw
          case rel => exact ⟨i + 1, (i : Int), rfl, by simp, by omega, B2.out, below_drewN hb.out _⟩
          case measure => simp [intOf]; omega
        · have c2 := X.at (k := k) (by omega)
          rw [h3] at c2
          replace c2 : wr.cell? ⟨p, k, none⟩ = some (.int .i64 d) := c2
          have k8 : (k : Int) < 8 := by omega
          have kn : ¬ (k : Int) < 0 := by omega
          by_cases hlt2 : di < d
          · have B2 : Hid (Best L (i + 1) (i : Int)) := Lib.hid (.inr ⟨i, di, rfl, by omega, hd, fun j e hj hje => by
              by_cases e2 : j = i
              · subst e2; rw [hd] at hje; cases hje; omega
              · have := h4 j e (by omega) hje; omega⟩)
            replace hb := Lib.hid hb
            clear X hd h3 h4
            go_wp2_with fail
            go_quiet (fail)
            go_wp2_with fail
            go_roundw
            case rel => exact ⟨i + 1, (i : Int), rfl, by simp, by omega, B2.out, below_drewN hb.out _⟩
            case measure => simp [intOf]; omega
          · have B2 : Hid (Best L (i + 1) (k : Int)) := Lib.hid (.inr ⟨k, d, rfl, by omega, h3, fun j e hj hje => by
              by_cases e2 : j = i
              · subst e2; rw [hd] at hje; cases hje; omega
              · exact h4 j e (by omega) hje⟩)
            replace hb := Lib.hid hb
            clear X hd h3 h4
            go_wp2_with fail
            go_quiet (fail)
            go_wp2_with fail
            go_roundw
            case rel => exact ⟨i + 1, (k : Int), rfl, by simp, by omega, B2.out, below_drewN hb.out _⟩
            case measure => simp [intOf]; omega
    · obtain rfl : i = 8 := by omega
      have HBe := Lib.hid hB
      replace hb := Lib.hid hb
      clear hB
      go_wp2_with fail
      go_ret
      exact ⟨⟨o, rfl, HBe.out⟩, hb.out⟩
end
end Go.Proofs.Ytcjoemejoeekiaa.Cl
