/-
  LAYER 24: the search in a row that rises.
-/
import Derived.Test.YtceiipcdkonnlaaGreatProg
import Derived.Test.YtceiipcdkonnlaaGreatByt
import Derived.Test.YtceiipcdkonnlaaGreatFr
import Derived.WalkLawsBesides
import Derived.WalkSpells
import Derived.Deep.DeepMust
import Derived.Deep.DeepFit
import Derived.Deep.QuietTactic
import Derived.BigQuiet
import Derived.StillTailTactics
import Derived.Deep.RegionHeld3
import Derived.Outline
namespace Go.Proofs.YtceiipcdkonnlaaGreat.Inb
set_option linter.unusedSimpArgs false
set_option linter.unusedVariables false
open Go.RowKit

theorem less_any (x y : Int) (w : World) : Calls Tryz.prog 88 #[.int .i64 x, .int .i64 y] w fun e w' => e = .returned (.bool (decide (x < y))) ∧ w = w' := by
  by_cases h : x < y
  · go_enter Tryz.func88, Tryz.ntmps88
    go_wp2
    go_ret
    exact ⟨by simp [h], rfl⟩
  · go_enter Tryz.func88, Tryz.ntmps88
    go_wp2
    go_ret
    exact ⟨by simp [h], rfl⟩
theorem nan_any (x : Int) (w : World) : Calls Tryz.prog 89 #[.int .i64 x] w fun e w' => e = .returned (.bool false) ∧ w = w' := by
  go_enter Tryz.func89, Tryz.ntmps89
  go_wp2
  go_ret
  exact ⟨by simp, rfl⟩

def Sorted (l : List Int) : Prop := ∀ i j, i < j → j < l.length → l.getD i 0 < l.getD j 0
/-- p is t's place in l. -/
structure Pos (l : List Int) (t : Int) (p : Nat) : Prop where
  le : p ≤ l.length
  low : ∀ k, k < p → l.getD k 0 < t
  high : ∀ k, p ≤ k → k < l.length → t ≤ l.getD k 0
def FindPost (l : List Int) (t : Int) (w : World) (e : Ending) (w' : World) : Prop :=
  ∃ p : Nat, Pos l t p ∧ e = .returned (.tuple #[.int .i64 p, .bool (decide (p < l.length ∧ l.getD p 0 = t))]) ∧ w = w'
def BsRel (l : List Int) (t : Int) (i j : Value) : Prop :=
  ∃ a b : Nat, a ≤ b ∧ b ≤ l.length ∧ i = .int .i64 a ∧ j = .int .i64 b ∧ (∀ k, k < a → l.getD k 0 < t) ∧ (∀ k, b ≤ k → k < l.length → t ≤ l.getD k 0)

set_option maxRecDepth 100000 in
theorem bsearch (b o cap : Nat) (l : List Int) (t : Int) (w : World) (hs : Sorted l) (hl : l.length ≤ 16)
    (hc : ∀ i, i < l.length → w.cell? ⟨b, o + i, none⟩ = some (.int .i64 (l.getD i 0))) :
    Calls Tryz.prog 83 #[.slice (some ⟨b, o, none⟩) l.length cap, .int .i64 t] w (FindPost l t w) := by
  have HS := Lib.hid hs
  clear hs
  go_enter Tryz.func83, Tryz.ntmps83
  go_wp2
  go_loop [7, 8] (fun i j => BsRel l t i j) (fun i j => (intOf j).toNat - (intOf i).toNat)
  case atStart => exact ⟨0, l.length, by omega, by omega, rfl, rfl, by omega, by omega⟩
  case round =>
    obtain ⟨x, y, hxy, hy, rfl, rfl, hlo, hhi⟩ := hrel
    have HLO := Lib.hid hlo
    have HHI := Lib.hid hhi
    clear hlo hhi
    by_cases hlt : x < y
    · have hm : (x + y) / 2 < l.length := by omega
      have hcell := hc ((x + y) / 2) hm
      have HC := Lib.hid hc
      clear hc
      obtain ⟨c, hcd⟩ : ∃ c, c = l.getD ((x + y) / 2) 0 := ⟨_, rfl⟩
      rw [← hcd] at hcell
      have HCD := Lib.hid hcd
      clear hcd
      by_cases hcmp : c < t
      · go_wp2_with (go_at_call 88; refine (less_any _ _ _).mono ?_; rintro e w' ⟨rfl, rfl⟩)
        go_round
        case rel =>
          refine ⟨(x + y) / 2 + 1, y, by omega, hy, by go_num, rfl, fun k hk => ?_, HHI.out⟩
          by_cases hk2 : k = (x + y) / 2
          · subst hk2; rw [← HCD.out]; exact hcmp
          · have := HS.out k ((x + y) / 2) (by omega) hm
            rw [← HCD.out] at this
            omega
        case measure => simp [intOf]; omega
      · go_wp2_with (go_at_call 88; refine (less_any _ _ _).mono ?_; rintro e w' ⟨rfl, rfl⟩)
        go_round
        case rel =>
          refine ⟨x, (x + y) / 2, by omega, by omega, rfl, by go_num, HLO.out, fun k hk hkl => ?_⟩
          by_cases hk2 : k = (x + y) / 2
          · subst hk2; rw [← HCD.out]; omega
          · have := HS.out ((x + y) / 2) k (by omega) hkl
            rw [← HCD.out] at this
            omega
        case measure => simp [intOf]; omega
    · obtain rfl : x = y := by omega
      have hP : Pos l t x := ⟨hy, HLO.out, HHI.out⟩
      have HP := Lib.hid hP
      clear hP
      by_cases hxl : x < l.length
      · have hcell := hc x hxl
        have HC := Lib.hid hc
        clear hc
        obtain ⟨c, hcd⟩ : ∃ c, c = l.getD x 0 := ⟨_, rfl⟩
        rw [← hcd] at hcell
        have HCD := Lib.hid hcd
        clear hcd
        by_cases hct : c = t
        · subst hct
          go_wp2_with (go_at_call 89; refine (nan_any _ _).mono ?_; rintro e w' ⟨rfl, rfl⟩)
          go_ret2
          refine ⟨x, HP.out, ?_, rfl⟩
          rw [← HCD.out]
          simp [hxl]
        · have hb : (c == t) = false := beq_eq_false_iff_ne.2 hct
          go_wp2_with (go_at_call 89; refine (nan_any _ _).mono ?_; rintro e w' ⟨rfl, rfl⟩)
          go_ret2
          refine ⟨x, HP.out, ?_, rfl⟩
          rw [← HCD.out]
          simp [hct]
      · go_wp2_with (go_at_call 89; refine (nan_any _ _).mono ?_; rintro e w' ⟨rfl, rfl⟩)
        all_goals go_ret2
        all_goals refine ⟨x, HP.out, ?_, rfl⟩
        all_goals simp [hxl]
end Go.Proofs.YtceiipcdkonnlaaGreat.Inb

/-
  LAYER 24: an inbox in a block of its own; the search, exactly.
-/
namespace Go.Proofs.YtceiipcdkonnlaaGreat.Inb
set_option linter.unusedSimpArgs false
set_option linter.unusedVariables false
open Go.RowKit

def posOf (t : Int) : List Int → Nat
  | [] => 0
  | x :: r => if x < t then posOf t r + 1 else 0
theorem sorted_tail {x : Int} {r : List Int} (h : Sorted (x :: r)) : Sorted r := fun i j hij hj => by
  have := h (i + 1) (j + 1) (by omega) (by simpa using hj)
  simpa using this
theorem pos_of (t : Int) : ∀ l : List Int, Sorted l → Pos l t (posOf t l)
  | [], _ => ⟨by simp [posOf], by simp [posOf], by simp⟩
  | x :: r, h => by
    have ih := pos_of t r (sorted_tail h)
    unfold posOf
    split
    · rename_i hx
      refine ⟨by have := ih.le; simp; omega, ?_, ?_⟩
      · intro k hk
        cases k with
        | zero => simpa using hx
        | succ k => simpa using ih.low k (by omega)
      · intro k hk hkl
        cases k with
        | zero => omega
        | succ k => simpa using ih.high k (by omega) (by simpa using hkl)
    · rename_i hx
      refine ⟨by simp, by omega, ?_⟩
      intro k _ hkl
      cases k with
      | zero => simp; omega
      | succ k =>
        have := h 0 (k + 1) (by omega) hkl
        simp only [List.getD_cons_zero] at this
        omega
theorem pos_one {l : List Int} {t : Int} {p q : Nat} (h : Pos l t p) (k : Pos l t q) : p = q := by
  rcases Nat.lt_trichotomy p q with hlt | heq | hgt
  · have h1 := k.low p hlt
    have h2 := h.high p (Nat.le_refl _) (by have := k.le; omega)
    omega
  · exact heq
  · have h1 := h.low q hgt
    have h2 := k.high q (Nat.le_refl _) (by have := h.le; omega)
    omega
def foundIn (t : Int) (l : List Int) : Bool := decide (posOf t l < l.length ∧ l.getD (posOf t l) 0 = t)

theorem bsearch_is (b o cap : Nat) (l : List Int) (t : Int) (w : World) (hs : Sorted l) (hl : l.length ≤ 16)
    (hc : ∀ i, i < l.length → w.cell? ⟨b, o + i, none⟩ = some (.int .i64 (l.getD i 0))) :
    Calls Tryz.prog 83 #[.slice (some ⟨b, o, none⟩) l.length cap, .int .i64 t] w fun e w' => e = .returned (.tuple #[.int .i64 (posOf t l), .bool (foundIn t l)]) ∧ w' = w := by
  refine (bsearch b o cap l t w hs hl hc).mono ?_
  rintro e w' ⟨p, hp, rfl, rfl⟩
  obtain rfl := pos_one hp (pos_of t l hs)
  exact ⟨rfl, rfl⟩

/-- The inbox in block g: its sixteen places, how many of them count. -/
structure Box (w : World) (g : Nat) (xs : List Int) (n : Nat) : Prop where
  row : w.heap[g]? = some (.cells (.bool true :: .int .i64 n :: xs.map (Value.int .i64)).toArray 102 (0, 0))
  len : xs.length = 16
  le : n ≤ 16
theorem Box.cell {w : World} {g : Nat} {xs : List Int} {n : Nat} (h : Box w g xs n) (i : Nat) (hi : i < 16) : w.cell? ⟨g, 2 + i, none⟩ = some (.int .i64 (xs.getD i 0)) := by
  rw [cell_of_row w g _ _ 102 (0, 0) h.row]
  simp [Nat.add_comm 2 i, h.len, hi]
theorem Box.made {w : World} {g : Nat} {xs : List Int} {n : Nat} (h : Box w g xs n) : w.cell? ⟨g, 0, none⟩ = some (.bool true) := by
  rw [cell_of_row w g _ _ 102 (0, 0) h.row]; simp
theorem Box.count {w : World} {g : Nat} {xs : List Int} {n : Nat} (h : Box w g xs n) : w.cell? ⟨g, 1, none⟩ = some (.int .i64 n) := by
  rw [cell_of_row w g _ _ 102 (0, 0) h.row]; simp
theorem Box.free {w : World} {g : Nat} {xs : List Int} {n : Nat} (h : Box w g xs n) (i : Nat) : w.frozen? ⟨g, i, none⟩ = false := frozen_of_row w g i _ 102 h.row
theorem Box.lt {w : World} {g : Nat} {xs : List Int} {n : Nat} (h : Box w g xs n) : g < w.heap.size := (Array.getElem?_eq_some_iff.1 h.row).1
theorem Box.keep {w w' : World} {g : Nat} {xs : List Int} {n : Nat} (h : Box w g xs n) {B : Nat} (hb : Below B w w') (hB : g < B) : Box w' g xs n := ⟨(hb.block g hB).trans h.row, h.len, h.le⟩

theorem alen97 : Tryz.prog.arrayLen 100 = 16 := by kernel_rfl
set_option maxRecDepth 100000 in
theorem find_is (g n : Nat) (xs : List Int) (t : Int) (w : World) (h : Box w g xs n) (hs : Sorted (xs.take n)) :
    Calls Tryz.prog 76 #[.pointer (some ⟨g, 0, none⟩), .int .i64 t] w fun e w' => e = .returned (.tuple #[.int .i64 (posOf t (xs.take n)), .bool (foundIn t (xs.take n))]) ∧ ∃ k, w' = w.drewN k := by
  have hn := h.le
  have hl : (xs.take n).length = n := by simp [h.len]; omega
  have hbs := fun W (hW : ∀ i, i < n → W.cell? ⟨g, 2 + i, none⟩ = some (.int .i64 ((xs.take n).getD i 0))) => bsearch_is g 2 16 (xs.take n) t W hs (by omega) (by rw [hl]; exact hW)
  rw [hl] at hbs
  have hcells : ∀ i, i < n → w.cell? ⟨g, 2 + i, none⟩ = some (.int .i64 ((xs.take n).getD i 0)) := fun i hi => by
    rw [h.cell i (by omega)]; simp [hi]
  have HBS := Lib.hid hbs
  have HC := Lib.hid hcells
  have c1 := h.count
  have al := alen97
  have hn' : (n : Int) ≤ 16 := by omega
  clear hbs hcells hl hs h
  go_enter Tryz.func76, Tryz.ntmps76
  go_wp2
  go_quiet ((go_at_call 83; exact Calls.quiet_of_same (HBS.out _ HC.out)))
  go_wp2
  go_ret2
  exact ⟨rfl, _, rfl⟩

/-! ### What a change of a place leaves -/
theorem Box.set {w : World} {g : Nat} {xs : List Int} {n : Nat} (h : Box w g xs n) (i : Nat) (x : Int) : Box (w.setCell ⟨g, 2 + i, none⟩ (.int .i64 x)) g (xs.set i x) n := by
  refine ⟨?_, by simpa using h.len, h.le⟩
  rw [heap_setCell_same w g (2 + i) _ 102 _ h.row]
  simp [Nat.add_comm 2 i, List.map_set]
theorem Box.recount {w : World} {g : Nat} {xs : List Int} {n : Nat} (h : Box w g xs n) (m : Nat) (hm : m ≤ 16) : Box (w.setCell ⟨g, 1, none⟩ (.int .i64 m)) g xs m := by
  refine ⟨?_, h.len, hm⟩
  rw [heap_setCell_same w g 1 _ 102 _ h.row]
  simp
end Go.Proofs.YtceiipcdkonnlaaGreat.Inb
