/-
  LAYER 15: the number ahead, read by both sides.
-/
import Derived.Test.YtkohlbafpljfjaaSf
import Derived.Laws.IdiomStrings
import Derived.WalkSpells
import Derived.StillTailTactics
import Derived.Deep.QuietTactic
import Derived.BigQuiet
namespace Go.Proofs.Ytkohlbafpljfjaa
set_option linter.unusedSimpArgs false
set_option linter.unusedVariables false
open Go.RowKit

theorem txt_lt (s : ByteArray) : ∀ x ∈ txtL s, x < 256 := by
  intro x hx
  simp only [txtL, List.mem_map] at hx
  obtain ⟨u, _, rfl⟩ := hx
  exact UInt8.toNat_lt _
/-- A string's bytes in a row of their own. -/
theorem bytes_of (s : ByteArray) (w : World) : ∃ v w', (convert 9 23 (.string s)).run Try.prog w = .ok v w' ∧ BytesAt w' v (txtL s) ∧ Below w.heap.size w w' := by
  refine ⟨_, _, run_bytes_of_string w 9 23 5 s Try.underlying9 Try.underlying23 Try.underlying5, ?_, (Below.refl _ _).drew.alloc (Nat.le_refl _) _⟩
  have hcap : s.size ≤ grownCap w s.size 0 5 := by
    exact grownCap_ge _ _ _ _
  refine ⟨some ⟨w.heap.size, 0, none⟩, _, by rw [txtL_length], ⟨by rw [txtL_length]; exact hcap, fun h => by cases h⟩, .inr ⟨w.heap.size, 0, rfl, by simp, fun i hi => ?_⟩⟩
  rw [txtL_length] at hi
  have hi' : i < s.data.size := hi
  have := cell_of_row (w.drew.alloc (.cells (bytesRow s (grownCap w s.size 0 5)) 5 ((bytesRow s (grownCap w s.size 0 5)).size, (bytesRow s (grownCap w s.size 0 5)).size + 1))) w.heap.size (0 + i) _ 5 _ (heap_alloc_new _ _)
  rw [this, Nat.zero_add, bytesRow_at s _ i hi']
  simp [txtL, List.getD, Array.getElem?_eq_getElem hi']
/-- The number ahead, or why there is none. -/
def numV (l : List Nat) : Int × Int := if l.length < 2 then (0, 2) else if 256 * l.getD 0 0 + l.getD 1 0 = 0 then (0, 1) else (((256 * l.getD 0 0 + l.getD 1 0 : Nat) : Int), 0)
theorem get2_0 (l : List Nat) : get2V l 0 = if l.length < 2 then (0, 0, 2) else (((256 * l.getD 0 0 + l.getD 1 0 : Nat) : Int), 2, 0) := by
  unfold get2V
  by_cases h : l.length < 2
  · rw [if_neg (by omega), if_pos (by omega), if_pos h]
  · rw [if_neg (by omega), if_neg (by omega), if_neg h]; simp
def Num2 (r : Int × Int) (w : World) (e : Ending) (w' : World) : Prop := e = .returned (.tuple #[.int .i64 r.1, .int .i64 r.2]) ∧ Below w.heap.size w w'
set_option maxHeartbeats 1000000 in
set_option maxRecDepth 100000 in
theorem number_any (v : Value) (l : List Nat) (w : World) (hb : BytesAt w v l) (h256 : ∀ x ∈ l, x < 256) (hl : l.length ≤ 140737488355328) : Calls Try.prog 28 #[v] w (Num2 (numV l) w) := by
  have G := get2_any v l 0 w hb h256 hl (by decide)
  rw [get2_0] at G
  unfold numV
  obtain ⟨a, cap, rfl, -⟩ := hb
  by_cases h : l.length < 2
  · rw [if_pos h] at G ⊢
    simp only at G
    replace G := Lib.hid G
    go_enter Try.func28, Try.ntmps28
    go_wp2_with fail
    refine G.out.mono ?_
    rintro e w' ⟨rfl, n, rfl⟩
    go_wp2_with fail
    go_ret2
    exact ⟨rfl, below_drewN (Below.refl _ _) n⟩
  · rw [if_neg h] at G ⊢
    simp only at G
    generalize 256 * l.getD 0 0 + l.getD 1 0 = m at *
    replace G := Lib.hid G
    by_cases hm : m = 0
    · subst hm
      go_enter Try.func28, Try.ntmps28
      go_wp2_with fail
      refine G.out.mono ?_
      rintro e w' ⟨rfl, n, rfl⟩
      go_wp2_with fail
      go_ret2
      exact ⟨rfl, below_drewN (Below.refl _ _) n⟩
    · rw [if_neg hm]
      have hd : ((m : Int) == 0) = false := by rw [beq_eq_false_iff_ne]; omega
      replace hm := Lib.hid hm
      go_enter Try.func28, Try.ntmps28
      go_wp2_with fail
      refine G.out.mono ?_
      rintro e w' ⟨rfl, n, rfl⟩
      go_wp2_with fail
      go_ret2
      exact ⟨rfl, below_drewN (Below.refl _ _) n⟩
set_option maxHeartbeats 1000000 in
set_option maxRecDepth 100000 in
theorem rofid_any (s : ByteArray) (w : World) (h : s.size = 2) : Calls Try.prog 55 #[.string s] w (Num2 (numV (txtL s)) w) := by
  obtain ⟨v, w1, hconv, a1, b1⟩ := bytes_of s w
  have G := rget2_any v (txtL s) 0 w1 a1 (txt_lt s) (by rw [txtL_length]; omega) (by decide)
  rw [get2_0, if_neg (by rw [txtL_length]; omega)] at G
  unfold numV
  rw [if_neg (by rw [txtL_length]; omega)]
  simp only at G
  obtain ⟨x, c, rfl, -, -⟩ := a1
  generalize 256 * (txtL s).getD 0 0 + (txtL s).getD 1 0 = m at *
  have h' : ((s.size : Int) != 2) = false := by simp; omega
  replace G := Lib.hid G
  replace b1 := Lib.hid b1
  replace h := Lib.hid h
  by_cases hm : m = 0
  · subst hm
    go_enter Try.func55, Try.ntmps55
    go_wp2_with fail
    refine G.out.mono ?_
    rintro e w' ⟨rfl, n, rfl⟩
    go_wp2_with fail
    go_ret2
    exact ⟨rfl, below_drewN b1.out n⟩
  · rw [if_neg hm]
    have hd : ((m : Int) == 0) = false := by rw [beq_eq_false_iff_ne]; omega
    replace hm := Lib.hid hm
    go_enter Try.func55, Try.ntmps55
    go_wp2_with fail
    refine G.out.mono ?_
    rintro e w' ⟨rfl, n, rfl⟩
    go_wp2_with fail
    go_ret2
    exact ⟨rfl, below_drewN b1.out n⟩
theorem txt_two (s : ByteArray) (h : 2 ≤ s.size) : numV (txtL (s.extract 0 2)) = numV (txtL s) ∧ (s.extract 0 2).size = 2 := by
  have hx : txtL (s.extract 0 2) = (txtL s).take 2 := by
    unfold txtL
    rw [Lib.extract_data]
    simp [List.map_take]
  have hs : (s.extract 0 2).size = 2 := by rw [ByteArray.size_extract]; omega
  refine ⟨?_, hs⟩
  unfold numV
  rw [if_neg (show ¬ (txtL (s.extract 0 2)).length < 2 by rw [txtL_length]; omega), if_neg (show ¬ (txtL s).length < 2 by rw [txtL_length]; omega), hx]
  have g : ∀ i, i < 2 → ((txtL s).take 2).getD i 0 = (txtL s).getD i 0 := fun i hi => by simp [List.getD, List.getElem?_take, hi]
  rw [g 0 (by omega), g 1 (by omega)]
set_option maxHeartbeats 1000000 in
set_option maxRecDepth 100000 in
theorem rbegin_any (s : ByteArray) (w : World) (hs : s.size ≤ 140737488351232) : Calls Try.prog 30 #[.string s] w (Num2 (numV (txtL s)) w) := by
  have hs' : (s.size : Int) ≤ 140737488351232 := by omega
  by_cases h : s.size < 2
  · have e : numV (txtL s) = (0, 2) := by unfold numV; rw [if_pos (by rw [txtL_length]; omega)]
    rw [e]
    have h' : (s.size : Int) < 2 := by omega
    clear e
    go_enter Try.func30, Try.ntmps30
    go_wp2
    go_ret2
    exact ⟨rfl, Below.refl _ _⟩
  · have h' : 2 ≤ (s.size : Int) := by omega
    obtain ⟨e, e2⟩ := txt_two s (by omega)
    have G := Lib.hid (fun w => rofid_any (s.extract 0 2) w e2)
    rw [e] at G
    generalize numV (txtL s) = r at *
    clear e e2 h
    go_enter Try.func30, Try.ntmps30
    go_wp2_with fail
    refine (G.out _).mono ?_
    rintro e w' ⟨rfl, hb⟩
    go_wp2_with fail
    go_ret2
    exact ⟨rfl, hb⟩
end Go.Proofs.Ytkohlbafpljfjaa
