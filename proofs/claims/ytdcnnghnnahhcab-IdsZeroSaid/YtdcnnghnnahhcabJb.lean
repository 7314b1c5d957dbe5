/-
  IdsZero: free, where nothing came back.
-/
import Derived.Test.YtdcnnghnnahhcabJa
import Derived.Maps.AppendAt
import Derived.Lib.SmallJoins
namespace Go.Proofs.Ytdcnnghnnahhcab
open Go.RowKit

theorem info4 : (Try.prog.info? 4).map (fun i => (i.zero, i.size, i.bytes)) = some (some (.bool false), 1, 1) := by kernel_rfl
theorem m_leni0 (g : Nat) (w : World) : (method 334 91 (.pointer (some ⟨g, 2, none⟩)) "Len").run Try.prog w = ((do let v ← loadVar 25 ⟨g, 2, none⟩; pure (198, v)) : Sem (FuncId × Value)).run Try.prog w := by kernel_rfl
theorem m_leni (g : Nat) (w : World) (v : Value) (hc : w.cell? ⟨g, 2, none⟩ = some v) : (method 334 91 (.pointer (some ⟨g, 2, none⟩)) "Len").run Try.prog w = .ok (198, v) w := by
  rw [m_leni0]
  simp [go_sem, hc]

def Ob (w : World) (g : Nat) (tv bv : Value) (c : Int) : Prop := w.heap[g]? = some (.cells #[.int .i64 3, tv, bv, .int .i64 c] 27 (0, 0))
theorem Ob.c0 {w : World} {g : Nat} {tv bv : Value} {c : Int} (h : Ob w g tv bv c) : w.cell? ⟨g, 0, none⟩ = some (.int .i64 3) := cell_of_row w g 0 _ 27 (0, 0) h
theorem Ob.c1 {w : World} {g : Nat} {tv bv : Value} {c : Int} (h : Ob w g tv bv c) : w.cell? ⟨g, 1, none⟩ = some tv := cell_of_row w g 1 _ 27 (0, 0) h
theorem Ob.c2 {w : World} {g : Nat} {tv bv : Value} {c : Int} (h : Ob w g tv bv c) : w.cell? ⟨g, 2, none⟩ = some bv := cell_of_row w g 2 _ 27 (0, 0) h
theorem Ob.c3 {w : World} {g : Nat} {tv bv : Value} {c : Int} (h : Ob w g tv bv c) : w.cell? ⟨g, 3, none⟩ = some (.int .i64 c) := cell_of_row w g 3 _ 27 (0, 0) h
theorem Ob.fz {w : World} {g : Nat} {tv bv : Value} {c : Int} (h : Ob w g tv bv c) (j : Nat) : w.frozen? ⟨g, j, none⟩ = false := frozen_of_row _ _ _ _ 27 h
theorem Ob.lt {w : World} {g : Nat} {tv bv : Value} {c : Int} (h : Ob w g tv bv c) : g < w.heap.size := by
  unfold Ob at h
  by_cases hh : g < w.heap.size
  · exact hh
  · rw [Array.getElem?_eq_none (by omega)] at h; cases h

theorem Ob.set1 {w : World} {g : Nat} {tv bv : Value} {c : Int} (h : Ob w g tv bv c) (v : Value) : Ob (w.setCell ⟨g, 1, none⟩ v) g v bv c := by
  unfold Ob at *
  rw [heap_setCell_same w g 1 _ 27 _ h]
  simp
theorem Ob.set2 {w : World} {g : Nat} {tv bv : Value} {c : Int} (h : Ob w g tv bv c) (v : Value) : Ob (w.setCell ⟨g, 2, none⟩ v) g tv v c := by
  unfold Ob at *
  rw [heap_setCell_same w g 2 _ 27 _ h]
  simp
theorem Ob.set3 {w : World} {g : Nat} {tv bv : Value} {c : Int} (h : Ob w g tv bv c) (d : Int) : Ob (w.setCell ⟨g, 3, none⟩ (.int .i64 d)) g tv bv d := by
  unfold Ob at *
  rw [heap_setCell_same w g 3 _ 27 _ h]
  simp
theorem Ob.kept {w w' : World} {g : Nat} {tv bv : Value} {c : Int} {row : Option Nat} (h : Ob w g tv bv c) (hg : w.grownBy w' row) (hne : row ≠ some g) : Ob w' g tv bv c := by
  have hl := h.lt
  unfold Ob at *
  rw [hg.block g hl (fun e => hne e.symm)]
  exact h
theorem gset (w : World) (g j : Nat) (v : Value) : w.grownBy (w.setCell ⟨g, j, none⟩ v) (some g) :=
  ⟨rfl, rfl, rfl, by simp, fun k hk hne => heap_setCell_other w ⟨g, j, none⟩ k v (fun e => hne (by rw [e]))⟩

theorem leni_nil (w : World) : Calls Try.prog 198 #[.slice none 0 0] w fun e w' => e = .returned (.int .i64 0) ∧ w = w' := by
  go_enter Try.func198, Try.ntmps198
  go_wp2
  go_ret
  exact ⟨rfl, rfl⟩

def FreePost (B g n : Nat) (ts : List Value) (bv : Value) (c : Int) (w : World) (e : Ending) (w' : World) : Prop :=
  e = .returned (.int .i64 (n + 1 : Nat)) ∧ ∃ g1 e1, Ob w' g (.slice (some ⟨g1, 0, none⟩) (n + 1) e1) bv c ∧ w'.ownsRow B 4 1 (.slice (some ⟨g1, 0, none⟩) (n + 1) e1) (n + 1) (ts ++ [.bool false]) ∧ g1 ≠ g ∧ Below B w w'

set_option maxHeartbeats 2000000 in
set_option maxRecDepth 100000 in
theorem free_nil (B g n : Nat) (ts : List Value) (tv : Value) (c : Int) (w : World) (hn : n ≤ 2) (ho : Ob w g tv (.slice none 0 0) c) (hr : w.ownsRow B 4 1 tv n ts) (hd : tv.ownBlock ≠ some g) (hB : B ≤ g) :
    Calls Try.prog 51 #[.pointer (some ⟨g, 0, none⟩), .iface 91 (.pointer (some ⟨g, 2, none⟩))] w (FreePost B g n ts (.slice none 0 0) c w) := by
  have kl := m_leni g w _ ho.c2
  have c1 := ho.c1
  have hg := ho.lt
  obtain ⟨i0, hi, hz0, hz1, hz2⟩ := info_parts info4
  go_enter Try.func51, Try.ntmps51
  have ho1 : Ob (w.alloc (.cells #[.bool false] 4)) g tv (.slice none 0 0) c := ho.kept (World.grownBy_alloc w _ none) (by simp)
  have hr1 := hr.alloc (.cells #[.bool false] 4)
  go_wp2_with (first | (go_at_call 198; refine (leni_nil _).mono ?_; rintro e w' ⟨rfl, rfl⟩) | (at_builtin; go_must (refine wpList_append_own_at _ rfl (.tmp 15) (.tmp 16) 23 rfl B 4 i0 (.bool false) 1 1 Try.underlying23 hi hz0 hz1 hz2 rfl (by decide) tv n ts (by first | rfl | assumption) hr1 ⟨w.heap.size, 0, none⟩ 1 1 [.bool false] rfl rfl (cell_one_new _ _ _) (by intro u hu; simp at hu; subst hu; rfl) (by unfold maxLen; omega) (by omega) (by simp; omega) ?_); intro v1 w1 hown1 hgrow1 hnil1 hat1; obtain ⟨g1, e1, rfl⟩ := Joins.ownsRow_form hown1 (by omega); have ho2 := ho1.kept hgrow1 hd; have d1 := ho2.c1; have z1 := ho2.fz 1; have ho3 := ho2.set1 (.slice (some ⟨g1, 0, none⟩) (n + 1) e1); have d3 := ho3.c1))
  all_goals go_ret
  have hne : (some g1 : Option Nat) ≠ some g := by
    rcases hat1 with h | h
    · rw [show (Value.slice (some ⟨g1, 0, none⟩) (n + 1) e1).ownBlock = some g1 from rfl] at h
      rw [h]; exact hd
    · rw [show (Value.slice (some ⟨g1, 0, none⟩) (n + 1) e1).ownBlock = some g1 from rfl] at h
      rw [h]; simp; omega
  refine ⟨rfl, _, _, ho3, hown1.kept (gset w1 g 1 _) (.inr hne), fun e => hne (by rw [e]), ?_⟩
  have hb1 : Below B w w1 := Below.grown ((Below.refl _ _).alloc (by omega) _) hgrow1 (by simp; omega) (fun k hk => (hr.lt k hk).1)
  exact hb1.setCell (by simpa using hB) _
end Go.Proofs.Ytdcnnghnnahhcab
