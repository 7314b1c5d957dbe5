/-
  RateZero: a push onto a nil heap of grants.
-/
import Derived.Test.YtdcnnghnnahhcabRa
import Derived.Deep.RegionLawGrows
import Derived.Deep.AppendLies
import Derived.Maps.AppendAt
import Derived.Lib.SmallJoins
namespace Go.Proofs.Ytdcnnghnnahhcab
open Go.RowKit

theorem info99 : (Try.prog.info? 99).map (fun i => (i.zero, i.size, i.bytes)) = some (some (.agg #[.string { data := #[] }, .int .i64 0]), 2, 24) := by kernel_rfl
def PushPost (g : Nat) (w : World) (k : ByteArray) (n : Int) (e : Ending) (w' : World) : Prop :=
  e = .returned (.tuple #[]) ∧ ∃ g1 c1 w1, w1.ownsRow w.heap.size 99 2 (.slice (some ⟨g1, 0, none⟩) 1 c1) 1 [.string k, .int .i64 n] ∧ Below w.heap.size w w1 ∧ w' = w1.setCell ⟨g, 2, none⟩ (.slice (some ⟨g1, 0, none⟩) 1 c1)

theorem cells_two_new (w : World) (x y : Value) (t : TypeId) : ∀ (j : Nat) (u : Value), [x, y][j]? = some u → (w.alloc (.cells #[x, y] t)).cell? ((⟨w.heap.size, 0, none⟩ : Addr).add j) = some u := by
  intro j u hu
  have hr := heap_alloc_new w (.cells #[x, y] t)
  have : (⟨w.heap.size, 0, none⟩ : Addr).add j = ⟨w.heap.size, j, none⟩ := by simp [Addr.add]; intro h; exact h.symm
  rw [this, cell_of_row _ _ _ _ t (0, 0) hr]
  simpa using hu

theorem lt_of_cell {w : World} {g j : Nat} {u : Value} (hc : w.cell? ⟨g, j, none⟩ = some u) : g < w.heap.size := by
  by_cases h : g < w.heap.size
  · exact h
  · rw [show w.cell? ⟨g, j, none⟩ = none from by unfold World.cell?; simp [Array.getElem?_eq_none (show w.heap.size ≤ g by omega)]] at hc
    cases hc
theorem frz {w w1 : World} {g j : Nat} (h : Below w.heap.size w w1) (hg : g < w.heap.size) (hf : w.frozen? ⟨g, j, none⟩ = false) : w1.frozen? ⟨g, j, none⟩ = false := by
  unfold World.frozen? at *
  simp only [h.block g hg]
  exact hf

theorem cll {w w1 : World} {g j : Nat} {u : Value} (h : Below w.heap.size w w1) (hg : g < w.heap.size) (hc : w.cell? ⟨g, j, none⟩ = some u) : w1.cell? ⟨g, j, none⟩ = some u := by
  unfold World.cell? at *
  simp only [h.block g hg]
  exact hc

set_option maxHeartbeats 2000000 in
set_option maxRecDepth 100000 in
theorem push_nil (g : Nat) (k : ByteArray) (n : Int) (w : World) (hc : w.cell? ⟨g, 2, none⟩ = some (.slice none 0 0)) (hf : w.frozen? ⟨g, 2, none⟩ = false) :
    Calls Try.prog 212 #[.pointer (some ⟨g, 2, none⟩), .iface 99 (.agg #[.string k, .int .i64 n])] w ((PushPost g w k n)) := by
  have k2 := as_grant
  obtain ⟨i0, hi, hz0, hz1, hz2⟩ := info_parts info99
  have hg : g < w.heap.size := lt_of_cell hc
  go_enter Try.func212, Try.ntmps212
  go_wp2
  go_region_law (go_must (refine step_append_grows rfl (.tmp 7) (.tmp 10) 50 rfl 99 i0 (.agg #[.string { data := #[] }, .int .i64 0]) 2 24 Try.underlying50 hi hz0 hz1 hz2 rfl (by decide) none 0 0 [] rfl (fun _ => ⟨rfl, rfl⟩) rfl (fun b h => by cases h) ⟨w.heap.size, 0, none⟩ 1 1 [.string k, .int .i64 n] rfl rfl (by first | exact cells_two_new _ _ _ _ | exact fun j u hu => cells_two_new w _ _ _ j u hu | exact fun j u hu => cells_two_new w.drew _ _ _ j u hu) (by intro u hu; simp at hu; rcases hu with rfl | rfl <;> rfl) (by decide) (by unfold maxLen; omega) (by omega) ?_); intro v1 w1 hown hgrow; obtain ⟨g1, c1, rfl⟩ := Joins.ownsRow_form hown (by decide); have hb1 : Below w.heap.size w w1 := Below.grown (by repeat (first | exact Below.refl _ _ | refine Below.drew ?_ | refine Below.alloc ?_ (by simp) _)) hgrow (by simp) (fun k hk => by cases hk); have hf1 : w1.frozen? ⟨g, 2, none⟩ = false := frz hb1 hg hf; have hc1 : w1.cell? ⟨g, 2, none⟩ = some (.slice none 0 0) := cll hb1 hg hc)
  all_goals go_end0
  all_goals exact ⟨rfl, g1, c1, w1, Joins.ownsRow_le hown (by simp), hb1, rfl⟩
end Go.Proofs.Ytdcnnghnnahhcab
