/-
  IdsZero: a push onto a nil heap of numbers, and Give.
-/
import Derived.Test.YtdcnnghnnahhcabJc
import Derived.Test.YtdcnnghnnahhcabRb
namespace Go.Proofs.Ytdcnnghnnahhcab
open Go.RowKit

theorem info3 : (Try.prog.info? 3).map (fun i => (i.zero, i.size, i.bytes)) = some (some (.int .i64 0), 1, 8) := by kernel_rfl
theorem m_pushi (v : Value) (w : World) : (method 334 91 v "Push").run Try.prog w = .ok (210, v) w := by kernel_rfl
theorem as_int (v : Value) (w : World) : (Instr.typeAssert (.iface 3 v) 20 3 false).run Try.prog w = .ok v w := by kernel_rfl
def PushiPost (g : Nat) (w : World) (n : Int) (e : Ending) (w' : World) : Prop :=
  e = .returned (.tuple #[]) ∧ ∃ g1 c1 w1, w1.ownsRow w.heap.size 3 1 (.slice (some ⟨g1, 0, none⟩) 1 c1) 1 [.int .i64 n] ∧ Below w.heap.size w w1 ∧ w' = w1.setCell ⟨g, 2, none⟩ (.slice (some ⟨g1, 0, none⟩) 1 c1)

set_option maxHeartbeats 2000000 in
set_option maxRecDepth 100000 in
theorem pushi_nil (g : Nat) (n : Int) (w : World) (hc : w.cell? ⟨g, 2, none⟩ = some (.slice none 0 0)) (hf : w.frozen? ⟨g, 2, none⟩ = false) :
    Calls Try.prog 210 #[.pointer (some ⟨g, 2, none⟩), .iface 3 (.int .i64 n)] w ((PushiPost g w n)) := by
  have k2 := as_int
  obtain ⟨i0, hi, hz0, hz1, hz2⟩ := info_parts info3
  have hg : g < w.heap.size := lt_of_cell hc
  go_enter Try.func210, Try.ntmps210
  go_wp2
  go_region_law (go_must (refine step_append_grows rfl (.tmp 7) (.tmp 10) 25 rfl 3 i0 (.int .i64 0) 1 8 Try.underlying25 hi hz0 hz1 hz2 rfl (by decide) none 0 0 [] rfl (fun _ => ⟨rfl, rfl⟩) rfl (fun b h => by cases h) ⟨w.heap.size, 0, none⟩ 1 1 [.int .i64 n] rfl rfl (by first | exact cell_one_new _ _ _ | exact cell_one_new w _ _ | exact cell_one_new w.drew _ _) (by intro u hu; simp at hu; subst hu; rfl) (by decide) (by unfold maxLen; omega) (by omega) ?_); intro v1 w1 hown hgrow; obtain ⟨g1, c1, rfl⟩ := Joins.ownsRow_form hown (by decide); have hb1 : Below w.heap.size w w1 := Below.grown (by repeat (first | exact Below.refl _ _ | refine Below.drew ?_ | refine Below.alloc ?_ (by simp) _)) hgrow (by simp) (fun k hk => by cases hk); have hf1 : w1.frozen? ⟨g, 2, none⟩ = false := frz hb1 hg hf; have hc1 : w1.cell? ⟨g, 2, none⟩ = some (.slice none 0 0) := cll hb1 hg hc)
  all_goals go_end0
  all_goals exact ⟨rfl, g1, c1, w1, Joins.ownsRow_le hown (by simp), hb1, rfl⟩
end Go.Proofs.Ytdcnnghnnahhcab
