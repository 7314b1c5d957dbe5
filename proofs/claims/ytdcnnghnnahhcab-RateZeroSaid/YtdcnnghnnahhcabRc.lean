/-
  RateZero: awake.
-/
import Derived.Test.YtdcnnghnnahhcabRb
namespace Go.Proofs.Ytdcnnghnnahhcab
open Go.RowKit

def rrow : Array Value := #[.bool true, .int .i64 10, .slice none 0 0]
theorem row_a (w : World) (a b : Obj) : (((w.alloc (.cells rrow 52)).alloc a).alloc b).heap[w.heap.size]? = some (.cells rrow 52 (0, 0)) := by
  rw [Below.heap_alloc _ _ _ (by simp; omega), Below.heap_alloc _ _ _ (by simp)]
  exact heap_alloc_new w _
theorem m_len0 (g : Nat) (w : World) : (method 334 100 (.pointer (some ⟨g, 2, none⟩)) "Len").run Try.prog w = ((do let v ← loadVar 50 ⟨g, 2, none⟩; pure (201, v)) : Sem (FuncId × Value)).run Try.prog w := by kernel_rfl
theorem m_len (g : Nat) (w : World) (v : Value) (hc : w.cell? ⟨g, 2, none⟩ = some v) : (method 334 100 (.pointer (some ⟨g, 2, none⟩)) "Len").run Try.prog w = .ok (201, v) w := by
  rw [m_len0]
  simp [go_sem, hc]
theorem row_c (w : World) (a b : Obj) : (((w.alloc (.cells #[.bool true, .int .i64 10, .slice none 0 0] 52)).alloc a).alloc b).cell? ⟨w.heap.size, 2, none⟩ = some (.slice none 0 0) := by
  have := cell_of_row _ w.heap.size 2 _ 52 (0, 0) (row_a w a b)
  simpa [rrow] using this
theorem row_f (w : World) (a b : Obj) : (((w.alloc (.cells #[.bool true, .int .i64 10, .slice none 0 0] 52)).alloc a).alloc b).frozen? ⟨w.heap.size, 2, none⟩ = false := frozen_of_row _ _ _ _ 52 (row_a w a b)

theorem cut_a {w W0 w1 w9 : World} {a b : Obj} {g1 c1 : Nat} {k : ByteArray} {n : Int} (hW : W0 = ((w.alloc (.cells #[.bool true, .int .i64 10, .slice none 0 0] 52)).alloc a).alloc b)
    (hown : w1.ownsRow W0.heap.size 99 2 (.slice (some ⟨g1, 0, none⟩) 1 c1) 1 [.string k, .int .i64 n]) (hb1 : Below W0.heap.size W0 w1) (h9 : w9 = w1.setCell ⟨w.heap.size, 2, none⟩ (.slice (some ⟨g1, 0, none⟩) 1 c1)) :
    (w9.cell? ⟨w.heap.size, 0, none⟩ = some (.bool true) ∧ w9.cell? ⟨w.heap.size, 1, none⟩ = some (.int .i64 10) ∧ w9.cell? ⟨w.heap.size, 2, none⟩ = some (.slice (some ⟨g1, 0, none⟩) 1 c1)) ∧
    (w9.cell? ⟨g1, 0, none⟩ = some (.string k) ∧ w9.cell? ⟨g1, 1, none⟩ = some (.int .i64 n) ∧ w9.frozen? ⟨g1, 1, none⟩ = false) ∧
    Below w.heap.size w w9 ∧ w.heap.size < g1 ∧ g1 < w9.heap.size ∧ w.heap.size < w9.heap.size := by
  have hs : W0.heap.size = w.heap.size + 1 + 1 + 1 := by subst hW; simp
  have hl := hown.lt g1 rfl
  have hrow : W0.heap[w.heap.size]? = some (.cells rrow 52 (0, 0)) := by subst hW; exact row_a w a b
  have hrow1 : w1.heap[w.heap.size]? = some (.cells rrow 52 (0, 0)) := by rw [hb1.block _ (by omega)]; exact hrow
  have e0 := cell_of_row _ w.heap.size 0 _ 52 (0, 0) hrow1
  have e1 := cell_of_row _ w.heap.size 1 _ 52 (0, 0) hrow1
  have e2 := cell_of_row _ w.heap.size 2 _ 52 (0, 0) hrow1
  have d0 := hown.cellAt 0 (by decide)
  have d1 := hown.cellAt 1 (by decide)
  have hf := hown.frozenAt 1
  have hbw : Below w.heap.size w W0 := by
    subst hW
    exact (((Below.refl _ _).alloc (by simp) _).alloc (by simp) _).alloc (by simp; omega) _
  subst h9
  refine ⟨⟨?_, ?_, World.cell?_setCell_same' _ _ _ (by rw [e2]; rfl)⟩, ⟨?_, ?_, ?_⟩, ?_, by omega, by simpa using hl.2, by simp; omega⟩
  · rw [World.cell?_setCell_other (h := by simp)]; exact e0
  · rw [World.cell?_setCell_other (h := by simp)]; exact e1
  · rw [World.cell?_setCell_other (h := by first | (simp; done) | (simp; omega))]; exact d0
  · rw [World.cell?_setCell_other (h := by first | (simp; done) | (simp; omega))]; exact d1
  · simpa using hf
  · exact (hbw.trans (hb1.mono (by omega))).setCell (by simp) _

theorem cut_b {w w9 w10 : World} {a b : Obj} {g1 c1 : Nat} {k : ByteArray} {n : Int} (h10 : ((w9.alloc a).alloc b).drew = w10)
    (f0 : w9.cell? ⟨w.heap.size, 0, none⟩ = some (.bool true)) (f1 : w9.cell? ⟨w.heap.size, 1, none⟩ = some (.int .i64 10)) (f2 : w9.cell? ⟨w.heap.size, 2, none⟩ = some (.slice (some ⟨g1, 0, none⟩) 1 c1))
    (d0 : w9.cell? ⟨g1, 0, none⟩ = some (.string k)) (d1 : w9.cell? ⟨g1, 1, none⟩ = some (.int .i64 n)) (dz : w9.frozen? ⟨g1, 1, none⟩ = false)
    (hb : Below w.heap.size w w9) (l2 : g1 < w9.heap.size) (l3 : w.heap.size < w9.heap.size) :
    (w10.cell? ⟨w.heap.size, 0, none⟩ = some (.bool true) ∧ w10.cell? ⟨w.heap.size, 1, none⟩ = some (.int .i64 10) ∧ w10.cell? ⟨w.heap.size, 2, none⟩ = some (.slice (some ⟨g1, 0, none⟩) 1 c1)) ∧
    (w10.cell? ⟨g1, 0, none⟩ = some (.string k) ∧ w10.cell? ⟨g1, 1, none⟩ = some (.int .i64 n) ∧ w10.frozen? ⟨g1, 1, none⟩ = false) ∧
    Below w.heap.size w w10 ∧ g1 < w10.heap.size ∧ w.heap.size < w10.heap.size := by
  have hb9 : Below w9.heap.size w9 w10 := by
    subst h10
    exact (((Below.refl _ _).alloc (by simp) _).alloc (by simp) _).drew
  have hs := hb9.size
  exact ⟨⟨cll hb9 l3 f0, cll hb9 l3 f1, cll hb9 l3 f2⟩, ⟨cll hb9 l2 d0, cll hb9 l2 d1, frz hb9 l2 dz⟩, hb.trans (hb9.mono (by omega)), by omega, by omega⟩

set_option maxHeartbeats 2000000 in
set_option maxRecDepth 100000 in
theorem awake35_any (w : World) : Calls Try.prog 29 #[] w (Yes w) := by
  have k1 := m_push
  go_enter Try.func29, Try.ntmps29
  go_wp2
  refine wp_loop_rounds 1 ?_
  rw [rounds_succ]
  go_wp2
  refine wp_loop_rounds 1 ?_
  rw [rounds_succ]
  go_wp2_with (first | (go_at_call 212; go_must (refine (push_nil w.heap.size _ _ _ (row_c w _ _) (row_f w _ _)).mono ?_); rintro e w9 ⟨rfl, g1, c1, w1, hown, hb1, h9⟩; obtain ⟨⟨f0, f1, f2⟩, ⟨d0, d1, dz⟩, hb9, l1, l2, l3⟩ := cut_a rfl hown hb1 h9; clear hown hb1 h9; have kl := m_len w.heap.size _ _ f2) | go_in)
  refine wp_loop_rounds 1 ?_
  rw [rounds_succ]
  go_wp2
  go_end0
  go_wp2
  go_end0
  go_wp2
  refine wp_loop_rounds 2 ?_
  rw [rounds_succ]
  go_wp2
  go_region
  generalize hw2 : World.drew _ = w10
  obtain ⟨⟨f0', f1', f2'⟩, ⟨d0', d1', dz'⟩, hb10, l2', l3'⟩ := cut_b hw2 f0 f1 f2 d0 d1 dz hb9 l2 l3
  clear hw2 f0 f1 f2 d0 d1 dz hb9 l2 l3 kl
  have kl := m_len w.heap.size _ _ f2'
  go_wp2
  refine wp_loop_rounds 2 ?_
  rw [rounds_succ]
  go_wp2
  go_region
  generalize hw3 : World.drew _ = w11
  obtain ⟨⟨f0, f1, f2⟩, ⟨d0, d1, dz⟩, hb11, l2, l3⟩ := cut_b hw3 f0' f1' f2' d0' d1' dz' hb10 l2' l3'
  clear hw3 f0' f1' f2' d0' d1' dz' hb10 l2' l3' kl
  have kl := fun (a b : Obj) => m_len w.heap.size (((w11.setCell ⟨g1, 1, none⟩ (.int .i64 15)).alloc a).alloc b) _ (by
    rw [World.cell?_alloc_past _ _ _ (by first | (simp; done) | (simp; omega)), World.cell?_alloc_past _ _ _ (by first | (simp; done) | (simp; omega)), World.cell?_setCell_other (h := by first | (simp; done) | (simp; omega))]
    exact f2)
  go_wp2
  refine wp_loop_rounds 2 ?_
  rw [rounds_succ]
  go_wp2
  refine wp_loop_rounds 1 ?_
  rw [rounds_succ]
  go_wp2
  refine wp_loop_rounds 1 ?_
  rw [rounds_succ]
  go_wp2
  go_end0
  go_wp2
  go_end0
  go_wp2
  go_ret
  exact ⟨rfl, ((hb11.setCell (by simp; omega) _).alloc (by simp; omega) _).alloc (by simp; omega) _⟩
end Go.Proofs.Ytdcnnghnnahhcab
