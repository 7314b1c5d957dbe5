/-
  IdsZero: Give.
-/
import Derived.Test.YtdcnnghnnahhcabJd
namespace Go.Proofs.Ytdcnnghnnahhcab
open Go.RowKit

theorem gro {w w' : World} (hb : Below w.heap.size w w') : w.grownBy w' none := ⟨hb.os, hb.tape, hb.output, hb.size, fun k hk _ => hb.block k hk⟩

def GivePost (B g g1 e1 : Nat) (w : World) (e : Ending) (w' : World) : Prop :=
  e = .returned (.int .i64 0) ∧ ∃ g2 e2, Ob w' g (.slice (some ⟨g1, 0, none⟩) 2 e1) (.slice (some ⟨g2, 0, none⟩) 1 e2) 1 ∧ w'.ownsRow B 3 1 (.slice (some ⟨g2, 0, none⟩) 1 e2) 1 [.int .i64 1] ∧
    w'.ownsRow B 4 1 (.slice (some ⟨g1, 0, none⟩) 2 e1) 2 [.bool false, .bool true] ∧ g2 ≠ g ∧ g2 ≠ g1 ∧ Below B w w'

theorem push_joins {B g g1 e1 : Nat} {w w9 : World} {e : Ending} (ho : Ob w g (.slice (some ⟨g1, 0, none⟩) 2 e1) (.slice none 0 0) 1) (hr : w.ownsRow B 4 1 (.slice (some ⟨g1, 0, none⟩) 2 e1) 2 [.bool false, .bool true]) (hn : g1 ≠ g) (hB : B ≤ g)
    (h : PushiPost g w 1 e w9) : e = .returned (.tuple #[]) ∧ ∃ g2 e2, Ob w9 g (.slice (some ⟨g1, 0, none⟩) 2 e1) (.slice (some ⟨g2, 0, none⟩) 1 e2) 1 ∧ w9.ownsRow B 3 1 (.slice (some ⟨g2, 0, none⟩) 1 e2) 1 [.int .i64 1] ∧
    w9.ownsRow B 4 1 (.slice (some ⟨g1, 0, none⟩) 2 e1) 2 [.bool false, .bool true] ∧ g2 ≠ g ∧ g2 ≠ g1 ∧ Below B w w9 := by
  obtain ⟨rfl, g2, e2, w1, hown, hb, rfl⟩ := h
  have hg := ho.lt
  have hg1 := hr.lt g1 rfl
  have hg2 := hown.lt g2 rfl
  have ho1 := ho.kept (gro hb) (by simp)
  have hr1 := hr.kept (gro hb) (.inr (by simp [Value.ownBlock]))
  refine ⟨rfl, g2, e2, ho1.set2 _, (Joins.ownsRow_le hown (by omega)).kept (gset w1 g 2 _) (.inr ?_), hr1.kept (gset w1 g 2 _) (.inr ?_), by omega, by omega, (hb.mono (by omega)).setCell hB _⟩
  · simp [Value.ownBlock]; omega
  · simp [Value.ownBlock]; omega

set_option maxHeartbeats 2000000 in
set_option maxRecDepth 100000 in
theorem give_one (B g g1 e1 : Nat) (w : World) (ho : Ob w g (.slice (some ⟨g1, 0, none⟩) 2 e1) (.slice none 0 0) 2) (hr : w.ownsRow B 4 1 (.slice (some ⟨g1, 0, none⟩) 2 e1) 2 [.bool true, .bool true]) (hn : g1 ≠ g) (hB : B ≤ g) :
    Calls Try.prog 10 #[.pointer (some ⟨g, 0, none⟩), .int .i64 1] w (GivePost B g g1 e1 w) := by
  have k1 := m_pushi
  have c0 := ho.c0
  have c1 := ho.c1
  have p0 : w.cell? ⟨g1, 0, none⟩ = some (.bool true) := hr.cellAt 0 (by decide)
  have q0 : w.frozen? ⟨g1, 0, none⟩ = false := hr.frozenAt 0
  have ho1 := ho.kept (gset w g1 0 (.bool false)) (fun e => hn (by injection e))
  have hr1 := (hr.stored 0 (.bool false)).1
  have c3 := ho1.c3
  have z3 := ho1.fz 3
  have ho2 := ho1.set3 1
  have hr2 := hr1.kept (gset (w.setCell ⟨g1, 0, none⟩ (.bool false)) g 3 (.int .i64 1)) (.inr (fun e => hn (by injection e)))
  have hB1 := (hr.lt g1 rfl).1
  have hb2 : Below B w ((w.setCell ⟨g1, 0, none⟩ (.bool false)).setCell ⟨g, 3, none⟩ (.int .i64 1)) := ((Below.refl _ _).setCell hB1 _).setCell hB _
  go_enter Try.func10, Try.ntmps10
  go_wp2_with (first | (go_at_call 210; go_must (refine (pushi_nil g 1 _ ho2.c2 (ho2.fz 2)).mono ?_); intro e w9 hp; obtain ⟨rfl, g2, e2, ho3, hr3, hr4, n1, n2, hb3⟩ := push_joins ho2 hr2 hn hB hp; have kl := m_leni g w9 _ ho3.c2) | go_in)
  refine wp_loop_rounds 1 ?_
  rw [rounds_succ]
  go_wp2
  go_end0
  go_wp2
  go_end0
  go_wp2
  go_ret
  exact ⟨rfl, g2, e2, ho3, hr3, hr4, n1, n2, hb2.trans hb3⟩
end Go.Proofs.Ytdcnnghnnahhcab
