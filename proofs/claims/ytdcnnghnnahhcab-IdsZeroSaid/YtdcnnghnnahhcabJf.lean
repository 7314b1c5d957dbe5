/-
  IdsZero: Swap and Pop of a heap of one number.
-/
import Derived.Test.YtdcnnghnnahhcabJe
namespace Go.Proofs.Ytdcnnghnnahhcab
open Go.RowKit

theorem m_swapi0 (g : Nat) (w : World) : (method 334 91 (.pointer (some ⟨g, 2, none⟩)) "Swap").run Try.prog w = ((do let v ← loadVar 25 ⟨g, 2, none⟩; pure (200, v)) : Sem (FuncId × Value)).run Try.prog w := by kernel_rfl
theorem m_swapi (g : Nat) (w : World) (v : Value) (hc : w.cell? ⟨g, 2, none⟩ = some v) : (method 334 91 (.pointer (some ⟨g, 2, none⟩)) "Swap").run Try.prog w = .ok (200, v) w := by
  rw [m_swapi0]
  simp [go_sem, hc]
theorem m_popi (v : Value) (w : World) : (method 334 91 v "Pop").run Try.prog w = .ok (209, v) w := by kernel_rfl

def swW (w : World) (g2 : Nat) : World := ((w.setCell ⟨g2, 0, none⟩ (.int .i64 1)).setCell ⟨g2, 0, none⟩ (.int .i64 1)).drew

set_option maxHeartbeats 2000000 in
set_option maxRecDepth 100000 in
theorem swap00 (g2 e2 : Nat) (w : World) (hc : w.cell? ⟨g2, 0, none⟩ = some (.int .i64 1)) (hf : w.frozen? ⟨g2, 0, none⟩ = false) :
    Calls Try.prog 200 #[.slice (some ⟨g2, 0, none⟩) 1 e2, .int .i64 0, .int .i64 0] w fun e w' => e = .returned (.tuple #[]) ∧ swW w g2 = w' := by
  go_enter Try.func200, Try.ntmps200
  go_wp2
  go_region
  go_end0
  exact ⟨rfl, rfl⟩

theorem sw_ob {w : World} {g g2 : Nat} {tv bv : Value} {c : Int} (h : Ob w g tv bv c) (hn : g2 ≠ g) : Ob (swW w g2) g tv bv c := by
  have k := (h.kept (gset w g2 0 (.int .i64 1)) (fun e => hn (by injection e))).kept (gset (w.setCell ⟨g2, 0, none⟩ (.int .i64 1)) g2 0 (.int .i64 1)) (fun e => hn (by injection e))
  exact k
theorem sw_row {w : World} {B g1 g2 e1 : Nat} {xs : List Value} {n : Nat} (h : w.ownsRow B 4 1 (.slice (some ⟨g1, 0, none⟩) n e1) n xs) (hn : g2 ≠ g1) : (swW w g2).ownsRow B 4 1 (.slice (some ⟨g1, 0, none⟩) n e1) n xs := by
  have k := (h.kept (gset w g2 0 (.int .i64 1)) (.inr (fun e => hn (by injection e with e; exact e.symm)))).kept (gset (w.setCell ⟨g2, 0, none⟩ (.int .i64 1)) g2 0 (.int .i64 1)) (.inr (fun e => hn (by injection e with e; exact e.symm)))
  exact k
theorem sw_own {w : World} {B g2 e2 : Nat} (h : w.ownsRow B 3 1 (.slice (some ⟨g2, 0, none⟩) 1 e2) 1 [.int .i64 1]) : (swW w g2).ownsRow B 3 1 (.slice (some ⟨g2, 0, none⟩) 1 e2) 1 [.int .i64 1] :=
  ((h.stored 0 (.int .i64 1)).1.stored 0 (.int .i64 1)).1
theorem sw_below {w : World} {B g2 : Nat} (h : B ≤ g2) : Below B w (swW w g2) := (((Below.refl _ _).setCell h _).setCell h _).drew

def FreeOne (B g g1 e1 g2 e2 : Nat) (c : Int) (w : World) (e : Ending) (w' : World) : Prop :=
  e = .returned (.int .i64 1) ∧ Ob w' g (.slice (some ⟨g1, 0, none⟩) 2 e1) (.slice (some ⟨g2, 0, none⟩) 0 e2) c ∧ w'.ownsRow B 4 1 (.slice (some ⟨g1, 0, none⟩) 2 e1) 2 [.bool false, .bool true] ∧ Below B w w'

set_option maxHeartbeats 2000000 in
set_option maxRecDepth 100000 in
theorem free_one (B g g1 e1 g2 e2 : Nat) (c : Int) (w : World) (ho : Ob w g (.slice (some ⟨g1, 0, none⟩) 2 e1) (.slice (some ⟨g2, 0, none⟩) 1 e2) c) (hr3 : w.ownsRow B 3 1 (.slice (some ⟨g2, 0, none⟩) 1 e2) 1 [.int .i64 1])
    (hr4 : w.ownsRow B 4 1 (.slice (some ⟨g1, 0, none⟩) 2 e1) 2 [.bool false, .bool true]) (n1 : g2 ≠ g) (n2 : g2 ≠ g1) (n3 : g1 ≠ g) (hB : B ≤ g) :
    Calls Try.prog 51 #[.pointer (some ⟨g, 0, none⟩), .iface 91 (.pointer (some ⟨g, 2, none⟩))] w (FreeOne B g g1 e1 g2 e2 c w) := by
  have k1 := m_popi
  have k3 := as_int
  have kl := m_leni g w _ ho.c2
  have ks := m_swapi g w _ ho.c2
  have hB2 := (hr3.lt g2 rfl).1
  have he : 1 ≤ e2 := by
    rcases hr3.2 with ⟨h, _⟩ | ⟨g', cap, cur, h, _, _, hnc, _⟩
    · simp at h
    · simp only [Value.slice.injEq] at h
      omega
  go_enter Try.func51, Try.ntmps51
  go_wp2_with (first | (go_at_call 200; go_must (refine (swap00 g2 e2 w (hr3.cellAt 0 (by decide)) (hr3.frozenAt 0)).mono ?_); rintro e w1 ⟨rfl, hw1⟩; have ho1 : Ob w1 g _ _ _ := hw1 ▸ sw_ob ho n1; have hr4' : w1.ownsRow B 4 1 _ 2 _ := hw1 ▸ sw_row hr4 n2; have hr3' : w1.ownsRow B 3 1 _ 1 _ := hw1 ▸ sw_own hr3; have hb1 : Below B w w1 := hw1 ▸ sw_below hB2; clear hw1; have c2 := ho1.c2; have z2 := ho1.fz 2; have p2 : w1.cell? ⟨g2, 0, none⟩ = some (.int .i64 1) := hr3'.cellAt 0 (by decide)) | go_in)
  refine wp_loop_rounds 1 ?_
  rw [rounds_succ]
  go_wp2
  go_ret
  go_wp2
  exact ⟨rfl, ho1.set2 _, hr4'.kept (gset w1 g 2 _) (.inr (fun e => n3 (by injection e))), hb1.setCell hB _⟩
end Go.Proofs.Ytdcnnghnnahhcab
