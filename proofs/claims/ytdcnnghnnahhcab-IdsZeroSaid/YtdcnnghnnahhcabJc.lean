/-
  IdsZero: Take, where nothing came back.
-/
import Derived.Test.YtdcnnghnnahhcabJb
import Derived.StillTailTactics
namespace Go.Proofs.Ytdcnnghnnahhcab
open Go.RowKit

def TakePost (B g n : Nat) (ts : List Value) (bv : Value) (c : Int) (w : World) (e : Ending) (w' : World) : Prop :=
  e = .returned (.tuple #[.int .i64 (n + 1 : Nat), .int .i64 0]) ∧ ∃ g1 e1, Ob w' g (.slice (some ⟨g1, 0, none⟩) (n + 1) e1) bv (c + 1) ∧ w'.ownsRow B 4 1 (.slice (some ⟨g1, 0, none⟩) (n + 1) e1) (n + 1) (ts ++ [.bool true]) ∧ g1 ≠ g ∧ Below B w w'

set_option maxHeartbeats 2000000 in
set_option maxRecDepth 100000 in
theorem take_nil (B g n : Nat) (ts : List Value) (tv : Value) (c : Int) (w : World) (hn : n ≤ 2) (hc : 0 ≤ c ∧ c ≤ 2) (ho : Ob w g tv (.slice none 0 0) c) (hr : w.ownsRow B 4 1 tv n ts) (hd : tv.ownBlock ≠ some g) (hB : B ≤ g) :
    Calls Try.prog 9 #[.pointer (some ⟨g, 0, none⟩)] w (TakePost B g n ts (.slice none 0 0) c w) := by
  have c0 := ho.c0
  have c3 := ho.c3
  have z3 := ho.fz 3
  have hg := ho.lt
  have s1 : IntKind.i64.wrap (c + 1) = c + 1 := IntWalk.i64_in _ (by omega)
  have s2 : IntKind.i64.wrap (((n + 1 : Nat) : Int) - 1) = n := by rw [IntWalk.i64_in _ (by omega)]; omega
  have s3 : ¬ (c = 3) := by omega
  go_enter Try.func9, Try.ntmps9
  go_wp2_with go_in
  go_region
  have hb1 : Below B w w.drew := (Below.refl _ _).drew
  have ho1 : Ob w.drew g tv (.slice none 0 0) c := ho
  have hr1 : w.drew.ownsRow B 4 1 tv n ts := hr
  generalize World.drew w = w1 at *
  clear ho hr c0 c3 z3 hg
  have c0 := ho1.c0
  have c3 := ho1.c3
  have z3 := ho1.fz 3
  have hg := ho1.lt
  have ho2 := ho1.set3 (c + 1)
  have hr2 := hr1.kept (gset w1 g 3 (.int .i64 (c + 1))) (.inr hd)
  have hb2 : Below B w (w1.setCell ⟨g, 3, none⟩ (.int .i64 (c + 1))) := hb1.setCell hB _
  have hl : ts.length = n := by simpa using hr1.1
  go_wp2_with (go_at_call 51; go_must (refine (free_nil B g n ts tv (c + 1) _ hn ho2 hr2 hd hB).mono ?_); rintro e w3 ⟨rfl, g1, e1, ho3, hr3, hn3, hb3⟩; have d1 := ho3.c1; have p3 : w3.cell? ⟨g1, n, none⟩ = some (.bool false) := by { rw [hr3.cellAt n (by simp [hl])]; simp [hl] }; have q3 := hr3.frozenAt n)
  go_ret2
  have ho4 := ho3.kept (gset w3 g1 n (.bool true)) (fun e => hn3 (by injection e))
  have hr4 := (hr3.stored n (.bool true)).1
  rw [show (ts ++ [Value.bool false]).set n (.bool true) = ts ++ [.bool true] from by subst hl; simp] at hr4
  have hB1 : B ≤ g1 := (hr3.lt g1 rfl).1
  exact ⟨rfl, g1, e1, ho4, hr4, hn3, ((hb2.trans hb3)).setCell hB1 _⟩
end Go.Proofs.Ytdcnnghnnahhcab
