/-
  IdsZero: Take of a number that came back, and awake.
-/
import Derived.Test.YtdcnnghnnahhcabJf
import Derived.StillTailTactics
namespace Go.Proofs.Ytdcnnghnnahhcab
open Go.RowKit

def TakeOne (B g g1 e1 g2 e2 : Nat) (w : World) (e : Ending) (w' : World) : Prop :=
  e = .returned (.tuple #[.int .i64 1, .int .i64 0]) ∧ Ob w' g (.slice (some ⟨g1, 0, none⟩) 2 e1) (.slice (some ⟨g2, 0, none⟩) 0 e2) 2 ∧ Below B w w'

set_option maxHeartbeats 2000000 in
set_option maxRecDepth 100000 in
theorem take_one (B g g1 e1 g2 e2 : Nat) (w : World) (ho : Ob w g (.slice (some ⟨g1, 0, none⟩) 2 e1) (.slice (some ⟨g2, 0, none⟩) 1 e2) 1) (hr3 : w.ownsRow B 3 1 (.slice (some ⟨g2, 0, none⟩) 1 e2) 1 [.int .i64 1])
    (hr4 : w.ownsRow B 4 1 (.slice (some ⟨g1, 0, none⟩) 2 e1) 2 [.bool false, .bool true]) (n1 : g2 ≠ g) (n2 : g2 ≠ g1) (n3 : g1 ≠ g) (hB : B ≤ g) :
    Calls Try.prog 9 #[.pointer (some ⟨g, 0, none⟩)] w (TakeOne B g g1 e1 g2 e2 w) := by
  have c0 := ho.c0
  have c3 := ho.c3
  have z3 := ho.fz 3
  have hg := ho.lt
  go_enter Try.func9, Try.ntmps9
  go_wp2_with go_in
  go_region
  have hb1 : Below B w w.drew := (Below.refl _ _).drew
  have ho1 : Ob w.drew g _ _ _ := ho
  have hr3' : w.drew.ownsRow B 3 1 _ _ _ := hr3
  have hr4' : w.drew.ownsRow B 4 1 _ _ _ := hr4
  generalize World.drew w = w1 at *
  clear ho hr3 hr4 c0 c3 z3 hg
  have c0 := ho1.c0
  have c3 := ho1.c3
  have z3 := ho1.fz 3
  have hg := ho1.lt
  have ho2 := ho1.set3 2
  have hr3 := hr3'.kept (gset w1 g 3 (.int .i64 2)) (.inr (fun e => n1 (by injection e)))
  have hr4 := hr4'.kept (gset w1 g 3 (.int .i64 2)) (.inr (fun e => n3 (by injection e)))
  have hb2 : Below B w (w1.setCell ⟨g, 3, none⟩ (.int .i64 2)) := hb1.setCell hB _
  go_wp2_with (go_at_call 51; go_must (refine (free_one B g g1 e1 g2 e2 2 _ ho2 hr3 hr4 n1 n2 n3 hB).mono ?_); rintro e w3 ⟨rfl, ho3, hr5, hb3⟩; have d1 := ho3.c1; have p3 : w3.cell? ⟨g1, 0, none⟩ = some (.bool false) := hr5.cellAt 0 (by decide); have q3 := hr5.frozenAt 0)
  go_ret2
  have ho4 := ho3.kept (gset w3 g1 0 (.bool true)) (fun e => n3 (by injection e))
  have hB1 : B ≤ g1 := (hr5.lt g1 rfl).1
  exact ⟨rfl, ho4, ((hb2.trans hb3)).setCell hB1 _⟩

def St1 (B g : Nat) (w : World) (e : Ending) (w' : World) : Prop :=
  e = .returned (.tuple #[.int .i64 1, .int .i64 0]) ∧ ∃ g1 e1, Ob w' g (.slice (some ⟨g1, 0, none⟩) 1 e1) (.slice none 0 0) 1 ∧ w'.ownsRow B 4 1 (.slice (some ⟨g1, 0, none⟩) 1 e1) 1 [.bool true] ∧ g1 ≠ g ∧ Below B w w'
def St2 (B g : Nat) (w : World) (e : Ending) (w' : World) : Prop :=
  e = .returned (.tuple #[.int .i64 2, .int .i64 0]) ∧ ∃ g1 e1, Ob w' g (.slice (some ⟨g1, 0, none⟩) 2 e1) (.slice none 0 0) 2 ∧ w'.ownsRow B 4 1 (.slice (some ⟨g1, 0, none⟩) 2 e1) 2 [.bool true, .bool true] ∧ g1 ≠ g ∧ Below B w w'
theorem take_1 (B g : Nat) (w : World) (ho : Ob w g (.slice none 0 0) (.slice none 0 0) 0) (hB : B ≤ g) : Calls Try.prog 9 #[.pointer (some ⟨g, 0, none⟩)] w (St1 B g w) :=
  (take_nil B g 0 [] _ 0 w (by omega) (by omega) ho (World.ownsRow_nil w _ 4 1) (by simp [Value.ownBlock]) hB).mono fun _ _ h => h
theorem take_2 (B g g1 e1 : Nat) (w : World) (ho : Ob w g (.slice (some ⟨g1, 0, none⟩) 1 e1) (.slice none 0 0) 1) (hr : w.ownsRow B 4 1 (.slice (some ⟨g1, 0, none⟩) 1 e1) 1 [.bool true]) (hn : g1 ≠ g) (hB : B ≤ g) : Calls Try.prog 9 #[.pointer (some ⟨g, 0, none⟩)] w (St2 B g w) :=
  (take_nil B g 1 [.bool true] _ 1 w (by omega) (by omega) ho hr (fun e => hn (by injection e)) hB).mono fun _ _ h => h

set_option maxHeartbeats 2000000 in
set_option maxRecDepth 100000 in
theorem awake14_any (w : World) : Calls Try.prog 14 #[] w (Yes w) := by
  have ho : Ob (w.alloc (.cells #[.int .i64 3, .slice none 0 0, .slice none 0 0, .int .i64 0] 27)) w.heap.size (.slice none 0 0) (.slice none 0 0) 0 := heap_alloc_new w _
  have hb : Below w.heap.size w (w.alloc (.cells #[.int .i64 3, .slice none 0 0, .slice none 0 0, .int .i64 0] 27)) := (Below.refl _ _).alloc (by omega) _
  go_enter Try.func14, Try.ntmps14
  go_wp2_with (first | go_at_call 53; go_in)
  go_wp2_with fail
  refine (take_1 w.heap.size w.heap.size _ ho (by omega)).mono ?_
  rintro e w1 ⟨rfl, g1, e1, ho1, hr1, hn1, hb1⟩
  go_wp2_with fail
  refine (take_2 w.heap.size w.heap.size g1 e1 w1 ho1 hr1 hn1 (by omega)).mono ?_
  rintro e w2 ⟨rfl, g2, e2, ho2, hr2, hn2, hb2⟩
  go_wp2_with fail
  refine (give_one w.heap.size w.heap.size g2 e2 w2 ho2 hr2 hn2 (by omega)).mono ?_
  rintro e w3 ⟨rfl, g3, e3, ho3, hr3, hr4, n1, n2, hb3⟩
  go_wp2_with fail
  refine (take_one w.heap.size w.heap.size g2 e2 g3 e3 w3 ho3 hr3 hr4 n1 n2 hn2 (by omega)).mono ?_
  rintro e w4 ⟨rfl, ho4, hb4⟩
  have c0 := ho4.c0
  have c3 := ho4.c3
  go_wp2_with go_in
  go_ret
  exact ⟨rfl, hb.trans (hb1.trans (hb2.trans (hb3.trans hb4)))⟩

theorem izero_any (n : Int) (w : World) : Calls Try.prog 3 #[.int .i64 n] w (Yes w) := izero_of awake14_any n w
end Go.Proofs.Ytdcnnghnnahhcab
