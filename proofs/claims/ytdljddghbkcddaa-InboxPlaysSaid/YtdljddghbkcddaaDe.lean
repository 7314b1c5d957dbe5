/-
  LAYER 32: New; the law's own awake.
-/
import Derived.Test.YtdljddghbkcddaaDc
import Derived.Test.YtdljddghbkcddaaDd
namespace Go.Proofs.Ytdljddghbkcddaa
open Go.RowKit

def tD : ByteArray := { data := #[100] }
theorem tD_ne : tD.toList.isEmpty = false := by rw [ByteArray.toList_eq]; rfl
def NewP (nm : ByteArray) (w : World) (e : Ending) (w' : World) : Prop :=
  e = .returned (.tuple #[.pointer (some ⟨w.heap.size, 0, none⟩), .int .i64 0]) ∧ Dv 79 w' w.heap.size nm false (.slice none 0 0) [] 0 ∧ Below w.heap.size w w'
set_option maxRecDepth 100000 in
theorem new_any (nm : ByteArray) (w : World) (hn : nm.toList.isEmpty = false) : Calls Try.prog 8 #[.string nm] w (NewP nm w) := by
  have hn2 := isE hn
  go_enter Try.func8, Try.ntmps8
  go_wp2
  go_ret2
  exact ⟨rfl, ⟨heap_alloc_new w _, by simpa [itsAtC] using World.ownsRow_nil _ _ _ _, by simp⟩, ext_alloc w _⟩
set_option maxHeartbeats 1000000 in
set_option maxRecDepth 100000 in
theorem awake_any (w : World) : Calls Try.prog 9 #[] w (Yes w) := by
  have NW := Lib.hid (new_any tD w tD_ne)
  go_enter Try.func9, Try.ntmps9
  go_wp2_with fail
  refine NW.out.mono ?_
  rintro e w1 ⟨rfl, t1, b1⟩
  have S1 := Lib.hid (born_any t1 tD_ne (.slice none 0 0) [] (itsAt_nil w1) (by omega))
  replace b1 := Lib.hid b1
  replace t1 := Lib.hid t1
  go_wp2_with fail
  refine S1.out.mono ?_
  rintro e w2 ⟨rfl, ⟨v2, t2, -⟩, g2⟩
  have B2 := Lib.hid (b1.out.grown g2 b1.out.size (fun j hj => by cases hj; exact Nat.le_refl _))
  have S2 := Lib.hid (online_any t2 tD_ne)
  have S3 := Lib.hid (dies_on t2 tD_ne)
  clear g2
  replace t2 := Lib.hid t2
  go_wp2_with fail
  refine S2.out.mono ?_
  rintro e w3 ⟨rfl, rfl⟩
  go_wp2_with fail
  refine S3.out.mono ?_
  rintro e w4 ⟨rfl, ⟨v4, t4, -⟩, g4⟩
  have B4 := Lib.hid (B2.out.grown g4 B2.out.size (fun j hj => by cases hj; exact Nat.le_refl _))
  have S5 := Lib.hid (told_off t4 tD_ne none 0 0)
  clear g4
  replace t4 := Lib.hid t4
  go_wp2_with fail
  refine S5.out.mono ?_
  rintro e w5 ⟨rfl, ⟨v5, t5, -⟩, g5⟩
  have B5 := Lib.hid (B4.out.grown g5 B4.out.size (fun j hj => by cases hj; exact Nat.le_refl _))
  have S6 := Lib.hid (lives_any t5 tD_ne)
  clear g5
  replace t5 := Lib.hid t5
  go_wp2_with fail
  refine S6.out.mono ?_
  rintro e w6 ⟨rfl, rfl⟩
  go_wp2_with fail
  go_ret
  exact ⟨rfl, B5.out⟩
end Go.Proofs.Ytdljddghbkcddaa
