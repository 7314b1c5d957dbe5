/-
  LAYER 24: awake; an inbox that nobody made.
-/
import Derived.Test.YtaannopaipjcoaaIe
namespace Go.Proofs.Ytaannopaipjcoaa
open Go.RowKit

theorem sorted_nil : Sorted [] := fun _ _ _ h => by simp at h
theorem sorted_one (x : Int) : Sorted [x] := fun i j hij hj => by simp at hj; omega
theorem below_drewN {B : Nat} {a w : World} (h : Below B a w) (n : Nat) : Below B a (w.drewN n) := ⟨h.os, h.tape, h.output, h.size, h.block⟩

set_option maxHeartbeats 1000000 in
set_option maxRecDepth 100000 in
theorem awake24_any (w : World) : Calls Try.prog 34 #[] w (Yes w) := by
  go_enter Try.func34, Try.ntmps34
  go_wp2_with fail
  refine (new24_any w).mono ?_
  rintro e w1 ⟨rfl, hb1, b1⟩
  have C1 := Lib.hid (come_new w.heap.size w.heap.size 0 _ 5 w1 (Nat.le_refl _) hb1 sorted_nil (by omega) (by omega) (by omega) (by decide))
  go_wp2_with fail
  refine C1.out.mono ?_
  rintro e w2 ⟨rfl, A, M, R, hA, hAl, hb2, b2⟩
  obtain ⟨rfl, rfl⟩ : A = [] ∧ M = [] := by simpa using hA
  have C2 := Lib.hid (come_there w.heap.size 1 _ 5 w2 hb2 (sorted_one 5) (by omega) (by omega) (show foundIn 5 [5] = true by decide))
  have HB2 := Lib.hid hb2
  clear C1 hA hAl hb2 hb1
  go_wp2_with fail
  refine C2.out.mono ?_
  rintro e w3 ⟨k, rfl, rfl⟩
  have C3 := Lib.hid (done_yes w.heap.size w.heap.size 1 _ 5 (w2.drewN k) (Nat.le_refl _) (HB2.out.drewN k) (sorted_one 5) (show foundIn 5 [5] = true by decide))
  go_wp2_with fail
  refine C3.out.mono ?_
  rintro e w4 ⟨rfl, A, M, R', z, hA, hb4, b4⟩
  have C4 := Lib.hid (len_any w.heap.size 0 _ w4 hb4)
  clear hA hb4
  go_wp2_with fail
  refine C4.out.mono ?_
  rintro e w5 ⟨rfl, rfl⟩
  go_wp2
  go_ret
  exact ⟨rfl, b1.trans (b2.trans (below_drewN (Below.refl _ _) k |>.trans b4))⟩
set_option maxHeartbeats 1000000 in
set_option maxRecDepth 100000 in
theorem zero24_any (n : Int) (w : World) : Calls Try.prog 10 #[.int .i64 n] w (Yes w) := by
  go_enter Try.func10, Try.ntmps10
  go_wp2_with (first | (go_at_call 34; refine (awake24_any _).mono ?_; rintro e w' ⟨rfl, hb⟩) | go_in)
  go_ret
  exact ⟨rfl, ext_trans (by repeat (first | exact Below.refl _ _ | refine Below.drew ?_ | refine Below.alloc ?_ (by simp) _ | refine Below.setCell ?_ (by simp) _)) hb⟩
end Go.Proofs.Ytaannopaipjcoaa
