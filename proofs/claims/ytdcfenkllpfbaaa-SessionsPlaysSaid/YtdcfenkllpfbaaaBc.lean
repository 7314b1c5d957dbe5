/-
  LAYER 28: a new session, offline; Deliver, Queue.
-/
import Derived.Test.YtdcfenkllpfbaaaBb
import Derived.Test.YtdcfenkllpfbaaaQg
import Derived.Test.YtdcfenkllpfbaaaUc
import Derived.Deep.RegionHeld3
namespace Go.Proofs.Ytdcfenkllpfbaaa.Sns
set_option linter.unusedVariables false
set_option linter.unusedSimpArgs false
open Go.Proofs.Ytdcfenkllpfbaaa
open Go.RowKit
set_option maxHeartbeats 8000000 in
theorem ids_new (w : World) : Calls Try.prog 53 #[.int .i64 8] w fun e w' => e = .returned (.tuple #[.pointer (some ⟨w.heap.size, 0, none⟩), .int .i64 0]) ∧ Below w.heap.size w w' ∧ w'.heap.size = w.heap.size + 1 := by
  go_enter Try.func53, Try.ntmps53
  go_wp2_with fail
  go_ret2
  exact ⟨rfl, (Below.refl _ _).alloc (by simp) _, by simp⟩
set_option maxHeartbeats 8000000 in
theorem f_new (w : World) : Calls Try.prog 40 #[] w fun e w' => e = .returned (.pointer (some ⟨w.heap.size + 1, 0, none⟩)) ∧ Below w.heap.size w w' ∧ w'.heap.size = w.heap.size + 2 := by
  have I := Lib.hid (ids_new w)
  go_enter Try.func40, Try.ntmps40
  go_wp2_with fail
  refine I.out.mono ?_
  rintro e w1 ⟨rfl, b1, z1⟩
  replace b1 := Lib.hid b1
  go_wp2_with fail
  go_ret
  exact ⟨rfl, b1.out.alloc (by omega) _, by simp [z1]⟩
set_option maxHeartbeats 8000000 in
theorem i_new (w : World) : Calls Try.prog 41 #[] w fun e w' => e = .returned (.pointer (some ⟨w.heap.size, 0, none⟩)) ∧ Below w.heap.size w w' ∧ w'.heap.size = w.heap.size + 1 := by
  go_enter Try.func41, Try.ntmps41
  go_wp2_with fail
  go_ret
  exact ⟨rfl, (Below.refl _ _).alloc (by simp) _, by simp⟩
/-- What a new session has. -/
def NewIs (w : World) (cl : ByteArray) (cn : Bool) (e : Ending) (w' : World) : Prop :=
  ∃ s p g c, e = .returned (.tuple #[.pointer (some ⟨s, 0, none⟩), .int .i64 0]) ∧ Sn w' s p g cl cn ∧ Quu.Qu w' g c 16 [] 0 ∧ Below w.heap.size w w' ∧ w.heap.size ≤ s ∧ w.heap.size ≤ p ∧ w.heap.size ≤ g ∧ w.heap.size ≤ c
set_option maxHeartbeats 8000000 in
theorem new_ok (cl : ByteArray) (cn : Bool) (w : World) (hs : cl.size ≤ 32) (hne : cl.toList.isEmpty = false) (hr : rightB cl = true) : Calls Try.prog 25 #[.string cl, .bool cn] w (NewIs w cl cn) := by
  have RA := right_any cl w
  rw [hr] at RA
  replace RA := Lib.hid RA
  have QN : Hid (∀ w1 : World, Calls Try.prog 39 #[.int .i64 16] w1 fun e w' => e = .returned (.tuple #[.pointer (some ⟨w1.heap.size + 1, 0, none⟩), .int .i64 0]) ∧ Quu.Qu w' (w1.heap.size + 1) w1.heap.size 16 [] 0 ∧ Below w1.heap.size w1 w' ∧ w'.heap.size = w1.heap.size + 2) := Lib.hid fun w1 => Quu.new_any 16 w1 (by decide) (by decide)
  have hs' : (cl.size : Int) ≤ 32 := by omega
  replace hr := Lib.hid hr
  clear hs
  go_enter Try.func25, Try.ntmps25
  go_wp2_with fail
  refine RA.out.mono ?_
  rintro e w1 ⟨rfl, b1⟩
  replace b1 := Lib.hid b1
  clear RA
  go_wp2_with fail
  refine (QN.out _).mono ?_
  rintro e w2 ⟨rfl, q2, b2, z2⟩
  replace b2 := Lib.hid b2
  replace q2 := Lib.hid q2
  replace z2 := Lib.hid z2
  clear QN
  go_wp2_with fail
  refine (f_new _).mono ?_
  rintro e w3 ⟨rfl, b3, z3⟩
  replace b3 := Lib.hid b3
  replace z3 := Lib.hid z3
  go_wp2_with fail
  refine (i_new _).mono ?_
  rintro e w4 ⟨rfl, b4, z4⟩
  replace b4 := Lib.hid b4
  replace z4 := Lib.hid z4
  go_wp2_with fail
  go_ret2
  have y1 := b1.out.size
  have y2 := z2.out
  have y3 := z3.out
  have y4 := z4.out
  have B35 : Below w3.heap.size w3 ((w4.alloc (.cells #[.pointer (some ⟨w1.heap.size + 1, 0, none⟩), .pointer (some ⟨w2.heap.size + 1, 0, none⟩), .pointer (some ⟨w3.heap.size, 0, none⟩)] 79)).alloc (.cells #[.string cl, .bool cn, .bool false, .pointer (some ⟨w4.heap.size, 0, none⟩)] 73)) := (b4.out.alloc b4.out.size _).alloc (by have := b4.out.size; simp; omega) _
  have B25 := b3.out.trans (B35.mono b3.out.size)
  refine ⟨w4.heap.size + 1, w4.heap.size, w1.heap.size + 1, w1.heap.size, by simp, ⟨?_, ?_⟩, q2.out.keep B25, b1.out.trans ((b2.out.trans (B25.mono b2.out.size)).mono y1), by omega, by omega, by omega, by omega⟩
  · have := heap_alloc_new (w4.alloc (.cells #[.pointer (some ⟨w1.heap.size + 1, 0, none⟩), .pointer (some ⟨w2.heap.size + 1, 0, none⟩), .pointer (some ⟨w3.heap.size, 0, none⟩)] 79)) (.cells #[.string cl, .bool cn, .bool false, .pointer (some ⟨w4.heap.size, 0, none⟩)] 73)
    simpa using this
  · refine ⟨.pointer (some ⟨w2.heap.size + 1, 0, none⟩), .pointer (some ⟨w3.heap.size, 0, none⟩), ?_⟩
    rw [Below.heap_alloc _ _ _ (by simp)]
    exact heap_alloc_new w4 _
set_option maxHeartbeats 8000000 in
theorem new_bad (cl : ByteArray) (cn : Bool) (w : World) (h : cl.size = 0 ∨ 32 < cl.size ∨ rightB cl = false) (hz : cl.size ≤ 140737488351232) : Calls Try.prog 25 #[.string cl, .bool cn] w fun e w' => e = .returned (.tuple #[.pointer none, .int .i64 1]) ∧ Below w.heap.size w w' := by
  by_cases h0 : cl.size = 0
  · have he : cl = ⟨#[]⟩ := by
      obtain ⟨⟨l⟩⟩ := cl
      cases l with
      | nil => rfl
      | cons a l => simp [ByteArray.size] at h0
    subst he
    go_enter Try.func25, Try.ntmps25
    go_wp2_with fail
    go_ret2
    exact ⟨rfl, Below.refl _ _⟩
  have hne : cl.toList.isEmpty = false := by
    rw [ByteArray.toList_eq]
    obtain ⟨⟨l⟩⟩ := cl
    cases l with
    | nil => simp [ByteArray.size] at h0
    | cons a l => rfl
  by_cases h32 : 32 < cl.size
  · have h' : (32 : Int) < (cl.size : Int) := by omega
    clear h h0
    go_enter Try.func25, Try.ntmps25
    go_wp2_with fail
    go_ret2
    exact ⟨rfl, Below.refl _ _⟩
  · have h' : ¬ (32 : Int) < (cl.size : Int) := by omega
    have hr : rightB cl = false := (h.resolve_left h0).resolve_left h32
    have RA := right_any cl w
    rw [hr] at RA
    replace RA := Lib.hid RA
    clear h h0 hr
    go_enter Try.func25, Try.ntmps25
    go_wp2_with fail
    refine RA.out.mono ?_
    rintro e w1 ⟨rfl, b1⟩
    go_wp2_with fail
    go_ret2
    exact ⟨rfl, b1⟩
end Go.Proofs.Ytdcfenkllpfbaaa.Sns
