/-
  LAYER 22: a queue that nobody made; awake.
-/
import Derived.Test.YtoijdmchkjmpgaaQc
import Derived.Test.YtoijdmchkjmpgaaOw
import Derived.Deep.DeepMust
namespace Go.Proofs.Ytoijdmchkjmpgaa.Que
open Go.RowKit
/-- No queue at all, or one that nobody made. -/
def NoQ (w : World) (p : Option Addr) : Prop := ∀ W, Below w.heap.size w W → Calls Try.prog 55 #[.pointer p] W fun e w' => e = .returned (.bool true) ∧ W = w'
theorem noQ_nil (w : World) : NoQ w none := fun W _ => none_nil W
theorem noQ_zero {w : World} {g : Nat} (hg : g < w.heap.size) (h : w.cell? ⟨g, 0, none⟩ = some (.chan none)) : NoQ w (some ⟨g, 0, none⟩) :=
  fun W hb => none_zero W ((hb.cell (by simpa using hg)).trans h)
theorem NoQ.keep {w w' : World} {p : Option Addr} (h : NoQ w p) (hb : Below w.heap.size w w') : NoQ w' p := fun W b => h W (ext_trans hb b)
theorem eql46_ns (a : Addr) (w : World) : (binOp .eql 46 (.pointer none) (.pointer (some a))).run Try.prog w = .ok (.bool false) w := by
  have h : ∀ d : Nat, (Op.equalIn (d + 1) 46 (.pointer none) (.pointer (some a))).run Try.prog w = .ok false w := fun d => by
    simp [Op.equalIn, run_underlying Try.underlying46]
  simp only [binOp]
  simp [Op.equal, Op.maxDepth, h 9999]
section
variable {w : World} {p : Option Addr}
theorem put_0 (h : NoQ w p) (m : Mg) : Calls Try.prog 28 #[.pointer p, m.v] w fun e w' => e = .returned (.bool false) ∧ Below w.heap.size w w' := by
  have N := Lib.hid h
  clear h
  go_enter Try.func28, Try.ntmps28
  go_wp2_with fail
  refine (N.out _ (ext_alloc _ _)).mono ?_
  rintro e w' ⟨rfl, rfl⟩
  go_wp2
  go_ret
  exact ⟨rfl, ext_alloc _ _⟩
theorem len_0 (h : NoQ w p) : Calls Try.prog 36 #[.pointer p] w fun e w' => e = .returned (.int .i64 0) ∧ w = w' := by
  have N := Lib.hid (h _ (Below.refl _ _))
  clear h
  go_enter Try.func36, Try.ntmps36
  go_wp2_with fail
  refine N.out.mono ?_
  rintro e w' ⟨rfl, rfl⟩
  go_wp2
  go_ret
  exact ⟨rfl, rfl⟩
theorem lost_0 (h : NoQ w p) : Calls Try.prog 37 #[.pointer p] w fun e w' => e = .returned (.int .i64 0) ∧ w = w' := by
  have N := Lib.hid (h _ (Below.refl _ _))
  clear h
  go_enter Try.func37, Try.ntmps37
  go_wp2_with fail
  refine N.out.mono ?_
  rintro e w' ⟨rfl, rfl⟩
  go_wp2
  go_ret
  exact ⟨rfl, rfl⟩
set_option maxRecDepth 100000 in
theorem full_0 (h : NoQ w p) : Calls Try.prog 40 #[.pointer p] w fun e w' => ∃ k, e = .returned (.bool true) ∧ w' = w.drewN k := by
  have N := Lib.hid (fun n => h _ (ext_drewN w n))
  clear h
  go_enter Try.func40, Try.ntmps40
  go_wp2
  go_quiet ((go_at_call 55; exact Calls.quiet_of_same ((N.out _).mono fun _ _ h => ⟨h.1, h.2.symm⟩)))
  go_wp2
  go_ret
  exact ⟨_, rfl, rfl⟩
set_option maxRecDepth 100000 in
theorem take_0 (h : NoQ w p) : Calls Try.prog 30 #[.pointer p] w fun e w' => e = .returned (.tuple #[mZ.v, .bool false]) ∧ Below w.heap.size w w' := by
  have N := Lib.hid h
  clear h
  go_enter Try.func30, Try.ntmps30
  go_wp2_with fail
  refine (N.out _ (ext_alloc _ _)).mono ?_
  rintro e w' ⟨rfl, rfl⟩
  go_wp2
  refine bodyPost_ret (v := .tuple #[mZ.v, .bool false]) (by simp [results, Try.results30, go_sem, Mg.v, mZ]) rfl ⟨rfl, ?_⟩
  exact ext_alloc _ _
set_option maxRecDepth 100000 in
theorem clear_0 (h : NoQ w p) : Calls Try.prog 32 #[.pointer p] w fun e w' => e = .returned (.int .i64 0) ∧ w = w' := by
  have N := Lib.hid (len_0 h)
  clear h
  go_enter Try.func32, Try.ntmps32
  go_wp2_with fail
  refine N.out.mono ?_
  rintro e w' ⟨rfl, rfl⟩
  go_wp2
  go_loopw [7] (fun i wr => i = .int .i64 0 ∧ w = wr) (fun _ _ => 0)
  case atStart => exact ⟨rfl, rfl⟩
  case round =>
    obtain ⟨rfl, rfl⟩ := hrel
    go_wp2
    go_ret
    exact ⟨rfl, rfl⟩
set_option maxRecDepth 100000 in
theorem all_0 (h : NoQ w p) : Calls Try.prog 38 #[.pointer p] w fun e w' => e = .returned (.slice none 0 0) ∧ w = w' := by
  have N := Lib.hid (len_0 h)
  clear h
  go_enter Try.func38, Try.ntmps38
  go_wp2_with fail
  refine N.out.mono ?_
  rintro e w' ⟨rfl, rfl⟩
  go_wp2
  go_loopw [3, 8] (fun a i wr => a = .slice none 0 0 ∧ i = .int .i64 0 ∧ w = wr) (fun _ _ _ => 0)
  case atStart => exact ⟨rfl, rfl, rfl⟩
  case round =>
    obtain ⟨rfl, rfl, rfl⟩ := hrel
    go_wp2
    go_ret
    exact ⟨rfl, rfl⟩
set_option maxRecDepth 100000 in
theorem move_0 {g : Nat} (h : NoQ w (some ⟨g, 0, none⟩)) : Calls Try.prog 33 #[.pointer none, .pointer (some ⟨g, 0, none⟩)] w fun e w' => e = .returned (.int .i64 0) ∧ w = w' := by
  have N := Lib.hid (len_0 h)
  have he := eql46_ns ⟨g, 0, none⟩ w
  clear h
  go_enter Try.func33, Try.ntmps33
  go_wp2
  go_loopw [5] (fun i wr => i = .int .i64 0 ∧ w = wr) (fun _ _ => 0)
  case atStart => exact ⟨rfl, rfl⟩
  case round =>
    obtain ⟨rfl, rfl⟩ := hrel
    go_wp2_with fail
    refine N.out.mono ?_
    rintro e w' ⟨rfl, rfl⟩
    go_wp2
    go_ret
    exact ⟨rfl, rfl⟩
end
def m1 : Mg := ⟨{ data := #[97] }, { data := #[] }, 0, false⟩
set_option maxHeartbeats 1000000 in
set_option maxRecDepth 100000 in
theorem awake22_any (w : World) : Calls Try.prog 27 #[] w (Yes w) := by
  have N := Lib.hid (new_any 1 w (by omega) (by omega))
  go_enter Try.func27, Try.ntmps27
  go_wp2_with fail
  refine N.out.mono ?_
  rintro e w1 ⟨rfl, q1, b1, z1⟩
  have P1 := Lib.hid (put_yes q1 m1 (by simp))
  clear N q1 z1
  go_wp2_with fail
  refine P1.out.mono ?_
  rintro e w2 ⟨rfl, q2, g2⟩
  have b2 := b1.grown g2 b1.size (fun k hk => by cases hk; exact Nat.le_refl _)
  have P2 := Lib.hid (put_no q2 mZ (by simp) (by omega) (by omega))
  clear q2 b1 g2 P1
  go_wp2_with fail
  refine P2.out.mono ?_
  rintro e w3 ⟨rfl, q3, g3⟩
  have b3 := Lib.hid (b2.grown g3 b2.size (fun k hk => by cases hk; omega))
  have L3 := Lib.hid (lost_any q3)
  have F3 := Lib.hid (full_yes q3 (by simp) (by omega))
  have N3 := Lib.hid (fun k => len_any (q3.drewN k) (by simp))
  clear q3 b2 g3 P2
  go_wp2_with fail
  refine L3.out.mono ?_
  rintro e w4 ⟨rfl, rfl⟩
  go_wp2_with fail
  refine F3.out.mono ?_
  rintro e w4 ⟨k, rfl, rfl⟩
  go_wp2_with fail
  refine (N3.out _).mono ?_
  rintro e w4 ⟨rfl, rfl⟩
  go_wp2
  go_ret
  exact ⟨rfl, below_drewN b3.out _⟩
end Go.Proofs.Ytoijdmchkjmpgaa.Que
