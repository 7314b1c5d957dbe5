/-
  DeviceZero: awake, and the law itself, walked in place.
-/
import Derived.Test.YtdcnnghnnahhcaaProg
import Derived.Test.YtdcnnghnnahhcaaCom
import Derived.WalkLawsBesides
import Derived.WalkSpells
import Derived.Laws.OwnMore
import Derived.Deep.DeepMust
import Derived.Deep.DeepFit
import Derived.Outline
namespace Go.Proofs.Ytdcnnghnnahhcaa
open Go.RowKit

theorem alive94 (v : Value) (w : World) : (method 241 94 v "crier/device.alive").run Try.prog w = .ok (84, v) w := by kernel_rfl
theorem alive95 (v : Value) (w : World) : (method 241 95 v "crier/device.alive").run Try.prog w = .ok (85, v) w := by kernel_rfl
theorem alive96 (v : Value) (w : World) : (method 241 96 v "crier/device.alive").run Try.prog w = .ok (86, v) w := by kernel_rfl

theorem as94 (v : Value) (w : World) : (Instr.typeAssert (.iface 94 v) 101 94 true).run Try.prog w = .ok (.tuple #[v, .bool true]) w := by kernel_rfl
theorem as95 (v : Value) (w : World) : (Instr.typeAssert (.iface 95 v) 101 95 true).run Try.prog w = .ok (.tuple #[v, .bool true]) w := by kernel_rfl
theorem as96 (v : Value) (w : World) : (Instr.typeAssert (.iface 96 v) 101 96 true).run Try.prog w = .ok (.tuple #[v, .bool true]) w := by kernel_rfl
theorem no9594 (v : Value) (w : World) : (Instr.typeAssert (.iface 95 v) 101 94 true).run Try.prog w = .ok (.tuple #[.agg #[.slice none 0 0], .bool false]) w := by kernel_rfl
theorem no9694 (v : Value) (w : World) : (Instr.typeAssert (.iface 96 v) 101 94 true).run Try.prog w = .ok (.tuple #[.agg #[.slice none 0 0], .bool false]) w := by kernel_rfl
theorem no9695 (v : Value) (w : World) : (Instr.typeAssert (.iface 96 v) 101 95 true).run Try.prog w = .ok (.tuple #[.agg #[.slice none 0 0], .bool false]) w := by kernel_rfl

def View0 (w : World) (e : Ending) (w' : World) : Prop :=
  e = .returned (.agg #[.string { data := #[] }, .bool false, .slice none 0 0]) ∧ Below w.heap.size w w'
set_option maxRecDepth 100000 in
theorem view_nil (w : World) : Calls Try.prog 36 #[.pointer none] w (View0 w) := by
  go_enter Try.func36, Try.ntmps36
  go_wp2
  exact bodyPost_ret (v := .agg #[.string { data := #[] }, .bool false, .slice none 0 0]) (by simp [results, Try.results36, go_sem]) rfl ⟨rfl, by repeat (first | exact Below.refl _ _ | refine Below.drew ?_ | refine Below.alloc ?_ (by simp) _ | refine Below.setCell ?_ (by simp) _)⟩

set_option maxHeartbeats 2000000 in
set_option maxRecDepth 100000 in
theorem awake32_any (w : World) : Calls Try.prog 26 #[] w (Yes w) := by
  have m94 := alive94
  have m95 := alive95
  have m96 := alive96
  have n94 := as94
  have n95 := as95
  have n96 := as96
  have z1 := no9594
  have z2 := no9694
  have z3 := no9695
  have qT : ∀ (w : World) (a : Option Addr) (n c n' c' : Nat), (binOp .eql 30 (.slice a n c) (.slice none n' c')).run Try.prog w = .ok (.bool a.isNone) w := fun w a n c n' c' => Lib.run_eql_slice_nil w _ _ a n c n' c' Try.underlying30
  go_enter Try.func26, Try.ntmps26
  go_wp2
  go_ret
  exact ⟨rfl, by repeat (first | exact Below.refl _ _ | refine Below.drew ?_ | refine Below.alloc ?_ (by simp; omega) _ | refine Below.setCell ?_ (by simp; omega) _ | refine Below.alloc ?_ (by simp) _ | refine Below.setCell ?_ (by simp) _)⟩
end Go.Proofs.Ytdcnnghnnahhcaa
