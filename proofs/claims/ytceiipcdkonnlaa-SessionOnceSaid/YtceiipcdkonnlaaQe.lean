/-
  LAYER 22: a queue that nobody made; awake.
-/
import Derived.Test.YtceiipcdkonnlaaQc
import Derived.Test.YtceiipcdkonnlaaOw
import Derived.Deep.DeepMust
namespace Go.Proofs.Ytceiipcdkonnlaa.Quu
set_option linter.unusedSimpArgs false
set_option linter.unusedVariables false
open Go.RowKit
/-- No queue at all, or one that nobody made. -/
def NoQ (w : World) (p : Option Addr) : Prop := ∀ W, Below w.heap.size w W → Calls Try.prog 52 #[.pointer p] W fun e w' => e = .returned (.bool true) ∧ W = w'
theorem noQ_nil (w : World) : NoQ w none := fun W _ => none_nil W
theorem noQ_zero {w : World} {g : Nat} (hg : g < w.heap.size) (h : w.cell? ⟨g, 0, none⟩ = some (.chan none)) : NoQ w (some ⟨g, 0, none⟩) :=
  fun W hb => none_zero W ((hb.cell (by simpa using hg)).trans h)
theorem NoQ.keep {w w' : World} {p : Option Addr} (h : NoQ w p) (hb : Below w.heap.size w w') : NoQ w' p := fun W b => h W (ext_trans hb b)
theorem eql46_ns (a : Addr) (w : World) : (binOp .eql 64 (.pointer none) (.pointer (some a))).run Try.prog w = .ok (.bool false) w := by
  have h : ∀ d : Nat, (Op.equalIn (d + 1) 64 (.pointer none) (.pointer (some a))).run Try.prog w = .ok false w := fun d => by
    simp [Op.equalIn, run_underlying Try.underlying64]
  simp only [binOp]
  simp [Op.equal, Op.maxDepth, h 9999]
section
variable {w : World} {p : Option Addr}
theorem put_0 (h : NoQ w p) (m : Mg) : Calls Try.prog 35 #[.pointer p, m.v] w fun e w' => e = .returned (.bool false) ∧ Below w.heap.size w w' := by
  have N := Lib.hid h
  clear h
  go_enter Try.func35, Try.ntmps35
  go_wp2_with fail
  refine (N.out _ (ext_alloc _ _)).mono ?_
  rintro e w' ⟨rfl, rfl⟩
  go_wp2
  go_ret
  exact ⟨rfl, ext_alloc _ _⟩
theorem len_0 (h : NoQ w p) : Calls Try.prog 53 #[.pointer p] w fun e w' => e = .returned (.int .i64 0) ∧ w = w' := by
  have N := Lib.hid (h _ (Below.refl _ _))
  clear h
  go_enter Try.func53, Try.ntmps53
  go_wp2_with fail
  refine N.out.mono ?_
  rintro e w' ⟨rfl, rfl⟩
  go_wp2
  go_ret
  exact ⟨rfl, rfl⟩
theorem lost_0 (h : NoQ w p) : Calls Try.prog 41 #[.pointer p] w fun e w' => e = .returned (.int .i64 0) ∧ w = w' := by
  have N := Lib.hid (h _ (Below.refl _ _))
  clear h
  go_enter Try.func41, Try.ntmps41
  go_wp2_with fail
  refine N.out.mono ?_
  rintro e w' ⟨rfl, rfl⟩
  go_wp2
  go_ret
  exact ⟨rfl, rfl⟩
set_option maxRecDepth 100000 in
theorem take_0 (h : NoQ w p) : Calls Try.prog 55 #[.pointer p] w fun e w' => e = .returned (.tuple #[mZ.v, .bool false]) ∧ Below w.heap.size w w' := by
  have N := Lib.hid h
  clear h
  go_enter Try.func55, Try.ntmps55
  go_wp2_with fail
  refine (N.out _ (ext_alloc _ _)).mono ?_
  rintro e w' ⟨rfl, rfl⟩
  go_wp2
  refine bodyPost_ret (v := .tuple #[mZ.v, .bool false]) (by simp [results, Try.results55, go_sem, Mg.v, mZ]) rfl ⟨rfl, ?_⟩
  exact ext_alloc _ _
set_option maxRecDepth 100000 in
theorem all_0 (h : NoQ w p) : Calls Try.prog 39 #[.pointer p] w fun e w' => e = .returned (.slice none 0 0) ∧ w = w' := by
  have N := Lib.hid (len_0 h)
  clear h
  go_enter Try.func39, Try.ntmps39
  go_wp2_with fail
  refine N.out.mono ?_
  rintro e w' ⟨rfl, rfl⟩
  go_wp2
  go_loopw [3, 8] (fun a i wr => a = .slice none 0 0 ∧ i = .int .i64 0 ∧ w = wr) (fun _ _ _ => 0)
  case atStart => exact ⟨rfl, rfl, rfl⟩
  case round =>
    obtain ⟨rfl, rfl, rfl⟩ := hrel
    go_wp2
    go_ret
    exact ⟨rfl, rfl⟩
def m1 : Mg := ⟨{ data := #[97] }, { data := #[] }, 0, false⟩
end
end Go.Proofs.Ytceiipcdkonnlaa.Quu
