/-
  LAYER 17: strings.IndexRune("+#", r) is -1, for a rune r that is RuneError.
-/
import Derived.Test.YtfdaooaooalknaaSc
import Derived.LoopN
import Derived.Deep.QuietTactic
import Derived.BigQuiet
import Derived.WalkSmall
namespace Go.Proofs.Ytfdaooaooalknaa
set_option linter.unusedSimpArgs false
set_option linter.unusedVariables false
open Go.RowKit
set_option maxHeartbeats 8000000 in
set_option maxRecDepth 10000000 in
theorem ir_e (w : World) : Calls Try.prog 54 #[.string ⟨#[43, 35]⟩, .int .i32 65533] w fun e w' => e = .returned (.int .i64 (-1)) ∧ Below w.heap.size w w' := by
  have d0 : Utf8.decode ⟨#[43, 35]⟩ 0 = (43, 1) := by decide +kernel
  have d1 : Utf8.decode ⟨#[43, 35]⟩ 1 = (35, 1) := by decide +kernel
  have n0 : ∀ ty, (Instr.next (.pointer (some ⟨w.heap.size, 0, none⟩)) true ty).run Try.prog (w.iter ⟨#[43, 35]⟩ 0) = _ := fun ty => run_next_any w ⟨#[43, 35]⟩ 0 ty (by decide)
  have n1 : ∀ ty, (Instr.next (.pointer (some ⟨w.heap.size, 0, none⟩)) true ty).run Try.prog (w.iter ⟨#[43, 35]⟩ 1) = _ := fun ty => run_next_any w ⟨#[43, 35]⟩ 1 ty (by decide)
  have n2 : ∀ ty, (Instr.next (.pointer (some ⟨w.heap.size, 0, none⟩)) true ty).run Try.prog (w.iter ⟨#[43, 35]⟩ 2) = _ := fun ty => run_next_end w ⟨#[43, 35]⟩ 2 ty (by decide)
  rw [d0] at n0
  rw [d1] at n1
  simp only at n0 n1
  clear d0 d1
  have hb2 := Lib.hid (iter_below w ⟨#[43, 35]⟩ 2)
  go_enter Try.func54, Try.ntmps54
  go_wp2_with fail
  first
    | go_step3
    | skip
  first
    | (go_wp2_with fail)
    | skip
  refine wp_loop_rounds 3 ?_
  rw [rounds_succ]
  go_wp2_with fail
  first
    | rw [rounds_succ]
  go_wp2_with fail
  first
    | rw [rounds_succ]
  go_wp2_with fail
  first
    | (go_ret; exact ⟨rfl, hb2.out⟩)
    | (simp only [Exit.noGoto, Exit.inBlock]; go_ret; exact ⟨rfl, hb2.out⟩)
    | (go_wp2; go_ret; exact ⟨rfl, hb2.out⟩)
end Go.Proofs.Ytfdaooaooalknaa
