/-
  LAYER 1: the document's Get, Put, Zig, Zag.
-/
import Derived.Test.YtoglgdkeknojkaaGe
namespace Go.Proofs.Ytoglgdkeknojkaa
open Go.RowKit

theorem get_arg (a : Option Addr) (len cap : Nat) (k : Int) (w : World) (h0 : -9223372036854775808 ≤ k) (h1 : k ≤ 9223372036854775807) (h : k < 0 ∨ (0 ≤ k ∧ (len : Int) < k)) :
    Calls Try.prog 63 #[.slice a len cap, .int .i64 k] w fun e w' => e = .returned (.tuple #[.int .u64 0, .int .i64 0, .int .i64 1]) ∧ Below w.heap.size w w' := by
  rcases h with h | ⟨h, h2⟩
  all_goals
    go_enter Try.func63, Try.ntmps63
    go_wp2
    go_step3
    go_wp2
    rw [Exit.noGoto_ret]
    exact bodyPost_ret (v := .tuple #[.int .u64 0, .int .i64 0, .int .i64 1]) (by simp [results, Try.results63, go_sem]) rfl ⟨rfl, by repeat (first | exact Below.refl _ _ | refine Below.drew ?_ | refine Below.alloc ?_ (by simp <;> omega) _ | refine Below.setCell ?_ (by simp <;> omega) _)⟩
theorem rget_arg (a : Option Addr) (len cap : Nat) (k : Int) (w : World) (h0 : -9223372036854775808 ≤ k) (h1 : k ≤ 9223372036854775807) (h : k < 0 ∨ (0 ≤ k ∧ (len : Int) < k)) :
    Calls Try.prog 40 #[.slice a len cap, .int .i64 k] w fun e w' => e = .returned (.tuple #[.int .u64 0, .int .i64 0, .int .i64 1]) ∧ w = w' := by
  rcases h with h | ⟨h, h2⟩
  all_goals
    go_enter Try.func40, Try.ntmps40
    go_wp2
    go_ret3
    exact ⟨rfl, rfl⟩
end Go.Proofs.Ytoglgdkeknojkaa
