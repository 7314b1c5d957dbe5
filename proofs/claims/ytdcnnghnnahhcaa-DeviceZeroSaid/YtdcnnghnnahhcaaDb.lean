/-
  DeviceZero: the law itself.
-/
import Derived.Test.YtdcnnghnnahhcaaDa
namespace Go.Proofs.Ytdcnnghnnahhcaa
open Go.RowKit

set_option maxRecDepth 100000 in
theorem view_zero (g : Nat) (w : World) (hc : w.cell? ⟨g, 0, none⟩ = some (.string { data := #[] })) : Calls Try.prog 36 #[.pointer (some ⟨g, 0, none⟩)] w (View0 w) := by
  go_enter Try.func36, Try.ntmps36
  have hg : g < w.heap.size := by
    by_cases h : g < w.heap.size
    · exact h
    · rw [show w.cell? ⟨g, 0, none⟩ = none from by unfold World.cell?; simp [Array.getElem?_eq_none (show w.heap.size ≤ g by omega)]] at hc
      cases hc
  have hc1 : ∀ o, (w.alloc o).cell? ⟨g, 0, none⟩ = some (.string { data := #[] }) := fun o => by rw [World.cell?_alloc_past _ _ _ hg]; exact hc
  go_wp2
  exact bodyPost_ret (v := .agg #[.string { data := #[] }, .bool false, .slice none 0 0]) (by simp [results, Try.results36, go_sem]) rfl ⟨rfl, by repeat (first | exact Below.refl _ _ | refine Below.drew ?_ | refine Below.alloc ?_ (by simp) _ | refine Below.setCell ?_ (by simp) _)⟩

set_option maxHeartbeats 1000000 in
set_option maxRecDepth 100000 in
theorem same_00 (w : World) : Calls Try.prog 35 #[.agg #[.string { data := #[] }, .bool false, .slice none 0 0], .agg #[.string { data := #[] }, .bool false, .slice none 0 0]] w (Yes w) := by
  go_enter Try.func35, Try.ntmps35
  go_wp2_with fail
  refine wp_loop_rounds 1 ?_
  rw [rounds_succ]
  go_wp2
  go_ret
  exact ⟨rfl, by repeat (first | exact Below.refl _ _ | refine Below.drew ?_ | refine Below.alloc ?_ (by simp; omega) _ | refine Below.alloc ?_ (by simp) _)⟩
end Go.Proofs.Ytdcnnghnnahhcaa
