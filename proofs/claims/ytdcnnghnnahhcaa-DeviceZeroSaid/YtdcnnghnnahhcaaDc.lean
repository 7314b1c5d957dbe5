/-
  DeviceZero: the law itself, its callees by their contracts.
-/
import Derived.Test.YtdcnnghnnahhcaaDb
namespace Go.Proofs.Ytdcnnghnnahhcaa
open Go.RowKit

theorem view_any (v : Value) (w : World) (h : v = .pointer none ∨ ∃ g, v = .pointer (some ⟨g, 0, none⟩) ∧ w.cell? ⟨g, 0, none⟩ = some (.string { data := #[] })) : Calls Try.prog 36 #[v] w (View0 w) := by
  rcases h with rfl | ⟨g, rfl, hc⟩
  · exact view_nil w
  · exact view_zero g w hc
def zrow : Array Value := #[.string { data := #[] }, .bool false, .slice none 0 0, .int .i64 0]
theorem zcell (w : World) (j : Nat) (u : Value) (h : zrow[j]? = some u) : (w.alloc (.cells zrow 80)).cell? ⟨w.heap.size, j, none⟩ = some u := by
  have hr := heap_alloc_new w (.cells zrow 80)
  rw [cell_of_row _ _ _ _ 80 (0, 0) hr]
  exact h
theorem zkeep {w w1 : World} (g : Nat) (h : Below w.heap.size w w1) (hg : g < w.heap.size) {j : Nat} {u : Value} (hc : w.cell? ⟨g, j, none⟩ = some u) : w1.cell? ⟨g, j, none⟩ = some u := by
  unfold World.cell? at *
  simp only [h.block g hg]
  exact hc
theorem fld2 (w : World) : (Instr.field 64 (.agg #[.string { data := #[] }, .bool false, .slice none 0 0]) 2).run Try.prog w = .ok (.slice none 0 0) w := by kernel_rfl
theorem fld0 (w : World) : (Instr.field 64 (.agg #[.string { data := #[] }, .bool false, .slice none 0 0]) 0).run Try.prog w = .ok (.string { data := #[] }) w := by kernel_rfl

set_option maxHeartbeats 2000000 in
set_option maxRecDepth 100000 in
theorem dzero_any (a : Option Addr) (n c : Nat) (w : World) : Calls Try.prog 10 #[.slice a n c] w (Yes w) := by
  have c0 : (w.alloc (.cells #[.string { data := #[] }, .bool false, .slice none 0 0, .int .i64 0] 80)).cell? ⟨w.heap.size, 0, none⟩ = some (.string { data := #[] }) := zcell w 0 _ rfl
  have lt0 : w.heap.size < (w.alloc (.cells #[.string { data := #[] }, .bool false, .slice none 0 0, .int .i64 0] 80)).heap.size := by simp
  have f2 := fld2
  have f0 := fld0
  go_enter Try.func10, Try.ntmps10
  go_wp2_with (first
    | (go_at_call 36; go_must (refine (view_any _ _ (by first | exact .inl rfl | exact .inr ⟨_, rfl, by assumption⟩)).mono ?_); rintro e w1 ⟨rfl, hb1⟩; have c1 := zkeep w.heap.size hb1 (by assumption) (by assumption); have lt1 := Nat.lt_of_lt_of_le (by assumption : w.heap.size < _) hb1.size)
    | (go_at_call 35; refine (same_00 _).mono ?_; rintro e w2 ⟨rfl, hb2⟩; have c2 := zkeep w.heap.size hb2 (by assumption) (by assumption); have lt2 := Nat.lt_of_lt_of_le (by assumption : w.heap.size < _) hb2.size)
    | (go_at_call 26; refine (awake32_any _).mono ?_; rintro e w3 ⟨rfl, hb3⟩)
    | go_in)
  go_ret
  refine ⟨rfl, ?_⟩
  repeat (first | exact ext_alloc _ _ | refine Below.drew ?_ | refine Below.trans ?_ (Below.mono (by assumption) (by omega)))
end Go.Proofs.Ytdcnnghnnahhcaa
