/-
  LAYER 12: a framer that nobody made.
-/
import Derived.Test.YtceiipcdkonnlaaDoorTi
namespace Go.Proofs.YtceiipcdkonnlaaDoor
open Go.RowKit
set_option linter.unusedVariables false
set_option linter.unusedSimpArgs false
/-- No framer: nil, or one that nobody made. -/
def NoF (w : World) (p : Option Addr) : Prop := p = none ∨ ∃ z, p = some ⟨z, 0, none⟩ ∧ w.cell? ⟨z, 0, none⟩ = some (.bool false)
section
variable {w : World} {p : Option Addr}
theorem NoF.ext {w' : World} (h : NoF w p) (hb : Below w.heap.size w w') : NoF w' p := by
  rcases h with h | ⟨z, hz, hc⟩
  · exact .inl h
  · exact .inr ⟨z, hz, (hb.cell (p := ⟨z, 0, none⟩) (World.block_lt_of_cell? w _ hc)).trans hc⟩
theorem z_none (h : NoF w p) : Calls Tryd.prog 21 #[.pointer p] w fun e w' => e = .returned (.bool true) ∧ w = w' := by
  rcases h with rfl | ⟨z, rfl, hc⟩
  all_goals
    go_enter Tryd.func21, Tryd.ntmps21
    go_wp2_with fail
    go_ret
    exact ⟨rfl, rfl⟩
theorem z_feed (h : NoF w p) (s : ByteArray) : Calls Tryd.prog 9 #[.pointer p, .string s] w fun e w' => e = .returned (.int .i64 8) ∧ w = w' := by
  have N := Lib.hid (z_none h)
  clear h
  go_enter Tryd.func9, Tryd.ntmps9
  go_wp2_with fail
  refine N.out.mono ?_
  rintro e w' ⟨rfl, rfl⟩
  go_wp2_with fail
  go_ret
  exact ⟨rfl, rfl⟩
theorem z_waits (h : NoF w p) : Calls Tryd.prog 13 #[.pointer p] w fun e w' => e = .returned (.int .i64 0) ∧ w = w' := by
  have N := Lib.hid (z_none h)
  clear h
  go_enter Tryd.func13, Tryd.ntmps13
  go_wp2_with fail
  refine N.out.mono ?_
  rintro e w' ⟨rfl, rfl⟩
  go_wp2_with fail
  go_ret
  exact ⟨rfl, rfl⟩
theorem z_taken (h : NoF w p) : Calls Tryd.prog 14 #[.pointer p] w fun e w' => e = .returned (.int .i64 0) ∧ w = w' := by
  have N := Lib.hid (z_none h)
  clear h
  go_enter Tryd.func14, Tryd.ntmps14
  go_wp2_with fail
  refine N.out.mono ?_
  rintro e w' ⟨rfl, rfl⟩
  go_wp2_with fail
  go_ret
  exact ⟨rfl, rfl⟩
theorem z_dead (h : NoF w p) : Calls Tryd.prog 15 #[.pointer p] w fun e w' => e = .returned (.bool false) ∧ w = w' := by
  have N := Lib.hid (z_none h)
  clear h
  go_enter Tryd.func15, Tryd.ntmps15
  go_wp2_with fail
  refine N.out.mono ?_
  rintro e w' ⟨rfl, rfl⟩
  go_wp2_with fail
  go_ret
  exact ⟨rfl, rfl⟩
theorem z_next (h : NoF w p) : Calls Tryd.prog 11 #[.pointer p] w fun e w' => e = .returned (ansV zR false 8) ∧ Below w.heap.size w w' := by
  have N := Lib.hid (z_none (h.ext (ext_alloc w (.cells #[.int .i64 0, .int .i64 0, .int .i64 0, .string ⟨#[]⟩] 35))))
  clear h
  go_enter Tryd.func11, Tryd.ntmps11
  go_wp2_with fail
  refine N.out.mono ?_
  rintro e w' ⟨rfl, rfl⟩
  go_wp2_with fail
  refine bodyPost_ret (v := ansV zR false 8) (by simp [results, Tryd.results11, go_sem, zR, ansV]) rfl ⟨rfl, ?_⟩
  repeat (first | exact ext_alloc _ _ | refine Below.drew ?_ | refine Below.alloc ?_ (by first | omega | (simp; omega) | simp) _ | refine Below.setCell ?_ (by first | omega | (simp; omega) | simp) _)
end
end Go.Proofs.YtceiipcdkonnlaaDoor
