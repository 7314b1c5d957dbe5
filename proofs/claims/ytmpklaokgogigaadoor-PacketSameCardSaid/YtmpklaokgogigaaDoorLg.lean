/-
  LAYER 16: how what a kind has is laid: body, flags, the ways.
-/
import Derived.Test.YtmpklaokgogigaaDoorLf
import Derived.Test.YtmpklaokgogigaaDoorRg
import Derived.Test.YtmpklaokgogigaaDoorHc
namespace Go.Proofs.YtmpklaokgogigaaDoor.Pac
set_option linter.unusedVariables false
set_option linter.unusedSimpArgs false
open Go.Proofs.YtmpklaokgogigaaDoor
open Go.RowKit
set_option maxRecDepth 100000 in
set_option maxHeartbeats 4000000 in
theorem body_4 (P : Pk) (f c : Value) (w : World) (hk : P.kind = 4) : Calls Tryd.prog 22 #[.agg (P.v f c)] w fun e w' => e = .returned (.func (.func 48) #[.agg (P.v f c)] #[]) ∧ Below w.heap.size w w' := by
  have K := Lib.hid (Blk.new w 61 (P.v f c))
  have c0 : (w.alloc (.cells (P.v f c) 61)).cell? ⟨w.heap.size, 0, none⟩ = some (.int .i64 4) := by rw [K.out.cell, ← hk]; rfl
  have sz : Hid ((Tryd.prog.info? 61).map (·.size) = some (P.v f c).size) := Lib.hid (by kernel_rfl)
  generalize P.v f c = cs at *
  clear hk
  go_enter Tryd.func22, Tryd.ntmps22
  go_wp2_with (refine wpList_load_row rfl 61 (.tmp 1) rfl w.heap.size rfl 61 cs (0, 0) _ K.out Tryd.underlying61 rfl sz.out ?_)
  go_ret
  exact ⟨rfl, (Below.refl _ _).alloc (Nat.le_refl _) _⟩
set_option maxRecDepth 100000 in
set_option maxHeartbeats 4000000 in
theorem flags_4 (P : Pk) (f c : Value) (w : World) (hk : P.kind = 4) : Calls Tryd.prog 23 #[.agg (P.v f c)] w fun e w' => e = .returned (.int .i64 0) ∧ Below w.heap.size w w' := by
  have K := Lib.hid (Blk.new w 61 (P.v f c))
  have c0 : (w.alloc (.cells (P.v f c) 61)).cell? ⟨w.heap.size, 0, none⟩ = some (.int .i64 4) := by rw [K.out.cell, ← hk]; rfl
  generalize P.v f c = cs at *
  clear hk
  go_enter Tryd.func23, Tryd.ntmps23
  go_wp2
  go_ret
  exact ⟨rfl, (Below.refl _ _).alloc (Nat.le_refl _) _⟩
end Go.Proofs.YtmpklaokgogigaaDoor.Pac
