/-
  LAYER 16: how what a kind has is laid: body, flags, the ways.
-/
import Derived.Test.YtmpklaokgogigaaDoorLi
namespace Go.Proofs.YtmpklaokgogigaaDoor.Pac
set_option linter.unusedVariables false
set_option linter.unusedSimpArgs false
open Go.Proofs.YtmpklaokgogigaaDoor
open Go.RowKit
set_option maxRecDepth 100000 in
set_option maxHeartbeats 4000000 in
theorem body_1 (P : Pk) (f c : Value) (w : World) (hk : P.kind = 1) : Calls Tryd.prog 22 #[.agg (P.v f c)] w fun e w' => e = .returned (.func (.func 45) #[.agg (P.v f c)] #[]) ∧ Below w.heap.size w w' := by
  have K := Lib.hid (Blk.new w 61 (P.v f c))
  have c0 : (w.alloc (.cells (P.v f c) 61)).cell? ⟨w.heap.size, 0, none⟩ = some (.int .i64 1) := by rw [K.out.cell, ← hk]; rfl
  have sz : Hid ((Tryd.prog.info? 61).map (·.size) = some (P.v f c).size) := Lib.hid (by kernel_rfl)
  generalize P.v f c = cs at *
  clear hk
  go_enter Tryd.func22, Tryd.ntmps22
  go_wp2_with (refine wpList_load_row rfl 61 (.tmp 1) rfl w.heap.size rfl 61 cs (0, 0) _ K.out Tryd.underlying61 rfl sz.out ?_)
  go_ret
  exact ⟨rfl, (Below.refl _ _).alloc (Nat.le_refl _) _⟩
set_option maxRecDepth 100000 in
set_option maxHeartbeats 4000000 in
theorem body_2 (P : Pk) (f c : Value) (w : World) (hk : P.kind = 2) : Calls Tryd.prog 22 #[.agg (P.v f c)] w fun e w' => e = .returned (.func (.func 46) #[.agg (P.v f c)] #[]) ∧ Below w.heap.size w w' := by
  have K := Lib.hid (Blk.new w 61 (P.v f c))
  have c0 : (w.alloc (.cells (P.v f c) 61)).cell? ⟨w.heap.size, 0, none⟩ = some (.int .i64 2) := by rw [K.out.cell, ← hk]; rfl
  have sz : Hid ((Tryd.prog.info? 61).map (·.size) = some (P.v f c).size) := Lib.hid (by kernel_rfl)
  generalize P.v f c = cs at *
  clear hk
  go_enter Tryd.func22, Tryd.ntmps22
  go_wp2_with (refine wpList_load_row rfl 61 (.tmp 1) rfl w.heap.size rfl 61 cs (0, 0) _ K.out Tryd.underlying61 rfl sz.out ?_)
  go_ret
  exact ⟨rfl, (Below.refl _ _).alloc (Nat.le_refl _) _⟩
set_option maxRecDepth 100000 in
set_option maxHeartbeats 4000000 in
theorem body_3 (P : Pk) (f c : Value) (w : World) (hk : P.kind = 3) : Calls Tryd.prog 22 #[.agg (P.v f c)] w fun e w' => e = .returned (.func (.func 47) #[.agg (P.v f c)] #[]) ∧ Below w.heap.size w w' := by
  have K := Lib.hid (Blk.new w 61 (P.v f c))
  have c0 : (w.alloc (.cells (P.v f c) 61)).cell? ⟨w.heap.size, 0, none⟩ = some (.int .i64 3) := by rw [K.out.cell, ← hk]; rfl
  have sz : Hid ((Tryd.prog.info? 61).map (·.size) = some (P.v f c).size) := Lib.hid (by kernel_rfl)
  generalize P.v f c = cs at *
  clear hk
  go_enter Tryd.func22, Tryd.ntmps22
  go_wp2_with (refine wpList_load_row rfl 61 (.tmp 1) rfl w.heap.size rfl 61 cs (0, 0) _ K.out Tryd.underlying61 rfl sz.out ?_)
  go_ret
  exact ⟨rfl, (Below.refl _ _).alloc (Nat.le_refl _) _⟩
set_option maxRecDepth 100000 in
set_option maxHeartbeats 4000000 in
theorem body_5 (P : Pk) (f c : Value) (w : World) (hk : P.kind = 5) : Calls Tryd.prog 22 #[.agg (P.v f c)] w fun e w' => e = .returned (.func (.func 48) #[.agg (P.v f c)] #[]) ∧ Below w.heap.size w w' := by
  have K := Lib.hid (Blk.new w 61 (P.v f c))
  have c0 : (w.alloc (.cells (P.v f c) 61)).cell? ⟨w.heap.size, 0, none⟩ = some (.int .i64 5) := by rw [K.out.cell, ← hk]; rfl
  have sz : Hid ((Tryd.prog.info? 61).map (·.size) = some (P.v f c).size) := Lib.hid (by kernel_rfl)
  generalize P.v f c = cs at *
  clear hk
  go_enter Tryd.func22, Tryd.ntmps22
  go_wp2_with (refine wpList_load_row rfl 61 (.tmp 1) rfl w.heap.size rfl 61 cs (0, 0) _ K.out Tryd.underlying61 rfl sz.out ?_)
  go_ret
  exact ⟨rfl, (Below.refl _ _).alloc (Nat.le_refl _) _⟩
set_option maxRecDepth 100000 in
set_option maxHeartbeats 4000000 in
theorem body_6 (P : Pk) (f c : Value) (w : World) (hk : P.kind = 6) : Calls Tryd.prog 22 #[.agg (P.v f c)] w fun e w' => e = .returned (.func (.func 48) #[.agg (P.v f c)] #[]) ∧ Below w.heap.size w w' := by
  have K := Lib.hid (Blk.new w 61 (P.v f c))
  have c0 : (w.alloc (.cells (P.v f c) 61)).cell? ⟨w.heap.size, 0, none⟩ = some (.int .i64 6) := by rw [K.out.cell, ← hk]; rfl
  have sz : Hid ((Tryd.prog.info? 61).map (·.size) = some (P.v f c).size) := Lib.hid (by kernel_rfl)
  generalize P.v f c = cs at *
  clear hk
  go_enter Tryd.func22, Tryd.ntmps22
  go_wp2_with (refine wpList_load_row rfl 61 (.tmp 1) rfl w.heap.size rfl 61 cs (0, 0) _ K.out Tryd.underlying61 rfl sz.out ?_)
  go_ret
  exact ⟨rfl, (Below.refl _ _).alloc (Nat.le_refl _) _⟩
set_option maxRecDepth 100000 in
set_option maxHeartbeats 4000000 in
theorem body_7 (P : Pk) (f c : Value) (w : World) (hk : P.kind = 7) : Calls Tryd.prog 22 #[.agg (P.v f c)] w fun e w' => e = .returned (.func (.func 48) #[.agg (P.v f c)] #[]) ∧ Below w.heap.size w w' := by
  have K := Lib.hid (Blk.new w 61 (P.v f c))
  have c0 : (w.alloc (.cells (P.v f c) 61)).cell? ⟨w.heap.size, 0, none⟩ = some (.int .i64 7) := by rw [K.out.cell, ← hk]; rfl
  have sz : Hid ((Tryd.prog.info? 61).map (·.size) = some (P.v f c).size) := Lib.hid (by kernel_rfl)
  generalize P.v f c = cs at *
  clear hk
  go_enter Tryd.func22, Tryd.ntmps22
  go_wp2_with (refine wpList_load_row rfl 61 (.tmp 1) rfl w.heap.size rfl 61 cs (0, 0) _ K.out Tryd.underlying61 rfl sz.out ?_)
  go_ret
  exact ⟨rfl, (Below.refl _ _).alloc (Nat.le_refl _) _⟩
set_option maxRecDepth 100000 in
set_option maxHeartbeats 4000000 in
theorem body_11 (P : Pk) (f c : Value) (w : World) (hk : P.kind = 11) : Calls Tryd.prog 22 #[.agg (P.v f c)] w fun e w' => e = .returned (.func (.func 48) #[.agg (P.v f c)] #[]) ∧ Below w.heap.size w w' := by
  have K := Lib.hid (Blk.new w 61 (P.v f c))
  have c0 : (w.alloc (.cells (P.v f c) 61)).cell? ⟨w.heap.size, 0, none⟩ = some (.int .i64 11) := by rw [K.out.cell, ← hk]; rfl
  have sz : Hid ((Tryd.prog.info? 61).map (·.size) = some (P.v f c).size) := Lib.hid (by kernel_rfl)
  generalize P.v f c = cs at *
  clear hk
  go_enter Tryd.func22, Tryd.ntmps22
  go_wp2_with (refine wpList_load_row rfl 61 (.tmp 1) rfl w.heap.size rfl 61 cs (0, 0) _ K.out Tryd.underlying61 rfl sz.out ?_)
  go_ret
  exact ⟨rfl, (Below.refl _ _).alloc (Nat.le_refl _) _⟩
set_option maxRecDepth 100000 in
set_option maxHeartbeats 4000000 in
theorem body_8 (P : Pk) (f c : Value) (w : World) (hk : P.kind = 8) : Calls Tryd.prog 22 #[.agg (P.v f c)] w fun e w' => e = .returned (.func (.func 49) #[.agg (P.v f c)] #[]) ∧ Below w.heap.size w w' := by
  have K := Lib.hid (Blk.new w 61 (P.v f c))
  have c0 : (w.alloc (.cells (P.v f c) 61)).cell? ⟨w.heap.size, 0, none⟩ = some (.int .i64 8) := by rw [K.out.cell, ← hk]; rfl
  have sz : Hid ((Tryd.prog.info? 61).map (·.size) = some (P.v f c).size) := Lib.hid (by kernel_rfl)
  generalize P.v f c = cs at *
  clear hk
  go_enter Tryd.func22, Tryd.ntmps22
  go_wp2_with (refine wpList_load_row rfl 61 (.tmp 1) rfl w.heap.size rfl 61 cs (0, 0) _ K.out Tryd.underlying61 rfl sz.out ?_)
  go_ret
  exact ⟨rfl, (Below.refl _ _).alloc (Nat.le_refl _) _⟩
set_option maxRecDepth 100000 in
set_option maxHeartbeats 4000000 in
theorem body_10 (P : Pk) (f c : Value) (w : World) (hk : P.kind = 10) : Calls Tryd.prog 22 #[.agg (P.v f c)] w fun e w' => e = .returned (.func (.func 49) #[.agg (P.v f c)] #[]) ∧ Below w.heap.size w w' := by
  have K := Lib.hid (Blk.new w 61 (P.v f c))
  have c0 : (w.alloc (.cells (P.v f c) 61)).cell? ⟨w.heap.size, 0, none⟩ = some (.int .i64 10) := by rw [K.out.cell, ← hk]; rfl
  have sz : Hid ((Tryd.prog.info? 61).map (·.size) = some (P.v f c).size) := Lib.hid (by kernel_rfl)
  generalize P.v f c = cs at *
  clear hk
  go_enter Tryd.func22, Tryd.ntmps22
  go_wp2_with (refine wpList_load_row rfl 61 (.tmp 1) rfl w.heap.size rfl 61 cs (0, 0) _ K.out Tryd.underlying61 rfl sz.out ?_)
  go_ret
  exact ⟨rfl, (Below.refl _ _).alloc (Nat.le_refl _) _⟩
set_option maxRecDepth 100000 in
set_option maxHeartbeats 4000000 in
theorem body_9 (P : Pk) (f c : Value) (w : World) (hk : P.kind = 9) : Calls Tryd.prog 22 #[.agg (P.v f c)] w fun e w' => e = .returned (.func (.func 50) #[.agg (P.v f c)] #[]) ∧ Below w.heap.size w w' := by
  have K := Lib.hid (Blk.new w 61 (P.v f c))
  have c0 : (w.alloc (.cells (P.v f c) 61)).cell? ⟨w.heap.size, 0, none⟩ = some (.int .i64 9) := by rw [K.out.cell, ← hk]; rfl
  have sz : Hid ((Tryd.prog.info? 61).map (·.size) = some (P.v f c).size) := Lib.hid (by kernel_rfl)
  generalize P.v f c = cs at *
  clear hk
  go_enter Tryd.func22, Tryd.ntmps22
  go_wp2_with (refine wpList_load_row rfl 61 (.tmp 1) rfl w.heap.size rfl 61 cs (0, 0) _ K.out Tryd.underlying61 rfl sz.out ?_)
  go_ret
  exact ⟨rfl, (Below.refl _ _).alloc (Nat.le_refl _) _⟩
set_option maxRecDepth 100000 in
set_option maxHeartbeats 4000000 in
theorem body_12 (P : Pk) (f c : Value) (w : World) (hk : P.kind = 12) : Calls Tryd.prog 22 #[.agg (P.v f c)] w fun e w' => e = .returned (.func (.func 51) #[.agg (P.v f c)] #[]) ∧ Below w.heap.size w w' := by
  have K := Lib.hid (Blk.new w 61 (P.v f c))
  have c0 : (w.alloc (.cells (P.v f c) 61)).cell? ⟨w.heap.size, 0, none⟩ = some (.int .i64 12) := by rw [K.out.cell, ← hk]; rfl
  have sz : Hid ((Tryd.prog.info? 61).map (·.size) = some (P.v f c).size) := Lib.hid (by kernel_rfl)
  generalize P.v f c = cs at *
  clear hk
  go_enter Tryd.func22, Tryd.ntmps22
  go_wp2_with (refine wpList_load_row rfl 61 (.tmp 1) rfl w.heap.size rfl 61 cs (0, 0) _ K.out Tryd.underlying61 rfl sz.out ?_)
  go_ret
  exact ⟨rfl, (Below.refl _ _).alloc (Nat.le_refl _) _⟩
set_option maxRecDepth 100000 in
set_option maxHeartbeats 4000000 in
theorem body_13 (P : Pk) (f c : Value) (w : World) (hk : P.kind = 13) : Calls Tryd.prog 22 #[.agg (P.v f c)] w fun e w' => e = .returned (.func (.func 51) #[.agg (P.v f c)] #[]) ∧ Below w.heap.size w w' := by
  have K := Lib.hid (Blk.new w 61 (P.v f c))
  have c0 : (w.alloc (.cells (P.v f c) 61)).cell? ⟨w.heap.size, 0, none⟩ = some (.int .i64 13) := by rw [K.out.cell, ← hk]; rfl
  have sz : Hid ((Tryd.prog.info? 61).map (·.size) = some (P.v f c).size) := Lib.hid (by kernel_rfl)
  generalize P.v f c = cs at *
  clear hk
  go_enter Tryd.func22, Tryd.ntmps22
  go_wp2_with (refine wpList_load_row rfl 61 (.tmp 1) rfl w.heap.size rfl 61 cs (0, 0) _ K.out Tryd.underlying61 rfl sz.out ?_)
  go_ret
  exact ⟨rfl, (Below.refl _ _).alloc (Nat.le_refl _) _⟩
set_option maxRecDepth 100000 in
set_option maxHeartbeats 4000000 in
theorem body_14 (P : Pk) (f c : Value) (w : World) (hk : P.kind = 14) : Calls Tryd.prog 22 #[.agg (P.v f c)] w fun e w' => e = .returned (.func (.func 51) #[.agg (P.v f c)] #[]) ∧ Below w.heap.size w w' := by
  have K := Lib.hid (Blk.new w 61 (P.v f c))
  have c0 : (w.alloc (.cells (P.v f c) 61)).cell? ⟨w.heap.size, 0, none⟩ = some (.int .i64 14) := by rw [K.out.cell, ← hk]; rfl
  have sz : Hid ((Tryd.prog.info? 61).map (·.size) = some (P.v f c).size) := Lib.hid (by kernel_rfl)
  generalize P.v f c = cs at *
  clear hk
  go_enter Tryd.func22, Tryd.ntmps22
  go_wp2_with (refine wpList_load_row rfl 61 (.tmp 1) rfl w.heap.size rfl 61 cs (0, 0) _ K.out Tryd.underlying61 rfl sz.out ?_)
  go_ret
  exact ⟨rfl, (Below.refl _ _).alloc (Nat.le_refl _) _⟩
set_option maxRecDepth 100000 in
set_option maxHeartbeats 4000000 in
theorem flags_1 (P : Pk) (f c : Value) (w : World) (hk : P.kind = 1) : Calls Tryd.prog 23 #[.agg (P.v f c)] w fun e w' => e = .returned (.int .i64 0) ∧ Below w.heap.size w w' := by
  have K := Lib.hid (Blk.new w 61 (P.v f c))
  have c0 : (w.alloc (.cells (P.v f c) 61)).cell? ⟨w.heap.size, 0, none⟩ = some (.int .i64 1) := by rw [K.out.cell, ← hk]; rfl
  generalize P.v f c = cs at *
  clear hk
  go_enter Tryd.func23, Tryd.ntmps23
  go_wp2
  go_ret
  exact ⟨rfl, (Below.refl _ _).alloc (Nat.le_refl _) _⟩
set_option maxRecDepth 100000 in
set_option maxHeartbeats 4000000 in
theorem flags_2 (P : Pk) (f c : Value) (w : World) (hk : P.kind = 2) : Calls Tryd.prog 23 #[.agg (P.v f c)] w fun e w' => e = .returned (.int .i64 0) ∧ Below w.heap.size w w' := by
  have K := Lib.hid (Blk.new w 61 (P.v f c))
  have c0 : (w.alloc (.cells (P.v f c) 61)).cell? ⟨w.heap.size, 0, none⟩ = some (.int .i64 2) := by rw [K.out.cell, ← hk]; rfl
  generalize P.v f c = cs at *
  clear hk
  go_enter Tryd.func23, Tryd.ntmps23
  go_wp2
  go_ret
  exact ⟨rfl, (Below.refl _ _).alloc (Nat.le_refl _) _⟩
set_option maxRecDepth 100000 in
set_option maxHeartbeats 4000000 in
theorem flags_5 (P : Pk) (f c : Value) (w : World) (hk : P.kind = 5) : Calls Tryd.prog 23 #[.agg (P.v f c)] w fun e w' => e = .returned (.int .i64 0) ∧ Below w.heap.size w w' := by
  have K := Lib.hid (Blk.new w 61 (P.v f c))
  have c0 : (w.alloc (.cells (P.v f c) 61)).cell? ⟨w.heap.size, 0, none⟩ = some (.int .i64 5) := by rw [K.out.cell, ← hk]; rfl
  generalize P.v f c = cs at *
  clear hk
  go_enter Tryd.func23, Tryd.ntmps23
  go_wp2
  go_ret
  exact ⟨rfl, (Below.refl _ _).alloc (Nat.le_refl _) _⟩
set_option maxRecDepth 100000 in
set_option maxHeartbeats 4000000 in
theorem flags_7 (P : Pk) (f c : Value) (w : World) (hk : P.kind = 7) : Calls Tryd.prog 23 #[.agg (P.v f c)] w fun e w' => e = .returned (.int .i64 0) ∧ Below w.heap.size w w' := by
  have K := Lib.hid (Blk.new w 61 (P.v f c))
  have c0 : (w.alloc (.cells (P.v f c) 61)).cell? ⟨w.heap.size, 0, none⟩ = some (.int .i64 7) := by rw [K.out.cell, ← hk]; rfl
  generalize P.v f c = cs at *
  clear hk
  go_enter Tryd.func23, Tryd.ntmps23
  go_wp2
  go_ret
  exact ⟨rfl, (Below.refl _ _).alloc (Nat.le_refl _) _⟩
set_option maxRecDepth 100000 in
set_option maxHeartbeats 4000000 in
theorem flags_11 (P : Pk) (f c : Value) (w : World) (hk : P.kind = 11) : Calls Tryd.prog 23 #[.agg (P.v f c)] w fun e w' => e = .returned (.int .i64 0) ∧ Below w.heap.size w w' := by
  have K := Lib.hid (Blk.new w 61 (P.v f c))
  have c0 : (w.alloc (.cells (P.v f c) 61)).cell? ⟨w.heap.size, 0, none⟩ = some (.int .i64 11) := by rw [K.out.cell, ← hk]; rfl
  generalize P.v f c = cs at *
  clear hk
  go_enter Tryd.func23, Tryd.ntmps23
  go_wp2
  go_ret
  exact ⟨rfl, (Below.refl _ _).alloc (Nat.le_refl _) _⟩
set_option maxRecDepth 100000 in
set_option maxHeartbeats 4000000 in
theorem flags_9 (P : Pk) (f c : Value) (w : World) (hk : P.kind = 9) : Calls Tryd.prog 23 #[.agg (P.v f c)] w fun e w' => e = .returned (.int .i64 0) ∧ Below w.heap.size w w' := by
  have K := Lib.hid (Blk.new w 61 (P.v f c))
  have c0 : (w.alloc (.cells (P.v f c) 61)).cell? ⟨w.heap.size, 0, none⟩ = some (.int .i64 9) := by rw [K.out.cell, ← hk]; rfl
  generalize P.v f c = cs at *
  clear hk
  go_enter Tryd.func23, Tryd.ntmps23
  go_wp2
  go_ret
  exact ⟨rfl, (Below.refl _ _).alloc (Nat.le_refl _) _⟩
set_option maxRecDepth 100000 in
set_option maxHeartbeats 4000000 in
theorem flags_12 (P : Pk) (f c : Value) (w : World) (hk : P.kind = 12) : Calls Tryd.prog 23 #[.agg (P.v f c)] w fun e w' => e = .returned (.int .i64 0) ∧ Below w.heap.size w w' := by
  have K := Lib.hid (Blk.new w 61 (P.v f c))
  have c0 : (w.alloc (.cells (P.v f c) 61)).cell? ⟨w.heap.size, 0, none⟩ = some (.int .i64 12) := by rw [K.out.cell, ← hk]; rfl
  generalize P.v f c = cs at *
  clear hk
  go_enter Tryd.func23, Tryd.ntmps23
  go_wp2
  go_ret
  exact ⟨rfl, (Below.refl _ _).alloc (Nat.le_refl _) _⟩
set_option maxRecDepth 100000 in
set_option maxHeartbeats 4000000 in
theorem flags_13 (P : Pk) (f c : Value) (w : World) (hk : P.kind = 13) : Calls Tryd.prog 23 #[.agg (P.v f c)] w fun e w' => e = .returned (.int .i64 0) ∧ Below w.heap.size w w' := by
  have K := Lib.hid (Blk.new w 61 (P.v f c))
  have c0 : (w.alloc (.cells (P.v f c) 61)).cell? ⟨w.heap.size, 0, none⟩ = some (.int .i64 13) := by rw [K.out.cell, ← hk]; rfl
  generalize P.v f c = cs at *
  clear hk
  go_enter Tryd.func23, Tryd.ntmps23
  go_wp2
  go_ret
  exact ⟨rfl, (Below.refl _ _).alloc (Nat.le_refl _) _⟩
set_option maxRecDepth 100000 in
set_option maxHeartbeats 4000000 in
theorem flags_14 (P : Pk) (f c : Value) (w : World) (hk : P.kind = 14) : Calls Tryd.prog 23 #[.agg (P.v f c)] w fun e w' => e = .returned (.int .i64 0) ∧ Below w.heap.size w w' := by
  have K := Lib.hid (Blk.new w 61 (P.v f c))
  have c0 : (w.alloc (.cells (P.v f c) 61)).cell? ⟨w.heap.size, 0, none⟩ = some (.int .i64 14) := by rw [K.out.cell, ← hk]; rfl
  generalize P.v f c = cs at *
  clear hk
  go_enter Tryd.func23, Tryd.ntmps23
  go_wp2
  go_ret
  exact ⟨rfl, (Below.refl _ _).alloc (Nat.le_refl _) _⟩
set_option maxRecDepth 100000 in
set_option maxHeartbeats 4000000 in
theorem flags_6 (P : Pk) (f c : Value) (w : World) (hk : P.kind = 6) : Calls Tryd.prog 23 #[.agg (P.v f c)] w fun e w' => e = .returned (.int .i64 2) ∧ Below w.heap.size w w' := by
  have K := Lib.hid (Blk.new w 61 (P.v f c))
  have c0 : (w.alloc (.cells (P.v f c) 61)).cell? ⟨w.heap.size, 0, none⟩ = some (.int .i64 6) := by rw [K.out.cell, ← hk]; rfl
  generalize P.v f c = cs at *
  clear hk
  go_enter Tryd.func23, Tryd.ntmps23
  go_wp2
  go_ret
  exact ⟨rfl, (Below.refl _ _).alloc (Nat.le_refl _) _⟩
set_option maxRecDepth 100000 in
set_option maxHeartbeats 4000000 in
theorem flags_8 (P : Pk) (f c : Value) (w : World) (hk : P.kind = 8) : Calls Tryd.prog 23 #[.agg (P.v f c)] w fun e w' => e = .returned (.int .i64 2) ∧ Below w.heap.size w w' := by
  have K := Lib.hid (Blk.new w 61 (P.v f c))
  have c0 : (w.alloc (.cells (P.v f c) 61)).cell? ⟨w.heap.size, 0, none⟩ = some (.int .i64 8) := by rw [K.out.cell, ← hk]; rfl
  generalize P.v f c = cs at *
  clear hk
  go_enter Tryd.func23, Tryd.ntmps23
  go_wp2
  go_ret
  exact ⟨rfl, (Below.refl _ _).alloc (Nat.le_refl _) _⟩
set_option maxRecDepth 100000 in
set_option maxHeartbeats 4000000 in
theorem flags_10 (P : Pk) (f c : Value) (w : World) (hk : P.kind = 10) : Calls Tryd.prog 23 #[.agg (P.v f c)] w fun e w' => e = .returned (.int .i64 2) ∧ Below w.heap.size w w' := by
  have K := Lib.hid (Blk.new w 61 (P.v f c))
  have c0 : (w.alloc (.cells (P.v f c) 61)).cell? ⟨w.heap.size, 0, none⟩ = some (.int .i64 10) := by rw [K.out.cell, ← hk]; rfl
  generalize P.v f c = cs at *
  clear hk
  go_enter Tryd.func23, Tryd.ntmps23
  go_wp2
  go_ret
  exact ⟨rfl, (Below.refl _ _).alloc (Nat.le_refl _) _⟩
set_option maxRecDepth 100000 in
set_option maxHeartbeats 4000000 in
theorem flags_3 (P : Pk) (f c : Value) (w : World) (hk : P.kind = 3) : Calls Tryd.prog 23 #[.agg (P.v f c)] w fun e w' => e = .returned (.int .i64 (Hea.Pub P.dup P.q P.r)) ∧ Below w.heap.size w w' := by
  have K := Lib.hid (Blk.new w 61 (P.v f c))
  have c0 : (w.alloc (.cells (P.v f c) 61)).cell? ⟨w.heap.size, 0, none⟩ = some (.int .i64 3) := by rw [K.out.cell, ← hk]; rfl
  have c2 : (w.alloc (.cells (P.v f c) 61)).cell? ⟨w.heap.size, 2, none⟩ = some (.bool P.dup) := by rw [K.out.cell]; rfl
  have c5 : (w.alloc (.cells (P.v f c) 61)).cell? ⟨w.heap.size, 5, none⟩ = some (.int .i64 P.q) := by rw [K.out.cell]; rfl
  have c6 : (w.alloc (.cells (P.v f c) 61)).cell? ⟨w.heap.size, 6, none⟩ = some (.bool P.r) := by rw [K.out.cell]; rfl
  have C := Lib.hid (fun W => Hea.pub14 P.dup P.q P.r W)
  generalize P.v f c = cs at *
  clear hk
  go_enter Tryd.func23, Tryd.ntmps23
  go_wp2_with fail
  refine (C.out _).mono ?_
  rintro e W ⟨rfl, rfl⟩
  go_wp2_with fail
  go_ret
  exact ⟨rfl, (Below.refl _ _).alloc (Nat.le_refl _) _⟩
end Go.Proofs.YtmpklaokgogigaaDoor.Pac

/-
  LAYER 16: the ways in which what a kind has is laid.
-/
namespace Go.Proofs.YtmpklaokgogigaaDoor.Pac
set_option linter.unusedVariables false
set_option linter.unusedSimpArgs false
open Go.Proofs.YtmpklaokgogigaaDoor
open Go.RowKit
set_option maxRecDepth 100000 in
theorem way_con (Q : Pk) (f c : Value) (w : World) (l : List Nat) (m : Int) (h : ∀ W, Calls Tryd.prog 75 #[.agg Q.c.v] W (Pub.Numb l m W)) : Calls Tryd.prog 45 #[.agg (Q.v f c)] w (Pub.Numb l m w) := by
  have K := Lib.hid (Blk.new w 61 (Q.v f c))
  have RX : Hid ((w.alloc (.cells (Q.v f c) 61)).rangeAt w.heap.size 7 Q.c.v.toList) := Lib.hid (World.rangeAt_of_block K.out 7 13)
  have sz := Lib.hid (size29 Q.c)
  replace h := Lib.hid h
  generalize Q.v f c = cs at *
  generalize Q.c = X at *
  go_enter Tryd.func45, Tryd.ntmps45
  go_wp2_with (refine wpList_load_mid rfl 29 (.tmp 4) rfl w.heap.size 7 rfl X.v.toList _ RX.out Tryd.underlying29 rfl sz.out ?_)
  refine (h.out _).mono ?_
  rintro e w1 ⟨v, rfl, hv, b⟩
  go_wp2_with fail
  refine bodyPost_ret (v := .tuple #[v, .int .i64 m]) (by simp [results, Tryd.results45, go_sem]) rfl ⟨v, rfl, hv, ext_trans (ext_alloc _ _) b⟩
set_option maxRecDepth 100000 in
theorem way_ack (Q : Pk) (f c : Value) (w : World) (l : List Nat) (m : Int) (h : ∀ W, Calls Tryd.prog 76 #[.bool Q.pres, .int .i64 Q.code] W (Pub.Numb l m W)) : Calls Tryd.prog 46 #[.agg (Q.v f c)] w (Pub.Numb l m w) := by
  have K := Lib.hid (Blk.new w 61 (Q.v f c))
  have c1 : (w.alloc (.cells (Q.v f c) 61)).cell? ⟨w.heap.size, 20, none⟩ = some (.bool Q.pres) := by rw [K.out.cell]; rfl
  have c2 : (w.alloc (.cells (Q.v f c) 61)).cell? ⟨w.heap.size, 21, none⟩ = some (.int .i64 Q.code) := by rw [K.out.cell]; rfl
  replace h := Lib.hid h
  generalize Q.v f c = cs at *
  generalize Q.pres = i at *
  generalize Q.code = j at *
  go_enter Tryd.func46, Tryd.ntmps46
  go_wp2_with fail
  refine (h.out _).mono ?_
  rintro e w1 ⟨v, rfl, hv, b⟩
  go_wp2_with fail
  refine bodyPost_ret (v := .tuple #[v, .int .i64 m]) (by simp [results, Tryd.results46, go_sem]) rfl ⟨v, rfl, hv, ext_trans (ext_alloc _ _) b⟩
set_option maxRecDepth 100000 in
theorem way_pub (Q : Pk) (f c : Value) (w : World) (l : List Nat) (m : Int) (h : ∀ W, Calls Tryd.prog 77 #[.agg #[.string Q.t, .string Q.x, .int .i64 Q.q, .bool Q.r], .int .i64 Q.id] W (Pub.Numb l m W)) : Calls Tryd.prog 47 #[.agg (Q.v f c)] w (Pub.Numb l m w) := by
  have K := Lib.hid (Blk.new w 61 (Q.v f c))
  have c1 : (w.alloc (.cells (Q.v f c) 61)).cell? ⟨w.heap.size, 1, none⟩ = some (.int .i64 Q.id) := by rw [K.out.cell]; rfl
  have c3 : (w.alloc (.cells (Q.v f c) 61)).cell? ⟨w.heap.size, 3, none⟩ = some (.string Q.t) := by rw [K.out.cell]; rfl
  have c4 : (w.alloc (.cells (Q.v f c) 61)).cell? ⟨w.heap.size, 4, none⟩ = some (.string Q.x) := by rw [K.out.cell]; rfl
  have c5 : (w.alloc (.cells (Q.v f c) 61)).cell? ⟨w.heap.size, 5, none⟩ = some (.int .i64 Q.q) := by rw [K.out.cell]; rfl
  have c6 : (w.alloc (.cells (Q.v f c) 61)).cell? ⟨w.heap.size, 6, none⟩ = some (.bool Q.r) := by rw [K.out.cell]; rfl
  replace h := Lib.hid h
  generalize Q.v f c = cs at *
  generalize Q.id = i at *
  generalize Q.t = t at *
  generalize Q.x = x at *
  generalize Q.q = q at *
  generalize Q.r = r at *
  go_enter Tryd.func47, Tryd.ntmps47
  go_wp2_with fail
  refine (h.out _).mono ?_
  rintro e w1 ⟨v, rfl, hv, b⟩
  go_wp2_with fail
  refine bodyPost_ret (v := .tuple #[v, .int .i64 m]) (by simp [results, Tryd.results47, go_sem]) rfl ⟨v, rfl, hv, ext_trans (ext_alloc _ _) b⟩
set_option maxRecDepth 100000 in
theorem way_sub (Q : Pk) (f c : Value) (w : World) (l : List Nat) (m : Int) (a : Option Addr) (n p : Nat) (hf : f = .slice a n p) (h : ∀ W, Below w.heap.size w W → Calls Tryd.prog 79 #[.int .i64 Q.id, f, .bool (Q.kind == 10)] W (Pub.Numb l m W)) : Calls Tryd.prog 49 #[.agg (Q.v f c)] w (Pub.Numb l m w) := by
  have K := Lib.hid (Blk.new w 61 (Q.v f c))
  have c0 : (w.alloc (.cells (Q.v f c) 61)).cell? ⟨w.heap.size, 0, none⟩ = some (.int .i64 Q.kind) := by rw [K.out.cell]; rfl
  have c1 : (w.alloc (.cells (Q.v f c) 61)).cell? ⟨w.heap.size, 1, none⟩ = some (.int .i64 Q.id) := by rw [K.out.cell]; rfl
  have c2 : (w.alloc (.cells (Q.v f c) 61)).cell? ⟨w.heap.size, 22, none⟩ = some f := by rw [K.out.cell]; rfl
  replace h := Lib.hid h
  generalize Q.v f c = cs at *
  generalize Q.id = i at *
  generalize Q.kind = k at *
  subst hf
  go_enter Tryd.func49, Tryd.ntmps49
  go_wp2_with fail
  refine (h.out _ (ext_alloc _ _)).mono ?_
  rintro e w1 ⟨v, rfl, hv, b⟩
  go_wp2_with fail
  refine bodyPost_ret (v := .tuple #[v, .int .i64 m]) (by simp [results, Tryd.results49, go_sem]) rfl ⟨v, rfl, hv, ext_trans (ext_alloc _ _) b⟩
set_option maxRecDepth 100000 in
theorem way_sua (Q : Pk) (f c : Value) (w : World) (l : List Nat) (m : Int) (a : Option Addr) (n p : Nat) (hf : c = .slice a n p) (h : ∀ W, Below w.heap.size w W → Calls Tryd.prog 80 #[.int .i64 Q.id, c] W (Pub.Numb l m W)) : Calls Tryd.prog 50 #[.agg (Q.v f c)] w (Pub.Numb l m w) := by
  have K := Lib.hid (Blk.new w 61 (Q.v f c))
  have c1 : (w.alloc (.cells (Q.v f c) 61)).cell? ⟨w.heap.size, 1, none⟩ = some (.int .i64 Q.id) := by rw [K.out.cell]; rfl
  have c2 : (w.alloc (.cells (Q.v f c) 61)).cell? ⟨w.heap.size, 23, none⟩ = some c := by rw [K.out.cell]; rfl
  replace h := Lib.hid h
  generalize Q.v f c = cs at *
  generalize Q.id = i at *
  subst hf
  go_enter Tryd.func50, Tryd.ntmps50
  go_wp2_with fail
  refine (h.out _ (ext_alloc _ _)).mono ?_
  rintro e w1 ⟨v, rfl, hv, b⟩
  go_wp2_with fail
  refine bodyPost_ret (v := .tuple #[v, .int .i64 m]) (by simp [results, Tryd.results50, go_sem]) rfl ⟨v, rfl, hv, ext_trans (ext_alloc _ _) b⟩
theorem way_none (cs : Array Value) (w : World) : Calls Tryd.prog 51 #[.agg cs] w (Pub.Numb [] 0 w) := by
  go_enter Tryd.func51, Tryd.ntmps51
  go_wp2
  refine bodyPost_ret (v := .tuple #[.slice none 0 0, .int .i64 0]) (by simp [results, Tryd.results51, go_sem]) rfl ⟨_, rfl, bytes_nil _, ext_alloc _ _⟩
end Go.Proofs.YtmpklaokgogigaaDoor.Pac
