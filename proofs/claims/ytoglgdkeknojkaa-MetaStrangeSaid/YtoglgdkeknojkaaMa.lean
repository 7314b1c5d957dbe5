/-
  LAYER 6: metas; the parts' ways of getting and setting.
-/
import Derived.Test.YtoglgdkeknojkaaWl
import Derived.Test.YtoglgdkeknojkaaWh
import Derived.Test.YtoglgdkeknojkaaWo
import Derived.Laws.EntriesVeiled
import Derived.Deep.QuietTactic
namespace Go.Proofs.Ytoglgdkeknojkaa
open Go.RowKit

structure Me where
  multi : Bool
  type : ByteArray
  size : Nat
  seq : Nat
  file : ByteArray
  kind : ByteArray
  md5 : ByteArray
  desc : ByteArray
def Me.cells (m : Me) : Array Value := #[.bool m.multi, .string m.type, .int .u64 (m.size : Nat), .int .u64 (m.seq : Nat), .string m.file, .string m.kind, .string m.md5, .string m.desc]
def Me.val (m : Me) : Value := .agg m.cells
def Me.ok (m : Me) : Prop := m.type.size ≤ 140737488351232 ∧ m.size ≤ 18446744073709551615 ∧ m.seq ≤ 18446744073709551615 ∧ m.file.size ≤ 140737488351232 ∧ m.kind.size ≤ 140737488351232 ∧ m.md5.size ≤ 140737488351232 ∧ m.desc.size ≤ 140737488351232
def empty : ByteArray := ⟨#[]⟩
/-- A part's number and text. -/
def getN (i : Nat) (m : Me) : Nat := if i = 0 then (if m.multi then 1 else 0) else if i = 2 then m.size else if i = 3 then m.seq else 0
def getS (i : Nat) (m : Me) : ByteArray := if i = 1 then m.type else if i = 4 then m.file else if i = 5 then m.kind else if i = 6 then m.md5 else if i = 7 then m.desc else empty
def GetP (n : Nat) (s : ByteArray) (w : World) (e : Ending) (w' : World) : Prop := e = .returned (.tuple #[.int .u64 (n : Nat), .string s]) ∧ Below w.heap.size w w'
set_option maxRecDepth 100000 in
theorem multi_any (m : Me) (w : World) : Calls Try.prog 24 #[m.val] w (GetP (getN 0 m) (getS 0 m) w) := by
  obtain ⟨a, b, c, d, e, f, g, h⟩ := m
  cases a
  · simp only [Me.val, Me.cells]
    go_enter Try.func24, Try.ntmps24
    go_wp2
    go_ret2
    exact ⟨rfl, ext_alloc _ _⟩
  · simp only [Me.val, Me.cells]
    go_enter Try.func24, Try.ntmps24
    go_wp2
    go_ret2
    exact ⟨rfl, ext_alloc _ _⟩
/-- The places of the parts: a pointer at a part. -/
def AtP (i : Nat) (p : Addr) (w : World) (e : Ending) (w' : World) : Prop := e = .returned (.pointer (some ⟨p.block, p.off + i, none⟩)) ∧ w' = w
set_option maxRecDepth 100000 in
theorem at_27 (g : Nat) (w : World) (a0 : Value) (h : w.cell? ⟨g, 0, none⟩ = some a0) : Calls Try.prog 27 #[.pointer (some ⟨g, 0, none⟩)] w fun e w' => e = .returned (.pointer (some ⟨g, 1, none⟩)) ∧ w' = w := by
  go_enter Try.func27, Try.ntmps27
  go_wp2
  go_ret
  exact ⟨rfl, rfl⟩
set_option maxRecDepth 100000 in
theorem at_29 (g : Nat) (w : World) (a0 : Value) (h : w.cell? ⟨g, 0, none⟩ = some a0) : Calls Try.prog 29 #[.pointer (some ⟨g, 0, none⟩)] w fun e w' => e = .returned (.pointer (some ⟨g, 2, none⟩)) ∧ w' = w := by
  go_enter Try.func29, Try.ntmps29
  go_wp2
  go_ret
  exact ⟨rfl, rfl⟩
set_option maxRecDepth 100000 in
theorem at_30 (g : Nat) (w : World) (a0 : Value) (h : w.cell? ⟨g, 0, none⟩ = some a0) : Calls Try.prog 30 #[.pointer (some ⟨g, 0, none⟩)] w fun e w' => e = .returned (.pointer (some ⟨g, 3, none⟩)) ∧ w' = w := by
  go_enter Try.func30, Try.ntmps30
  go_wp2
  go_ret
  exact ⟨rfl, rfl⟩
set_option maxRecDepth 100000 in
theorem at_31 (g : Nat) (w : World) (a0 : Value) (h : w.cell? ⟨g, 0, none⟩ = some a0) : Calls Try.prog 31 #[.pointer (some ⟨g, 0, none⟩)] w fun e w' => e = .returned (.pointer (some ⟨g, 4, none⟩)) ∧ w' = w := by
  go_enter Try.func31, Try.ntmps31
  go_wp2
  go_ret
  exact ⟨rfl, rfl⟩
set_option maxRecDepth 100000 in
theorem at_32 (g : Nat) (w : World) (a0 : Value) (h : w.cell? ⟨g, 0, none⟩ = some a0) : Calls Try.prog 32 #[.pointer (some ⟨g, 0, none⟩)] w fun e w' => e = .returned (.pointer (some ⟨g, 5, none⟩)) ∧ w' = w := by
  go_enter Try.func32, Try.ntmps32
  go_wp2
  go_ret
  exact ⟨rfl, rfl⟩
set_option maxRecDepth 100000 in
theorem at_33 (g : Nat) (w : World) (a0 : Value) (h : w.cell? ⟨g, 0, none⟩ = some a0) : Calls Try.prog 33 #[.pointer (some ⟨g, 0, none⟩)] w fun e w' => e = .returned (.pointer (some ⟨g, 6, none⟩)) ∧ w' = w := by
  go_enter Try.func33, Try.ntmps33
  go_wp2
  go_ret
  exact ⟨rfl, rfl⟩
set_option maxRecDepth 100000 in
theorem at_34 (g : Nat) (w : World) (a0 : Value) (h : w.cell? ⟨g, 0, none⟩ = some a0) : Calls Try.prog 34 #[.pointer (some ⟨g, 0, none⟩)] w fun e w' => e = .returned (.pointer (some ⟨g, 7, none⟩)) ∧ w' = w := by
  go_enter Try.func34, Try.ntmps34
  go_wp2
  go_ret
  exact ⟨rfl, rfl⟩
end Go.Proofs.Ytoglgdkeknojkaa
