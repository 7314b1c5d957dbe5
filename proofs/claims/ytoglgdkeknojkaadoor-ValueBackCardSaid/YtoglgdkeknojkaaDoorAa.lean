/-
  LAYER 5: values, and why one may not be, of both sides.
-/
import Derived.Test.YtoglgdkeknojkaaDoorTb
import Derived.Deep.QuietTactic
import Derived.BigQuiet
import Derived.Deep.Draws
namespace Go.Proofs.YtoglgdkeknojkaaDoor
open Go.RowKit

structure Va where
  k : Int
  n : Nat
  s : ByteArray
def Va.val (v : Va) : Value := .agg #[.int .i64 v.k, .int .u64 (v.n : Nat), .string v.s]
theorem vsize0 {s : ByteArray} (h : s.size = 0) : s = ⟨#[]⟩ := by
  obtain ⟨⟨l⟩⟩ := s
  cases l with
  | nil => rfl
  | cons a l => simp [ByteArray.size] at h
theorem vsize1 {s : ByteArray} (h : s.size ≠ 0) : s.toList.isEmpty = false := by
  rw [ByteArray.toList_eq]
  obtain ⟨⟨l⟩⟩ := s
  cases l with
  | nil => simp [ByteArray.size] at h
  | cons a l => rfl
def ErV (E : Int) (w : World) (e : Ending) (w' : World) : Prop := e = .returned (.int .i64 E) ∧ Below w.heap.size w w'
def vmost (k : Int) : Nat := if k = 1 ∨ k = 3 then 4294967295 else if k = 5 then 1 else 18446744073709551615
def vkind (k : Int) : Int := if k = 3 then 5 else if k = 4 then 1 else if k = 6 ∨ k = 7 then 2 else 0
def rightE (v : Va) : Int :=
  if v.k < 0 ∨ 7 < v.k then 11 else if (¬ (v.k = 6 ∨ v.k = 7) ∧ v.s.size ≠ 0) ∨ ((v.k = 6 ∨ v.k = 7 ∨ v.k = 0) ∧ v.n ≠ 0) then 4
  else if vmost v.k < v.n then 5 else 0
theorem e_alloc (w : World) (o : Obj) : Below w.heap.size w (w.alloc o) := (Below.refl _ _).alloc (Nat.le_refl _) o
theorem e_drewN {B : Nat} {w w' : World} (h : Below B w w') (n : Nat) : Below B w (w'.drewN n) := by
  induction n with
  | zero => exact h
  | succ n ih => exact ih.drew
set_option maxRecDepth 100000 in
theorem right_kind (g : FuncId) (hg : g = 10 ∨ g = 11) (v : Va) (w : World) (h : v.k < 0 ∨ (0 ≤ v.k ∧ 7 < v.k)) : Calls Tryd.prog g #[v.val] w (ErV 11 w) := by
  obtain ⟨k, n, s⟩ := v
  simp only at h
  simp only [Va.val]
  rcases hg with rfl | rfl
  · rcases h with h | ⟨h, h'⟩
    all_goals
      go_enter Tryd.func10, Tryd.ntmps10
      go_wp2
      go_ret
      exact ⟨rfl, e_alloc _ _⟩
  · rcases h with h | ⟨h, h'⟩
    all_goals
      go_enter Tryd.func11, Tryd.ntmps11
      go_wp2
      go_ret
      exact ⟨rfl, e_alloc _ _⟩
/-- The tables' places at a kind. -/
theorem Tabs.at {w : World} (h : Tabs w) (o : Obj) (i : Nat) (hi : i < 8) : (w.alloc o).cell? ⟨0, i, none⟩ = some (.int .i64 (kindsL.getD i 0)) ∧ (w.alloc o).cell? ⟨1, i, none⟩ = some (.int .u64 (mostL.getD i 0)) :=
  ⟨(h.keep (e_alloc w o)).1 i hi, (h.keep (e_alloc w o)).2 i hi⟩
set_option maxHeartbeats 1000000 in
set_option maxRecDepth 100000 in
theorem right_text (i : Nat) (hi : i = 6 ∨ i = 7) (n : Nat) (s : ByteArray) (w : World) (ht : Tabs w) (hn : n ≠ 0) : Calls Tryd.prog 10 #[(Va.mk i n s).val] w (ErV 4 w) := by
  have hd : ((n : Int) != 0) = true := by simpa using hn
  replace hn := Lib.hid hn
  simp only [Va.val]
  rcases hi with rfl | rfl
  · obtain ⟨t1, t2⟩ := ht.at (.cells #[.int .i64 6, .int .u64 (n : Nat), .string s] 24) 6 (by omega)
    replace ht := Lib.hid ht
    go_enter Tryd.func10, Tryd.ntmps10
    go_wp2
    go_ret
    exact ⟨rfl, e_alloc _ _⟩
  · obtain ⟨t1, t2⟩ := ht.at (.cells #[.int .i64 7, .int .u64 (n : Nat), .string s] 24) 7 (by omega)
    replace ht := Lib.hid ht
    go_enter Tryd.func10, Tryd.ntmps10
    go_wp2
    go_ret
    exact ⟨rfl, e_alloc _ _⟩
end Go.Proofs.YtoglgdkeknojkaaDoor
