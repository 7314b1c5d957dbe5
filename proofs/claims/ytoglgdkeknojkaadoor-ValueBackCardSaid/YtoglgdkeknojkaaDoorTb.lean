/-
  THE PACKAGE's TABLES: what a row's list gives of them.
-/
import Derived.Test.YtoglgdkeknojkaaDoorCom
import Derived.Test.YtoglgdkeknojkaaDoorRows
import Derived.Lib.LaidTab
namespace Go.Proofs.YtoglgdkeknojkaaDoor
open Go.RowKit

theorem laidMet_tail {P : Program} {W : World} {x : String × DataW Unit} {r : List (String × DataW Unit)} (h : laidMet P (x :: r) W) : laidMet P r W := by
  obtain ⟨ps, ⟨g, t, cs, fuel, p, q, h1, h2, h3, h4, h5, rfl⟩, hnd, hc⟩ := h
  exact ⟨q, h5, (List.nodup_append.1 hnd).2.1, fun b off hm => hc b off (List.mem_append_right _ hm)⟩
/-- The variable g's cells hold these integers. -/
def TabAt (w : World) (g : Nat) (k : IntKind) (l : List Int) : Prop := ∀ i, i < l.length → w.cell? ⟨g, i, none⟩ = some (.int k (l.getD i 0))
theorem TabAt.keep {w w' : World} {g : Nat} {k : IntKind} {l : List Int} (h : TabAt w g k l) (hb : Below w.heap.size w w') : TabAt w' g k l := by
  intro i hi
  have hc := h i hi
  have := World.block_lt_of_cell? w _ hc
  rw [hb.cell (by simpa using this)]; exact hc
theorem gKinds : Tryd.prog.globalNamed "crier/value.kinds" = some 0 := by kernel_rfl
theorem gKindsType : (Tryd.prog.globals[0]?).map (·.type) = some 51 := by kernel_rfl
theorem gMost : Tryd.prog.globalNamed "crier/value.most" = some 1 := by kernel_rfl
theorem gMostType : (Tryd.prog.globals[1]?).map (·.type) = some 53 := by kernel_rfl
theorem cells51 : Tryd.prog.cellsOf 51 = 8 := by kernel_rfl
theorem cells53 : Tryd.prog.cellsOf 53 = 8 := by kernel_rfl
theorem cells3 : Tryd.prog.cellsOf 3 = 1 := by kernel_rfl
theorem cells22 : Tryd.prog.cellsOf 22 = 1 := by kernel_rfl
def kindsL : List Int := [0, 0, 0, 5, 1, 0, 2, 2]
def mostL : List Int := [18446744073709551615, 4294967295, 18446744073709551615, 4294967295, 18446744073709551615, 1, 18446744073709551615, 18446744073709551615]
/-- What the program's tables hold. -/
def Tabs (w : World) : Prop := TabAt w 0 .i64 kindsL ∧ TabAt w 1 .u64 mostL
theorem Tabs.keep {w w' : World} (h : Tabs w) (hb : Below w.heap.size w w') : Tabs w' := ⟨h.1.keep hb, h.2.keep hb⟩
theorem tabs_of {W : World} (h : laidMetH Tryd.prog Rows.valuePutsRow.laid W) : Tabs W := by
  have h' : laidMet Tryd.prog [("crier/value.kinds", Lib.tabData .i64 kindsL), ("crier/value.most", Lib.tabData .u64 mostL)] W := h
  have t1 := Lib.tabIs_of_head gKinds gKindsType Tryd.underlying51 Tryd.underlying3 cells3 cells51 h'
  have t2 := Lib.tabIs_of_head gMost gMostType Tryd.underlying53 Tryd.underlying22 cells22 cells53 (laidMet_tail h')
  exact ⟨fun i hi => t1.cell gKinds i hi, fun i hi => t2.cell gMost i hi⟩
end Go.Proofs.YtoglgdkeknojkaaDoor
