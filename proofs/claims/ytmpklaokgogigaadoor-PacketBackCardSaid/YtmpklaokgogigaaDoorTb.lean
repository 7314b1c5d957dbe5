/-
  THE PACKAGE's TABLE: what a row's list gives of it.
-/
import Derived.Test.YtmpklaokgogigaaDoorRc
import Derived.Test.YtmpklaokgogigaaDoorRows
import Derived.Lib.LaidTab
namespace Go.Proofs.YtmpklaokgogigaaDoor
set_option linter.unusedSimpArgs false
set_option linter.unusedVariables false
open Go.RowKit
theorem gMay : Tryd.prog.globalNamed "crier/head.may" = some 0 := by kernel_rfl
theorem gMayType : (Tryd.prog.globals[0]?).map (·.type) = some 71 := by kernel_rfl
theorem cells71 : Tryd.prog.cellsOf 71 = 3 := by kernel_rfl
theorem cells70 : Tryd.prog.cellsOf 70 = 1 := by kernel_rfl
/-- What the program's table holds. -/
def Tabs (w : World) : Prop := Hea.Tab3 w
theorem Tabs.keep {w w' : World} (h : Tabs w) (hb : Below w.heap.size w w') : Tabs w' := Hea.Tab3.keep h hb
theorem tabs_of {W : World} (h : laidMetH Tryd.prog Rows.packetReadsRow.laid W) : Tabs W := by
  have h' : laidMet Tryd.prog [("crier/head.may", Lib.tabData .u16 [1, 4, 15423])] W := h
  have t1 := Lib.tabIs_of_head gMay gMayType Tryd.underlying71 Tryd.underlying70 cells70 cells71 h'
  exact ⟨by simpa using t1.cell gMay 0 (by decide), by simpa using t1.cell gMay 1 (by decide), by simpa using t1.cell gMay 2 (by decide)⟩
end Go.Proofs.YtmpklaokgogigaaDoor
