/-
  LAYER 12: what a row's list gives of the package's variables; a world that meets it.
-/
import Derived.Test.YtceiipcdkonnlaaDoorTh
import Derived.Lib.LaidTab
import Derived.Stop.LaidErr
import Derived.LaidHandle
import Derived.WideWitness
namespace Go.Proofs.YtceiipcdkonnlaaDoor
open Go.RowKit
set_option linter.unusedVariables false
set_option linter.unusedSimpArgs false
theorem gWaits : Tryd.prog.globalNamed "crier/framer.errWaits" = some 0 := by kernel_rfl
theorem gWaitsType : (Tryd.prog.globals[0]?).map (·.type) = some 55 := by kernel_rfl
theorem gErr : Tryd.prog.globalNamed "errors.errorType" = some 1 := by kernel_rfl
theorem gMay : Tryd.prog.globalNamed "crier/head.may" = some 2 := by kernel_rfl
theorem gMayType : (Tryd.prog.globals[2]?).map (·.type) = some 100 := by kernel_rfl
theorem cells100 : Tryd.prog.cellsOf 100 = 3 := by kernel_rfl
theorem cells99 : Tryd.prog.cellsOf 99 = 1 := by kernel_rfl
theorem cells128 : Tryd.prog.cellsOf 128 = 1 := by kernel_rfl
theorem cells9 : Tryd.prog.cellsOf 9 = 1 := by kernel_rfl
theorem cutRt : (Tryd.prog.cutTypes.find? (·.1 == "internal/reflectlite.rtype")).map (·.2) = some 79 := by kernel_rfl
theorem oneRow : ((List.range 139).filter fun t => Tryd.prog.rowNamed t [101, 114, 114, 111, 114]) = [55] := by kernel_rfl
theorem typesN : Tryd.prog.types.size = 139 := by kernel_rfl
theorem star : ("*errors.errorString" : String) = "*" ++ "errors.errorString" := by decide
theorem row107 (u : TypeId) (h : Tryd.prog.typeName? 3 u = some "*errors.errorString") : u = 107 :=
  typeName_ptr_named (nm := "errors.errorString") (by rw [← star]; kernel_rfl) (by kernel_rfl) (by decide) u (by rw [← star]; exact h)
def Tabs (w : World) : Prop := ∃ a0, Gl a0 w
theorem tabs_of {W : World} (h : laidMetH Tryd.prog Rows.framerPlaysRow.laid W) : Tabs W := by
  have h' : laidMet Tryd.prog [("crier/head.may", Lib.tabData .u16 [1, 4, 15423]), ("crier/framer.errWaits", .iface "*errors.errorString" (.ptr (.agg [.lit (.string [116, 111, 111, 32, 102, 101, 119, 32, 98, 121, 116, 101, 115])])))] W ∧ handlesMet Tryd.prog [("errors.errorType", .iface "internal/reflectlite.rtype" (.agg [.ptr (.lit (.string [101, 114, 114, 111, 114]))]))] W := h
  obtain ⟨hl, hh⟩ := h'
  have t1 := Lib.tabIs_of_head gMay gMayType Tryd.underlying100 Tryd.underlying99 cells99 cells100 hl
  obtain ⟨a, s, hv, -⟩ := laid_sentinel (laidMet.tail hl) gWaits gWaitsType Tryd.underlying55 row107 Tryd.underlying107 Tryd.underlying128 rfl rfl Tryd.underlying9 cells128 cells9
  refine ⟨a, by simpa using World.var?_cell gWaits hv 0, ?_, by simpa using t1.cell gMay 0 (by decide), by simpa using t1.cell gMay 1 (by decide), by simpa using t1.cell gMay 2 (by decide)⟩
  obtain ⟨name, u, ty, e1, e2, e3, e4, e5⟩ := hh _ (List.mem_singleton.2 rfl)
  have en : name = [101, 114, 114, 111, 114] := (Option.some.inj e1).symm
  subst en
  obtain rfl := Option.some.inj (cutRt.symm.trans e2)
  have hm : ty ∈ (List.range 139).filter fun t => Tryd.prog.rowNamed t [101, 114, 114, 111, 114] := List.mem_filter.2 ⟨List.mem_range.2 (by rw [← typesN]; exact e3), e4⟩
  rw [oneRow] at hm
  obtain rfl := List.mem_singleton.1 hm
  have hth : typeHandle Tryd.prog 55 = .pointer (some ⟨3, 55, none⟩) := by kernel_rfl
  rw [hth] at e5
  simpa using World.var?_cell gErr e5 0
noncomputable def low : Nat := (World.holding Tryd.prog default ⟨#[], #[], []⟩).heap.size
/-- A world for the witness: the settled one, the variables holding what their initialisers lay. -/
noncomputable def laidW (os : Os) : World :=
  { World.holding Tryd.prog os ⟨#[.cells #[.string ⟨#[116, 111, 111, 32, 102, 101, 119, 32, 98, 121, 116, 101, 115]⟩] 128], #[], []⟩ with heap := ((((World.holding Tryd.prog os ⟨#[.cells #[.string ⟨#[116, 111, 111, 32, 102, 101, 119, 32, 98, 121, 116, 101, 115]⟩] 128], #[], []⟩).heap.modify 2 (fun
      | .cells _ t frozen => .cells #[.int .u16 1, .int .u16 4, .int .u16 15423] t frozen
      | o => o)).modify 1 (fun
      | .cells _ t frozen => .cells #[.iface 79 (.agg #[.pointer (some ⟨3, 55, none⟩)])] t frozen
      | o => o)).modify 0 (fun
      | .cells _ t frozen => .cells #[.iface 107 (.pointer (some ⟨low, 0, none⟩))] t frozen
      | o => o)) }
theorem laidW_met (os : Os) (args : Array Value) : laidMetH Tryd.prog Rows.framerPlaysRow.laid ((laidW os).forCall (fun _ _ => 0) ⟨#[], args, []⟩).memory :=
  laidMetH_of_parts (laidMet_of_run' 8 (by kernel_rfl) (by kernel_rfl)) (by kernel_rfl)
end Go.Proofs.YtceiipcdkonnlaaDoor
