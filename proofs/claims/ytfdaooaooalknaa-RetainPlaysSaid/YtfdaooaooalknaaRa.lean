/-
  LAYER 27: a store that nobody made.
-/
import Derived.Test.YtfdaooaooalknaaCom
import Derived.Test.YtfdaooaooalknaaProg
import Derived.WalkLawsBesides
import Derived.WalkSpells
import Derived.Maps.Own
import Derived.Maps.OwnOps
import Derived.Maps.OwnSet
import Derived.StringKeys
import Derived.Carry
import Derived.Deep.DeepMust
import Derived.Deep.DeepFit
import Derived.Outline
namespace Go.Proofs.Ytfdaooaooalknaa
set_option linter.unusedSimpArgs false
set_option linter.unusedVariables false
open Go.RowKit Go.Maps Go.WideMaps

def Same (v : Value) (w : World) (e : Ending) (w' : World) : Prop := e = .returned v ∧ w' = w
def Ret (v : Value) (w : World) (e : Ending) (w' : World) : Prop := e = .returned v ∧ Below w.heap.size w w'
theorem none_nil (w : World) : Calls Try.prog 17 #[.pointer none] w (Same (.bool true) w) := by
  go_enter Try.func17, Try.ntmps17
  go_wp2_with fail
  go_ret
  exact ⟨rfl, rfl⟩
set_option maxRecDepth 100000 in
theorem none_zero (w : World) (p : Nat) (h : w.cell? ⟨p, 0, none⟩ = some (.map none)) : Calls Try.prog 17 #[.pointer (some ⟨p, 0, none⟩)] w (Same (.bool true) w) := by
  have hmn := fun (W : World) (b : Option Nat) => run_eql_map_nil (P := Try.prog) W 46 9 33 b Try.underlying46
  go_enter Try.func17, Try.ntmps17
  go_wp2_with fail
  go_ret
  exact ⟨rfl, rfl⟩
set_option maxRecDepth 100000 in
theorem none_ok (w : World) (p g : Nat) (h : w.cell? ⟨p, 0, none⟩ = some (.map (some g))) : Calls Try.prog 17 #[.pointer (some ⟨p, 0, none⟩)] w (Same (.bool false) w) := by
  have hmn := fun (W : World) (b : Option Nat) => run_eql_map_nil (P := Try.prog) W 46 9 33 b Try.underlying46
  go_enter Try.func17, Try.ntmps17
  go_wp2_with fail
  go_ret
  exact ⟨rfl, rfl⟩
def No (v : Value) (w : World) : Prop := ∀ W, Below w.heap.size w W → Calls Try.prog 17 #[v] W (Same (.bool true) W)
theorem no_nil (w : World) : No (.pointer none) w := fun W _ => none_nil W
theorem no_zero {w : World} {p : Nat} (h : w.cell? ⟨p, 0, none⟩ = some (.map none)) : No (.pointer (some ⟨p, 0, none⟩)) w := fun W hb => none_zero W p ((hb.cell (by simpa using World.block_lt_of_cell? w _ h)).trans h)
theorem No.keep {v : Value} {w w' : World} (h : No v w) (hb : Below w.heap.size w w') : No v w' := fun W k => h W (ext_trans hb k)
def mV (t x : ByteArray) (q : Int) (r : Bool) : Value := .agg #[.string t, .string x, .int .i64 q, .bool r]
theorem len_no (v : Value) (w : World) (h : No v w) : Calls Try.prog 8 #[v] w (Ret (.int .i64 0) w) := by
  have h := Lib.hid h
  go_enter Try.func8, Try.ntmps8
  go_wp2_with fail
  refine (h.out _ (Below.refl _ _)).mono ?_
  rintro e w1 ⟨rfl, rfl⟩
  go_wp2_with fail
  go_ret
  exact ⟨rfl, Below.refl _ _⟩
theorem keep_no (v : Value) (t x : ByteArray) (q : Int) (r : Bool) (w : World) (h : No v w) : Calls Try.prog 6 #[v, .agg #[.string t, .string x, .int .i64 q, .bool r]] w (Ret (.tuple #[.bool false, .int .i64 8]) w) := by
  have h := Lib.hid (h.keep (ext_alloc w (.cells #[.string t, .string x, .int .i64 q, .bool r] 33)))
  go_enter Try.func6, Try.ntmps6
  go_wp2_with fail
  refine (h.out _ (Below.refl _ _)).mono ?_
  rintro e w1 ⟨rfl, rfl⟩
  go_wp2_with fail
  go_ret2
  exact ⟨rfl, ext_alloc _ _⟩
theorem get_no (v : Value) (t : ByteArray) (w : World) (h : No v w) : Calls Try.prog 9 #[v, .string t] w (Ret (.tuple #[.agg #[.string ⟨#[]⟩, .string ⟨#[]⟩, .int .i64 0, .bool false], .bool false]) w) := by
  have h := Lib.hid (h.keep (ext_alloc w (.cells #[.string ⟨#[]⟩, .string ⟨#[]⟩, .int .i64 0, .bool false] 33)))
  go_enter Try.func9, Try.ntmps9
  go_wp2_with fail
  refine (h.out _ (Below.refl _ _)).mono ?_
  rintro e w1 ⟨rfl, rfl⟩
  go_wp2_with fail
  exact bodyPost_ret (v := .tuple #[.agg #[.string ⟨#[]⟩, .string ⟨#[]⟩, .int .i64 0, .bool false], .bool false]) (by simp [results, Try.results9, go_sem]) rfl ⟨rfl, by repeat (first | exact ext_alloc _ _ | refine Below.setCell ?_ (by simp) _)⟩
end Go.Proofs.Ytfdaooaooalknaa
