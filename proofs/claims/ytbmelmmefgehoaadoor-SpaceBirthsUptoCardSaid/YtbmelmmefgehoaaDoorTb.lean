/-
  LAYER 20: the table of the kinds.
-/
import Derived.Test.YtbmelmmefgehoaaDoorCom
import Derived.Test.YtbmelmmefgehoaaDoorRows
import Derived.Lib.LaidU8
import Derived.OpenShut
namespace Go.Proofs.YtbmelmmefgehoaaDoor
open Go.RowKit

def rowsL : List (List UInt8 × Int) := [([], 0), ([78, 66, 73, 82, 84, 72], 1), ([78, 68, 69, 65, 84, 72], 1), ([78, 68, 65, 84, 65], 1), ([78, 67, 77, 68], 1), ([68, 66, 73, 82, 84, 72], 3), ([68, 68, 69, 65, 84, 72], 3), ([68, 68, 65, 84, 65], 3), ([68, 67, 77, 68], 3), ([83, 84, 65, 84, 69], 0)]
def word (k : Nat) : ByteArray := ⟨(rowsL.getD k ([], 0)).1.toArray⟩
def has (k : Nat) : Int := (rowsL.getD k ([], 0)).2
def rowsC : Array Value := #[.string ⟨#[]⟩, .int .i64 0, .string ⟨#[78, 66, 73, 82, 84, 72]⟩, .int .i64 1, .string ⟨#[78, 68, 69, 65, 84, 72]⟩, .int .i64 1, .string ⟨#[78, 68, 65, 84, 65]⟩, .int .i64 1, .string ⟨#[78, 67, 77, 68]⟩, .int .i64 1, .string ⟨#[68, 66, 73, 82, 84, 72]⟩, .int .i64 3, .string ⟨#[68, 68, 69, 65, 84, 72]⟩, .int .i64 3, .string ⟨#[68, 68, 65, 84, 65]⟩, .int .i64 3, .string ⟨#[68, 67, 77, 68]⟩, .int .i64 3, .string ⟨#[83, 84, 65, 84, 69]⟩, .int .i64 0]
/-- The program's table. -/
def Tabs (w : World) : Prop := ∃ t fr, w.heap[0]? = some (.cells rowsC t fr)
theorem gRows : Tryd.prog.globalNamed "crier/space.rows" = some 0 := by kernel_rfl
theorem gRowsType : (Tryd.prog.globals[0]?).map (·.type) = some 46 := by kernel_rfl
theorem cells46 : Tryd.prog.cellsOf 46 = 20 := by kernel_rfl
theorem cells45 : Tryd.prog.cellsOf 45 = 2 := by kernel_rfl
theorem cells9 : Tryd.prog.cellsOf 9 = 1 := by kernel_rfl
theorem cells3 : Tryd.prog.cellsOf 3 = 1 := by kernel_rfl
theorem row_of {H : Type} {enc : TypeId × Value → H} {w : World} {base : Nat} {sp : Nat → Bool} {held : Bool} {fuel : Nat} {l : List Value} {s : List UInt8} {k : Int} {p : List MemPlace}
    (h : DataW.trod enc Tryd.prog w base sp held fuel 45 l = some (.agg [.lit (.string s), .lit (.int .i64 k)], p)) : l = [.string ⟨s.toArray⟩, .int .i64 k] := by
  obtain ⟨xs, n, rfl, hx, hl, hxl, hall⟩ := DataW.trod_struct Tryd.underlying45 h
  rw [cells45] at hl
  have h0 := hall 0 _ rfl
  have h1 := hall 1 _ rfl
  obtain ⟨x, y, rfl⟩ : ∃ x y, xs = [x, y] := by
    match xs, hxl with
    | [x, y], _ => exact ⟨x, y, rfl⟩
  obtain ⟨u, v, rfl⟩ : ∃ u v, l = [u, v] := by
    match l, hl with
    | [u, v], _ => exact ⟨u, v, rfl⟩
  change DataW.trod enc Tryd.prog w base sp held n 9 (List.take (Tryd.prog.cellsOf 9) (List.drop 0 [u, v])) = some x at h0
  change DataW.trod enc Tryd.prog w base sp held n 3 (List.take (Tryd.prog.cellsOf 3) (List.drop 1 [u, v])) = some y at h1
  rw [cells9] at h0
  rw [cells3] at h1
  obtain ⟨s', e1, e2, -⟩ := DataW.trod_string Tryd.underlying9 h0
  obtain ⟨k', e3, e4, -⟩ := DataW.trod_int Tryd.underlying3 h1
  simp only [List.cons.injEq, List.drop, List.take] at e1 e3
  have hx' := congrArg Prod.fst hx
  simp only [List.map_cons, List.map_nil, DataW.agg.injEq, List.cons.injEq, e2, e4, DataW.lit.injEq, Lit.string.injEq, Lit.int.injEq] at hx'
  obtain ⟨rfl, ⟨-, rfl⟩, -⟩ := hx'
  rw [e1.1, e3.1]
theorem tabs_of {W : World} (h : laidMetH Tryd.prog Rows.spaceWordsRow.laid W) : Tabs W := by
  have h' : laidMet Tryd.prog [("crier/space.rows", Rows.laid_crier_space_rows)] W := h
  obtain ⟨g, t, cs, fuel, p, h1, h2, h3, h4⟩ := Lib.laidMet.reads h' (n := "crier/space.rows") (d := Rows.laid_crier_space_rows) (by simp)
  obtain rfl := Option.some.inj (gRows.symm.trans h1)
  obtain rfl := Option.some.inj (gRowsType.symm.trans h2)
  have hlen : cs.toList.length = 20 := by
    obtain ⟨_, _, _, _, hl, _⟩ := DataW.trod_array Tryd.underlying46 h4
    rw [hl, cells46]
  have e0 : (cs.toList.drop (0 * 2)).take 2 = [.string ⟨#[]⟩, .int .i64 0] := by
    obtain ⟨f', d, q, hd, ht⟩ := Lib.array_elem Tryd.underlying46 h4 0 (by decide)
    obtain rfl := Option.some.inj hd
    rw [cells45] at ht
    exact row_of ht
  have e1 : (cs.toList.drop (1 * 2)).take 2 = [.string ⟨#[78, 66, 73, 82, 84, 72]⟩, .int .i64 1] := by
    obtain ⟨f', d, q, hd, ht⟩ := Lib.array_elem Tryd.underlying46 h4 1 (by decide)
    obtain rfl := Option.some.inj hd
    rw [cells45] at ht
    exact row_of ht
  have e2 : (cs.toList.drop (2 * 2)).take 2 = [.string ⟨#[78, 68, 69, 65, 84, 72]⟩, .int .i64 1] := by
    obtain ⟨f', d, q, hd, ht⟩ := Lib.array_elem Tryd.underlying46 h4 2 (by decide)
    obtain rfl := Option.some.inj hd
    rw [cells45] at ht
    exact row_of ht
  have e3 : (cs.toList.drop (3 * 2)).take 2 = [.string ⟨#[78, 68, 65, 84, 65]⟩, .int .i64 1] := by
    obtain ⟨f', d, q, hd, ht⟩ := Lib.array_elem Tryd.underlying46 h4 3 (by decide)
    obtain rfl := Option.some.inj hd
    rw [cells45] at ht
    exact row_of ht
  have e4 : (cs.toList.drop (4 * 2)).take 2 = [.string ⟨#[78, 67, 77, 68]⟩, .int .i64 1] := by
    obtain ⟨f', d, q, hd, ht⟩ := Lib.array_elem Tryd.underlying46 h4 4 (by decide)
    obtain rfl := Option.some.inj hd
    rw [cells45] at ht
    exact row_of ht
  have e5 : (cs.toList.drop (5 * 2)).take 2 = [.string ⟨#[68, 66, 73, 82, 84, 72]⟩, .int .i64 3] := by
    obtain ⟨f', d, q, hd, ht⟩ := Lib.array_elem Tryd.underlying46 h4 5 (by decide)
    obtain rfl := Option.some.inj hd
    rw [cells45] at ht
    exact row_of ht
  have e6 : (cs.toList.drop (6 * 2)).take 2 = [.string ⟨#[68, 68, 69, 65, 84, 72]⟩, .int .i64 3] := by
    obtain ⟨f', d, q, hd, ht⟩ := Lib.array_elem Tryd.underlying46 h4 6 (by decide)
    obtain rfl := Option.some.inj hd
    rw [cells45] at ht
    exact row_of ht
  have e7 : (cs.toList.drop (7 * 2)).take 2 = [.string ⟨#[68, 68, 65, 84, 65]⟩, .int .i64 3] := by
    obtain ⟨f', d, q, hd, ht⟩ := Lib.array_elem Tryd.underlying46 h4 7 (by decide)
    obtain rfl := Option.some.inj hd
    rw [cells45] at ht
    exact row_of ht
  have e8 : (cs.toList.drop (8 * 2)).take 2 = [.string ⟨#[68, 67, 77, 68]⟩, .int .i64 3] := by
    obtain ⟨f', d, q, hd, ht⟩ := Lib.array_elem Tryd.underlying46 h4 8 (by decide)
    obtain rfl := Option.some.inj hd
    rw [cells45] at ht
    exact row_of ht
  have e9 : (cs.toList.drop (9 * 2)).take 2 = [.string ⟨#[83, 84, 65, 84, 69]⟩, .int .i64 0] := by
    obtain ⟨f', d, q, hd, ht⟩ := Lib.array_elem Tryd.underlying46 h4 9 (by decide)
    obtain rfl := Option.some.inj hd
    rw [cells45] at ht
    exact row_of ht
  have hcs : cs = rowsC := by
    obtain ⟨l⟩ := cs
    simp only at *
    unfold rowsC
    congr 1
    match l, hlen with
    | [x0, x1, x2, x3, x4, x5, x6, x7, x8, x9, x10, x11, x12, x13, x14, x15, x16, x17, x18, x19], _ =>
      simp only [List.drop, List.take, List.cons.injEq, Nat.zero_mul, Nat.one_mul, Nat.reduceMul, and_true] at e0 e1 e2 e3 e4 e5 e6 e7 e8 e9
      rw [e0.1, e0.2, e1.1, e1.2, e2.1, e2.2, e3.1, e3.2, e4.1, e4.2, e5.1, e5.2, e6.1, e6.2, e7.1, e7.2, e8.1, e8.2, e9.1, e9.2]
  subst hcs
  unfold World.var? at h3
  rw [gRows] at h3
  simp only [Option.bind_some] at h3
  split at h3
  · rename_i c t fr hh
    obtain rfl := Option.some.inj h3
    exact ⟨_, _, hh⟩
  · cases h3
theorem Tabs.keep {w w' : World} (h : Tabs w) (hb : Below w.heap.size w w') : Tabs w' := by
  obtain ⟨t, fr, hh⟩ := h
  exact ⟨t, fr, by rw [hb.block _ (by have := (Array.getElem?_eq_some_iff.1 hh).1; omega)]; exact hh⟩
theorem Tabs.cells {w : World} (h : Tabs w) (k : Nat) (hk : k < 10) : w.cell? ⟨0, k * 2, none⟩ = some (.string (word k)) ∧ w.cell? ⟨0, k * 2 + 1, none⟩ = some (.int .i64 (has k)) := by
  obtain ⟨t, fr, hh⟩ := h
  unfold World.cell?
  simp only [hh]
  match k, hk with
  | 0, _ => exact ⟨rfl, rfl⟩
  | 1, _ => exact ⟨rfl, rfl⟩
  | 2, _ => exact ⟨rfl, rfl⟩
  | 3, _ => exact ⟨rfl, rfl⟩
  | 4, _ => exact ⟨rfl, rfl⟩
  | 5, _ => exact ⟨rfl, rfl⟩
  | 6, _ => exact ⟨rfl, rfl⟩
  | 7, _ => exact ⟨rfl, rfl⟩
  | 8, _ => exact ⟨rfl, rfl⟩
  | 9, _ => exact ⟨rfl, rfl⟩
end Go.Proofs.YtbmelmmefgehoaaDoor
