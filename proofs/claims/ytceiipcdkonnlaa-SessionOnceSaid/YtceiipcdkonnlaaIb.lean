/-
  LAYER 21: the methods of the heap of numbers.
-/
import Derived.Test.YtceiipcdkonnlaaHa
import Derived.Test.YtceiipcdkonnlaaFr
namespace Go.Proofs.Ytceiipcdkonnlaa.Ids
set_option linter.unusedSimpArgs false
set_option linter.unusedVariables false
open Go.RowKit Que Hp
def bl (T : List Bool) : List Value := T.map Value.bool
/-- The numbers in block g. -/
structure Id (B : Nat) (w : World) (g : Nat) (most : Int) (tv : Value) (T : List Bool) (bv : Value) (H : List Int) (c : Int) : Prop where
  row : w.heap[g]? = some (.cells #[.int .i64 most, tv, bv, .int .i64 c] 112 (0, 0))
  tk : w.ownsRow B 4 1 tv T.length (bl T)
  bk : w.ownsRow B 3 1 bv H.length (il H)
section
variable {B : Nat} {w w' : World} {g : Nat} {most c : Int} {tv bv : Value} {T : List Bool} {H : List Int}
theorem Id.lt (h : Id B w g most tv T bv H c) : g < w.heap.size := (Array.getElem?_eq_some_iff.1 h.row).1
theorem Id.c0 (h : Id B w g most tv T bv H c) : w.cell? ⟨g, 0, none⟩ = some (.int .i64 most) := cell_of_row w g 0 _ 112 (0, 0) h.row
theorem Id.c1 (h : Id B w g most tv T bv H c) : w.cell? ⟨g, 1, none⟩ = some tv := cell_of_row w g 1 _ 112 (0, 0) h.row
theorem Id.c2 (h : Id B w g most tv T bv H c) : w.cell? ⟨g, 2, none⟩ = some bv := cell_of_row w g 2 _ 112 (0, 0) h.row
theorem Id.c3 (h : Id B w g most tv T bv H c) : w.cell? ⟨g, 3, none⟩ = some (.int .i64 c) := cell_of_row w g 3 _ 112 (0, 0) h.row
theorem Id.fz (h : Id B w g most tv T bv H c) (j : Nat) : w.frozen? ⟨g, j, none⟩ = false := frozen_of_row w g j _ 112 h.row
theorem Id.keep (h : Id B w g most tv T bv H c) (hb : Below w.heap.size w w') : Id B w' g most tv T bv H c := ⟨(hb.block g h.lt).trans h.row, own_keep h.tk hb, own_keep h.bk hb⟩
theorem Id.drewN (h : Id B w g most tv T bv H c) (n : Nat) : Id B (w.drewN n) g most tv T bv H c := h.keep (ext_drewN _ _)
/-- The k-th number. -/
theorem Id.num (h : Id B w g most tv T bv H c) {gb n cb : Nat} (hv : bv = .slice (some ⟨gb, 0, none⟩) n cb) {k : Nat} (hk : k < H.length) : w.cell? ⟨gb, k, none⟩ = some (.int .i64 (at' H k)) := by
  subst hv
  exact own_get h.bk (by simp [il, at', hk])
theorem len_any (bv : Value) (n : Nat) (a : Option Addr) (cb : Nat) (hv : bv = .slice a n cb) (w : World) : Calls Try.prog 124 #[bv] w fun e w' => e = .returned (.int .i64 n) ∧ w = w' := by
  subst hv
  go_enter Try.func124, Try.ntmps124
  go_wp2
  go_ret
  exact ⟨rfl, rfl⟩
set_option maxRecDepth 100000 in
theorem less_any (h : Id B w g most tv T bv H c) {i j : Nat} (hi : i < H.length) (hj : j < H.length) (hH : H.length ≤ 100000) :
    Calls Try.prog 125 #[bv, .int .i64 i, .int .i64 j] w fun e w' => ∃ k, e = .returned (.bool (decide (at' H i < at' H j))) ∧ w.drewN k = w' := by
  obtain ⟨gb, cb, hv⟩ := own_slice' h.bk (by omega)
  have ci := h.num hv hi
  have cj := h.num hv hj
  subst hv
  have hi0 : (i : Int) < (H.length : Int) := by omega
  have hj0 : (j : Int) < (H.length : Int) := by omega
  have hl' : (H.length : Int) ≤ 100000 := by omega
  generalize at' H i = x at *
  generalize at' H j = y at *
  clear h
  go_enter Try.func125, Try.ntmps125
  go_wp2
  go_quiet (fail)
  go_wp2
  go_ret
  exact ⟨_, rfl, rfl⟩
end
end Go.Proofs.Ytceiipcdkonnlaa.Ids
