/-
  LAYER 14: numbers that stand alone.
-/
import Derived.Test.YtkihhnndidaloaaPa
import Derived.Test.YtkihhnndidaloaaUm
import Derived.Laws.IdiomStrings
namespace Go.Proofs.Ytkihhnndidaloaa
open Go.RowKit

set_option maxRecDepth 100000 in
theorem awake14_any (w : World) : Calls Try.prog 16 #[] w (Yes w) := by
  go_enter Try.func16, Try.ntmps16
  go_wp2_with fail
  refine (put14_a _).mono ?_
  rintro e w1 ⟨v, rfl, a1, b1⟩
  have kc := a1.conv (P := Try.prog) Try.underlying24 Try.underlying5 Try.underlying9
  have hs : strB [0, 1, 97, 0, 5, 120] = ⟨#[0, 1, 97, 0, 5, 120]⟩ := by decide +kernel
  rw [hs] at kc
  obtain ⟨x, n, rfl, -, -⟩ := a1
  simp only [List.length_cons, List.length_nil, Nat.reduceAdd, Nat.zero_add] at kc
  clear hs
  go_wp2_with fail
  go_ret
  exact ⟨rfl, b1⟩
/-- A string's bytes in a row of their own. -/
theorem bytes_of (s : ByteArray) (w : World) : ∃ v w', (convert 9 24 (.string s)).run Try.prog w = .ok v w' ∧ BytesAt w' v (txtL s) ∧ Below w.heap.size w w' := by
  refine ⟨_, _, run_bytes_of_string w 9 24 5 s Try.underlying9 Try.underlying24 Try.underlying5, ?_, (Below.refl _ _).drew.alloc (Nat.le_refl _) _⟩
  have hcap : s.size ≤ grownCap w s.size 0 5 := by
    exact grownCap_ge _ _ _ _
  refine ⟨some ⟨w.heap.size, 0, none⟩, _, by rw [txtL_length], ⟨by rw [txtL_length]; exact hcap, fun h => by cases h⟩, .inr ⟨w.heap.size, 0, rfl, by simp, fun i hi => ?_⟩⟩
  rw [txtL_length] at hi
  have hi' : i < s.data.size := hi
  have := cell_of_row (w.drew.alloc (.cells (bytesRow s (grownCap w s.size 0 5)) 5 ((bytesRow s (grownCap w s.size 0 5)).size, (bytesRow s (grownCap w s.size 0 5)).size + 1))) w.heap.size (0 + i) _ 5 _ (heap_alloc_new _ _)
  rw [this, Nat.zero_add, bytesRow_at s _ i hi']
  simp [txtL, List.getD, Array.getElem?_eq_getElem hi']
def ofF (s : ByteArray) : Int × Int := if s.size = 2 then (if 256 * gB s 0 + gB s 1 = 0 then (0, 1) else (((256 * gB s 0 + gB s 1 : Nat) : Int), 0)) else (0, 4)
def Of2 (r : Int × Int) (w : World) (e : Ending) (w' : World) : Prop := e = .returned (.tuple #[.int .i64 r.1, .int .i64 r.2]) ∧ Below w.heap.size w w'
theorem txt_get (s : ByteArray) (i : Nat) (h : i < s.size) : (txtL s).getD i 0 = gB s i := by
  rw [← gB_at s i h]
  have h' : i < s.data.size := h
  unfold txtL
  simp only [List.getD, List.getElem?_map, Array.getElem?_toList, Array.getElem?_eq_getElem h', Option.map_some, Option.getD_some]
  rfl
theorem get2_txt (s : ByteArray) (h : s.size = 2) : get2V (txtL s) 0 = (((256 * gB s 0 + gB s 1 : Nat) : Int), 2, 0) := by
  unfold get2V
  rw [txtL_length, h, if_neg (by decide), if_neg (by decide)]
  simp only [Int.toNat_zero, Nat.zero_add]
  rw [txt_get s 0 (by omega), txt_get s 1 (by omega)]
  simp
theorem txt_lt (s : ByteArray) : ∀ x ∈ txtL s, x < 256 := by
  intro x hx
  simp only [txtL, List.mem_map] at hx
  obtain ⟨u, _, rfl⟩ := hx
  exact UInt8.toNat_lt _
set_option maxRecDepth 100000 in
theorem ofid_short (f : FuncId) (hf : f = 21 ∨ f = 22) (s : ByteArray) (w : World) (h : s.size ≠ 2) (hs : s.size ≤ 140737488355328) : Calls Try.prog f #[.string s] w (Of2 (0, 4) w) := by
  have h' : ((s.size : Int) != 2) = true := by simp; omega
  replace h := Lib.hid h
  rcases hf with rfl | rfl
  · go_enter Try.func21, Try.ntmps21
    go_wp2_with fail
    go_ret2
    exact ⟨rfl, Below.refl _ _⟩
  · go_enter Try.func22, Try.ntmps22
    go_wp2_with fail
    go_ret2
    exact ⟨rfl, Below.refl _ _⟩
end Go.Proofs.Ytkihhnndidaloaa
