/-
  LAYER 34: awake.
-/
import Derived.Test.YtdljddghbkcddaaProg
import Derived.Test.YtdljddghbkcddaaCom
import Derived.WalkLawsBesides
import Derived.WalkSpells
import Derived.Maps.Own
import Derived.Maps.OwnOps
import Derived.Maps.OwnSet
import Derived.StringKeys
import Derived.Carry
import Derived.Deep.DeepMust
import Derived.Deep.DeepFit
import Derived.Outline
namespace Go.Proofs.Ytdljddghbkcddaa.Hst
open Go.RowKit Go.Maps Go.WideMaps

theorem law9 : Keyed Try.prog 9 := string_keyed Try.underlying9
theorem zero3 (w : World) : (zeroValue 3).run Try.prog w = .ok (.int .i64 0) w := by kernel_rfl
def hB : ByteArray := { data := #[104] }
def D0 : DataW Unit := .map []
def D1 : DataW Unit := D0.put (.string [104]) (.lit (.int .i64 0))
theorem key_h : keyOf Try.prog 9 (.string { data := #[104] }) = some (.string [104]) := keyOf_string_mk Try.underlying9 (by unfold maxLen; decide)

theorem at_h (c : Int) (h : (D0.put (.string [104]) (.lit (.int .i64 0))).atKey (.string [104]) (.lit (.int .i64 0)) = .lit (.int .i64 c)) : 0 = c := by
  have hc : (DataW.lit (H := Unit) (.int .i64 0)) = .lit (.int .i64 c) := h
  injection hc with h1
  injection h1
def hostRow (g : Nat) : Array Value := #[.map (some g), .string { data := #[] }, .bool false, .string { data := #[] }, .bool false, .string { data := #[] }, .bool false, .string { data := #[] }, .bool false]
theorem after_put (w w1 : World) (hg : ((w.alloc (.map #[] 0)).alloc (.cells (hostRow w.heap.size) 90)).grownBy w1 (some w.heap.size)) :
    (w1.cell? ⟨w.heap.size + 1, 0, none⟩ = some (.map (some w.heap.size)) ∧ w1.cell? ⟨w.heap.size + 1, 1, none⟩ = some (.string { data := #[] }) ∧ w1.cell? ⟨w.heap.size + 1, 2, none⟩ = some (.bool false)) ∧
    (∀ i, w1.frozen? ⟨w.heap.size + 1, i, none⟩ = false) ∧ Below w.heap.size w w1 := by
  have hr : w1.heap[w.heap.size + 1]? = some (.cells (hostRow w.heap.size) 90 (0, 0)) := by
    rw [hg.block (w.heap.size + 1) (by simp) (by simp)]
    have := heap_alloc_new (w.alloc (.map #[] 0)) (.cells (hostRow w.heap.size) 90)
    simpa using this
  refine ⟨⟨?_, ?_, ?_⟩, fun i => frozen_of_row w1 _ i _ 90 hr, ?_⟩
  · rw [cell_of_row w1 _ _ _ 90 (0, 0) hr]; rfl
  · rw [cell_of_row w1 _ _ _ 90 (0, 0) hr]; rfl
  · rw [cell_of_row w1 _ _ _ 90 (0, 0) hr]; rfl
  · exact (ext_trans (ext_alloc w _) (ext_alloc _ _)).grown hg (by simp; omega) (fun k hk => by simp at hk; omega)

set_option maxHeartbeats 1000000 in
set_option maxRecDepth 100000 in
theorem awake34_any (w : World) : Calls Try.prog 25 #[] w (Yes w) := by
  have hmm := @run_makeMap Try.prog
  have hown0 : (w.alloc (.map #[] 0)).ownsMap Try.prog 9 (plainElem (H := Unit) Try.prog 3) w.heap.size 0 D0 := World.ownsMap_made _ _ _ _
  have hmn := fun (W : World) (b : Option Nat) => run_eql_map_nil (P := Try.prog) W 87 9 3 b Try.underlying87
  go_enter Try.func25, Try.ntmps25
  have h0 : has D0 (.string [104]) = false := rfl
  have h00 : size D0 = 0 := rfl
  have h1 : has (D0.put (.string [104]) (.lit (.int .i64 0))) (.string [104]) = true := rfl
  have h11 : size (D0.put (.string [104]) (.lit (.int .i64 0))) = 1 := rfl
  go_wp2_with (first
    | (at_lookup; refine wpList_lookup_own_ok_int _ rfl _ _ 87 rfl 9 3 .i64 law9 Try.underlying87 Try.underlying3 (zero3 _) w.heap.size 0 D0 rfl (hown0.alloc _) _ _ rfl key_h ?_; intro c hat hwc)
    | (at_len; refine wpList_len_own _ rfl _ 87 rfl 9 3 Try.underlying87 _ w.heap.size 0 D0 rfl (hown0.alloc _) ?_)
    | (at_mapUpdate; go_must (refine wpList_mapUpdate_own _ rfl _ _ _ 87 rfl 9 3 law9 Try.underlying87 _ w.heap.size 0 D0 rfl (hown0.alloc _) (by unfold maxLen; omega) _ _ _ rfl rfl key_h (.lit (.int .i64 0)) [] (plainElem_int Try.underlying3 (by decide)) ?_); intro w1 hown1 hgrow1; obtain ⟨⟨e0, e1, e2⟩, ef, hb1⟩ := after_put w w1 hgrow1; have ef1 := ef 1; have ef2 := ef 2; clear hgrow1 ef hown0)
    | (at_lookup; refine wpList_lookup_own_ok_int _ rfl _ _ 87 rfl 9 3 .i64 law9 Try.underlying87 Try.underlying3 (zero3 _) w.heap.size (0 + 1) (D0.put (.string [104]) (.lit (.int .i64 0))) rfl ((hown1.setCell (by simp) _).setCell (by simp) _) _ _ rfl key_h ?_; intro c hat hwc; obtain rfl := at_h c hat; clear hat hwc)
    | (at_len; refine wpList_len_own _ rfl _ 87 rfl 9 3 Try.underlying87 _ w.heap.size (0 + 1) (D0.put (.string [104]) (.lit (.int .i64 0))) rfl ((hown1.setCell (by simp) _).setCell (by simp) _) ?_)
    | go_in)
  go_ret
  exact ⟨rfl, (hb1.setCell (by simp) _).setCell (by simp) _⟩
end Go.Proofs.Ytdljddghbkcddaa.Hst
