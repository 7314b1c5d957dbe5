/-
  LAYER 34: contracts of New, Online, Len.
-/
import Derived.Test.YtdljddghbkcddaaHc
import Derived.Test.YtdljddghbkcddaaByt
import Derived.Deep.QuietTactic
import Derived.BigQuiet
namespace Go.Proofs.Ytdljddghbkcddaa.Hst
open Go.RowKit Go.Maps Go.WideMaps

def kn0 : List Host := [({ data := #[] }, false), ({ data := #[] }, false), ({ data := #[] }, false), ({ data := #[] }, false)]
def D00 : DataW Unit := .map []
def NewPost (w : World) (e : Ending) (w' : World) : Prop := e = .returned (.pointer (some ⟨w.heap.size + 1, 0, none⟩)) ∧ Hs w' (w.heap.size + 1) w.heap.size 0 kn0 D00 ∧ Below w.heap.size w w'

set_option maxRecDepth 100000 in
theorem new_any (w : World) : Calls Try.prog 20 #[] w (NewPost w) := by
  have hmm := @run_makeMap Try.prog
  have hown0 : (w.alloc (.map #[] 0)).ownsMap Try.prog 9 (plainElem (H := Unit) Try.prog 3) w.heap.size 0 D00 := World.ownsMap_made _ _ _ _
  have hr := heap_alloc_new (w.alloc (.map #[] 0)) (.cells (hostRow w.heap.size) 90)
  rw [World.size_alloc] at hr
  have H : Hid (Hs ((w.alloc (.map #[] 0)).alloc (.cells (hostRow w.heap.size) 90)) (w.heap.size + 1) w.heap.size 0 kn0 D00) := Lib.hid ⟨hr, rfl, by omega, hown0.alloc _, rfl, by omega, fun k => ⟨fun i hi => by simp [idx] at hi, fun _ => rfl⟩⟩
  clear hown0 hr
  go_enter Try.func20, Try.ntmps20
  go_wp2
  go_ret
  exact ⟨rfl, H.out, ext_trans (ext_alloc w _) (ext_alloc _ _)⟩

set_option maxRecDepth 100000 in
theorem len_any (g m n : Nat) (kn : List Host) (D : DataW Unit) (w : World) (h : Hs w g m n kn D) :
    Calls Try.prog 24 #[.pointer (some ⟨g, 0, none⟩)] w fun e w' => e = .returned (.int .i64 (n : Nat)) ∧ w = w' := by
  have hmn := fun (W : World) (b : Option Nat) => run_eql_map_nil (P := Try.prog) W 87 9 3 b Try.underlying87
  have ca := h.at
  have hown := h.map
  have hz := h.size
  clear h
  go_enter Try.func24, Try.ntmps24
  go_wp2_with (first
      | (at_len; refine wpList_len_own _ rfl _ 87 rfl 9 3 Try.underlying87 _ m n D rfl hown ?_)
      | go_in)
  go_ret
  exact ⟨rfl, rfl⟩

set_option maxRecDepth 100000 in
theorem online_none (g m n : Nat) (kn : List Host) (D : DataW Unit) (k : ByteArray) (w : World) (h : Hs w g m n kn D) (hs : k.size ≤ maxLen) (hi : idx k (kn.take n) = none) :
    Calls Try.prog 43 #[.pointer (some ⟨g, 0, none⟩), .string k] w fun e w' => e = .returned (.tuple #[.bool false, .bool false]) ∧ w = w' := by
  have hmn := fun (W : World) (b : Option Nat) => run_eql_map_nil (P := Try.prog) W 87 9 3 b Try.underlying87
  have ca := h.at
  have hown := h.map
  have hh := (h.rd k).2 hi
  have kk := key_of k hs
  clear h hi
  go_enter Try.func43, Try.ntmps43
  go_wp2_with (first
      | (at_lookup; refine wpList_lookup_own_ok_int _ rfl _ _ 87 rfl 9 3 .i64 law9 Try.underlying87 Try.underlying3 (zero3 _) m n D rfl hown _ _ rfl kk ?_; intro c hat hwc; clear hat hwc)
      | go_in)
  go_ret2
  exact ⟨rfl, rfl⟩

set_option maxRecDepth 100000 in
theorem online_known (g m n i : Nat) (kn : List Host) (D : DataW Unit) (k : ByteArray) (on : Bool) (w : World) (h : Hs w g m n kn D) (hs : k.size ≤ maxLen) (hi : idx k (kn.take n) = some i) (hx : kn[i]? = some (k, on)) :
    Calls Try.prog 43 #[.pointer (some ⟨g, 0, none⟩), .string k] w fun e w' => e = .returned (.tuple #[.bool on, .bool true]) ∧ w = w' := by
  have hmn := fun (W : World) (b : Option Nat) => run_eql_map_nil (P := Try.prog) W 87 9 3 b Try.underlying87
  have ca := h.at
  have hown := h.map
  have hil := idx_lt hi
  have hle := h.le
  have hln := h.len
  have hi4 : i < 4 := by rw [List.length_take] at hil; omega
  obtain ⟨hh, hat0⟩ := (h.rd k).1 i hi
  have kk := key_of k hs
  obtain ⟨x, hx', hc1, hc2⟩ := h.cells i hi4
  obtain rfl : x = (k, on) := Option.some.inj (hx'.symm.trans hx)
  have HAT := Lib.hid hat0
  have al := Try.alen88
  have hi0 : (0 : Int) ≤ i := by omega
  have hi5 : (i : Int) < 4 := by omega
  clear h hi hx hx' hil hat0 hln
  go_enter Try.func43, Try.ntmps43
  go_wp2_with (first
      | (at_lookup; refine wpList_lookup_own_ok_int _ rfl _ _ 87 rfl 9 3 .i64 law9 Try.underlying87 Try.underlying3 (zero3 _) m n D rfl hown _ _ rfl kk ?_; intro c hat hwc; rw [HAT.out] at hat; obtain rfl : (i : Int) = c := (by injection hat with h1; injection h1); clear hat hwc)
      | go_in)
  go_ret2
  exact ⟨rfl, rfl⟩

end Go.Proofs.Ytdljddghbkcddaa.Hst
