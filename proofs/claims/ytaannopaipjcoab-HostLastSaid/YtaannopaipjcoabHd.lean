/-
  LAYER 34: contracts of New, Online, Len.
-/
import Derived.Test.YtaannopaipjcoabHc
import Derived.Test.YtaannopaipjcoabByt
import Derived.Deep.QuietTactic
import Derived.BigQuiet
namespace Go.Proofs.Ytaannopaipjcoab
open Go.RowKit Go.Maps Go.WideMaps

def kn0 : List Host := [({ data := #[] }, false), ({ data := #[] }, false), ({ data := #[] }, false), ({ data := #[] }, false)]
def D00 : DataW Unit := .map []
def NewPost (w : World) (e : Ending) (w' : World) : Prop := e = .returned (.pointer (some ⟨w.heap.size + 1, 0, none⟩)) ∧ Hs w' (w.heap.size + 1) w.heap.size 0 kn0 D00 ∧ Below w.heap.size w w'

set_option maxRecDepth 100000 in
theorem new_any (w : World) : Calls Try.prog 24 #[] w (NewPost w) := by
  have hmm := @run_makeMap Try.prog
  have hown0 : (w.alloc (.map #[] 0)).ownsMap Try.prog 9 (plainElem (H := Unit) Try.prog 3) w.heap.size 0 D00 := World.ownsMap_made _ _ _ _
  have hr := heap_alloc_new (w.alloc (.map #[] 0)) (.cells (hostRow w.heap.size) 64)
  rw [World.size_alloc] at hr
  have H : Hid (Hs ((w.alloc (.map #[] 0)).alloc (.cells (hostRow w.heap.size) 64)) (w.heap.size + 1) w.heap.size 0 kn0 D00) := Lib.hid ⟨hr, rfl, by omega, hown0.alloc _, rfl, by omega, fun k => ⟨fun i hi => by simp [idx] at hi, fun _ => rfl⟩⟩
  clear hown0 hr
  go_enter Try.func24, Try.ntmps24
  go_wp2
  go_ret
  exact ⟨rfl, H.out, ext_trans (ext_alloc w _) (ext_alloc _ _)⟩

set_option maxRecDepth 100000 in
theorem len_any (g m n : Nat) (kn : List Host) (D : DataW Unit) (w : World) (h : Hs w g m n kn D) :
    Calls Try.prog 28 #[.pointer (some ⟨g, 0, none⟩)] w fun e w' => e = .returned (.int .i64 (n : Nat)) ∧ w = w' := by
  have hmn := fun (W : World) (b : Option Nat) => run_eql_map_nil (P := Try.prog) W 61 9 3 b Try.underlying61
  have ca := h.at
  have hown := h.map
  have hz := h.size
  clear h
  go_enter Try.func28, Try.ntmps28
  go_wp2_with (first
      | (at_len; refine wpList_len_own _ rfl _ 61 rfl 9 3 Try.underlying61 _ m n D rfl hown ?_)
      | go_in)
  go_ret
  exact ⟨rfl, rfl⟩

set_option maxRecDepth 100000 in
theorem online_none (g m n : Nat) (kn : List Host) (D : DataW Unit) (k : ByteArray) (w : World) (h : Hs w g m n kn D) (hs : k.size ≤ maxLen) (hi : idx k (kn.take n) = none) :
    Calls Try.prog 30 #[.pointer (some ⟨g, 0, none⟩), .string k] w fun e w' => e = .returned (.tuple #[.bool false, .bool false]) ∧ w = w' := by
  have hmn := fun (W : World) (b : Option Nat) => run_eql_map_nil (P := Try.prog) W 61 9 3 b Try.underlying61
  have ca := h.at
  have hown := h.map
  have hh := (h.rd k).2 hi
  have kk := key_of k hs
  clear h hi
  go_enter Try.func30, Try.ntmps30
  go_wp2_with (first
      | (at_lookup; refine wpList_lookup_own_ok_int _ rfl _ _ 61 rfl 9 3 .i64 law9 Try.underlying61 Try.underlying3 (zero3 _) m n D rfl hown _ _ rfl kk ?_; intro c hat hwc; clear hat hwc)
      | go_in)
  go_ret2
  exact ⟨rfl, rfl⟩

set_option maxRecDepth 100000 in
theorem online_known (g m n i : Nat) (kn : List Host) (D : DataW Unit) (k : ByteArray) (on : Bool) (w : World) (h : Hs w g m n kn D) (hs : k.size ≤ maxLen) (hi : idx k (kn.take n) = some i) (hx : kn[i]? = some (k, on)) :
    Calls Try.prog 30 #[.pointer (some ⟨g, 0, none⟩), .string k] w fun e w' => e = .returned (.tuple #[.bool on, .bool true]) ∧ w = w' := by
  have hmn := fun (W : World) (b : Option Nat) => run_eql_map_nil (P := Try.prog) W 61 9 3 b Try.underlying61
  have ca := h.at
  have hown := h.map
  have hil := idx_lt hi
  have hle := h.le
  have hln := h.len
  have hi4 : i < 4 := by rw [List.length_take] at hil; omega
  obtain ⟨hh, hat0⟩ := (h.rd k).1 i hi
  have kk := key_of k hs
  obtain ⟨x, hx', hc1, hc2⟩ := h.cells i hi4
  obtain rfl : x = (k, on) := Option.some.inj (hx'.symm.trans hx)
  have HAT := Lib.hid hat0
  have al := Try.alen62
  have hi0 : (0 : Int) ≤ i := by omega
  have hi5 : (i : Int) < 4 := by omega
  clear h hi hx hx' hil hat0 hln
  go_enter Try.func30, Try.ntmps30
  go_wp2_with (first
      | (at_lookup; refine wpList_lookup_own_ok_int _ rfl _ _ 61 rfl 9 3 .i64 law9 Try.underlying61 Try.underlying3 (zero3 _) m n D rfl hown _ _ rfl kk ?_; intro c hat hwc; rw [HAT.out] at hat; obtain rfl : (i : Int) = c := (by injection hat with h1; injection h1); clear hat hwc)
      | go_in)
  go_ret2
  exact ⟨rfl, rfl⟩

/-- A name of two bytes. -/
def hN (c : Nat) : ByteArray := strB [104, c]
theorem conv_lit (w : World) (c : Nat) (ci : Int) (hci : ci = c) : (convert 22 9 (.slice (some ⟨w.heap.size, 0, none⟩) 2 2)).run Try.prog (w.alloc (.cells #[.int .u8 104, .int .u8 ci] 5)) = .ok (.string (hN c)) (w.alloc (.cells #[.int .u8 104, .int .u8 ci] 5)) := by
  subst hci
  have hB : BytesAt (w.alloc (.cells #[.int .u8 104, .int .u8 (c : Int)] 5)) (.slice (some ⟨w.heap.size, 0, none⟩) 2 2) [104, c] := by
    refine ⟨_, 2, rfl, Nat.le_refl _, .inr ⟨w.heap.size, 0, rfl, by simp, fun i hi => ?_⟩⟩
    rw [World.cell?_alloc_at _ _ _ _ rfl]
    have hi' : i < 2 := hi
    rcases (by omega : i = 0 ∨ i = 1) with rfl | rfl <;> simp
  exact hB.conv Try.underlying22 Try.underlying5 Try.underlying9
end Go.Proofs.Ytaannopaipjcoab
