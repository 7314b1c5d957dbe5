/-
  LAYER 34: contracts of Take.
-/
import Derived.Test.YtdljddghbkcddaaHb
namespace Go.Proofs.Ytdljddghbkcddaa.Hst
open Go.RowKit Go.Maps Go.WideMaps

def tON : ByteArray := { data := #[79, 78, 76, 73, 78, 69] }
def tOFF : ByteArray := { data := #[79, 70, 70, 76, 73, 78, 69] }
def tOf (on : Bool) : ByteArray := if on then tON else tOFF
/-- A text that tells nothing of a host. -/
def Bad (t : ByteArray) : Prop := (t.toList == [79, 78, 76, 73, 78, 69]) = false ∧ (t.toList == [79, 70, 70, 76, 73, 78, 69]) = false

set_option maxRecDepth 100000 in
theorem take_name (g m n : Nat) (kn : List Host) (D : DataW Unit) (t : ByteArray) (w : World) (h : Hs w g m n kn D) :
    Calls Try.prog 21 #[.pointer (some ⟨g, 0, none⟩), .string { data := #[] }, .string t] w fun e w' => e = .returned (.int .i64 7) ∧ w = w' := by
  have hmn := fun (W : World) (b : Option Nat) => run_eql_map_nil (P := Try.prog) W 87 9 3 b Try.underlying87
  have ca := h.at
  clear h
  go_enter Try.func21, Try.ntmps21
  go_wp2
  go_ret
  exact ⟨rfl, rfl⟩

set_option maxRecDepth 100000 in
theorem take_text (g m n : Nat) (kn : List Host) (D : DataW Unit) (k t : ByteArray) (w : World) (h : Hs w g m n kn D) (hk : k.toList.isEmpty = false) (hb : Bad t) :
    Calls Try.prog 21 #[.pointer (some ⟨g, 0, none⟩), .string k, .string t] w fun e w' => e = .returned (.int .i64 3) ∧ w = w' := by
  have hmn := fun (W : World) (b : Option Nat) => run_eql_map_nil (P := Try.prog) W 87 9 3 b Try.underlying87
  have ca := h.at
  obtain ⟨h1, h2⟩ := hb
  clear h
  go_enter Try.func21, Try.ntmps21
  go_wp2
  go_ret
  exact ⟨rfl, rfl⟩

theorem key_of (k : ByteArray) (hk : k.size ≤ maxLen) : keyOf Try.prog 9 (.string k) = some (kl k) := keyOf_string_mk Try.underlying9 hk
theorem Try.alen88 : Try.prog.arrayLen 88 = 4 := by kernel_rfl

set_option maxRecDepth 100000 in
theorem take_full (g m : Nat) (kn : List Host) (D : DataW Unit) (k : ByteArray) (on : Bool) (w : World) (h : Hs w g m 4 kn D) (hk : k.toList.isEmpty = false) (hs : k.size ≤ maxLen) (hi : idx k (kn.take 4) = none) :
    Calls Try.prog 21 #[.pointer (some ⟨g, 0, none⟩), .string k, .string (tOf on)] w fun e w' => e = .returned (.int .i64 8) ∧ w = w' := by
  have hmn := fun (W : World) (b : Option Nat) => run_eql_map_nil (P := Try.prog) W 87 9 3 b Try.underlying87
  have ca := h.at
  have hown := h.map
  have hz := h.size
  have hh := (h.rd k).2 hi
  have kk := key_of k hs
  clear h hi
  cases on
  all_goals
    unfold tOf tON tOFF
    simp only [if_true, Bool.false_eq_true, if_false]
    go_enter Try.func21, Try.ntmps21
    go_wp2_with (first
      | (at_lookup; refine wpList_lookup_own_ok_int _ rfl _ _ 87 rfl 9 3 .i64 law9 Try.underlying87 Try.underlying3 (zero3 _) m 4 D rfl hown _ _ rfl kk ?_; intro c hat hwc)
      | (at_len; refine wpList_len_own _ rfl _ 87 rfl 9 3 Try.underlying87 _ m 4 D rfl hown ?_)
      | go_in)
    go_ret
    exact ⟨rfl, rfl⟩

theorem after_set {w : World} {g m n i : Nat} {kn : List Host} {D : DataW Unit} {k : ByteArray} (h : Hs w g m n kn D) (hi : idx k (kn.take n) = some i) (on : Bool) :
    Hs ((w.setCell ⟨g, 1 + i * 2, none⟩ (.string k)).setCell ⟨g, 1 + i * 2 + 1, none⟩ (.bool on)) g m n (kn.set i (k, on)) D := by
  have hil := idx_lt hi
  rw [List.length_take] at hil
  have hle := h.le
  have hln := h.len
  refine ⟨row_set h.row h.len i (by omega) (k, on), by simpa using hln, hle, (h.map.setCell h.ne _).setCell h.ne _, h.size, h.ne, ?_⟩
  have := h.rd.set on hi
  rw [List.take_set]
  exact this
theorem int_wf {n : Nat} (h : (n : Int) < 4) (h0 : (0 : Int) ≤ n) : (Lit.int .i64 (n : Int)).wf = true := by
  simp [Lit.wf, IntKind.min, IntKind.max, IntKind.signed, IntKind.bits]; omega
/-- What stands behind the map's new entry. -/
theorem after_new {B : Nat} {w w1 : World} {g m n : Nat} {kn : List Host} {D : DataW Unit} {k : ByteArray} (hBm : B ≤ m) (h : Hs w g m n kn D) (hi : idx k (kn.take n) = none) (hn : n < 4) (hg : w.grownBy w1 (some m))
    (hown : w1.ownsMap Try.prog 9 (plainElem (H := Unit) Try.prog 3) m (n + 1) (D.put (kl k) (.lit (.int .i64 (n : Nat))))) :
    Below B w w1 ∧ (∃ v, w1.cell? ⟨g, 1 + n * 2, none⟩ = some (.string v)) ∧ (∃ v, w1.cell? ⟨g, 1 + n * 2 + 1, none⟩ = some (.bool v)) ∧ w1.frozen? ⟨g, 1 + n * 2, none⟩ = false ∧ w1.frozen? ⟨g, 1 + n * 2 + 1, none⟩ = false ∧ w1.cell? ⟨g, 0, none⟩ = some (.map (some m)) ∧
      Hid (∀ on, Hs ((w1.setCell ⟨g, 1 + n * 2, none⟩ (.string k)).setCell ⟨g, 1 + n * 2 + 1, none⟩ (.bool on)) g m (n + 1) (kn.set n (k, on)) (D.put (kl k) (.lit (.int .i64 (n : Nat))))) := by
  have hrow : w1.heap[g]? = some (.cells (rowOf m kn) 90 (0, 0)) := (hg.block g h.lt (fun e => h.ne (Option.some.inj e).symm)).trans h.row
  have hln := h.len
  have hlt : (kn.take n).length = n := by rw [List.length_take]; omega
  have hc : ∃ x : Host, w1.cell? ⟨g, 1 + n * 2, none⟩ = some (.string x.1) ∧ w1.cell? ⟨g, 1 + n * 2 + 1, none⟩ = some (.bool x.2) := by
    obtain ⟨x, _, e1, e2⟩ := h.cells n hn
    rw [cell_of_row w g _ _ 90 (0, 0) h.row] at e1 e2
    exact ⟨x, by rw [cell_of_row w1 g _ _ 90 (0, 0) hrow]; exact e1, by rw [cell_of_row w1 g _ _ 90 (0, 0) hrow]; exact e2⟩
  obtain ⟨x, e1, e2⟩ := hc
  refine ⟨(Below.refl _ _).grown hg ?_ (fun j hj => by cases hj; exact hBm), ⟨_, e1⟩, ⟨_, e2⟩, frozen_of_row w1 g _ _ 90 hrow, frozen_of_row w1 g _ _ 90 hrow, by rw [cell_of_row w1 g _ _ 90 (0, 0) hrow]; simp [rowOf], Lib.hid fun on => ?_⟩
  · have := h.map.lt; omega
  · refine ⟨row_set hrow h.len n hn (k, on), by simpa using hln, by omega, (hown.setCell h.ne _).setCell h.ne _, ?_, h.ne, ?_⟩
    · rw [size_put (h.map.tidy law9)]
      rw [(h.rd k).2 hi, h.size]
      rfl
    · have := h.rd.put h.map.isMap on hi
      rw [hlt] at this
      rw [List.take_set, List.take_succ_eq_append_getElem (show n < kn.length by omega), List.set_append_right _ _ (by omega), hlt, Nat.sub_self]
      exact this

set_option maxRecDepth 100000 in
theorem take_known (B g m n i : Nat) (kn : List Host) (D : DataW Unit) (k : ByteArray) (on : Bool) (w : World) (h : Hs w g m n kn D) (hBg : B ≤ g) (hk : k.toList.isEmpty = false) (hs : k.size ≤ maxLen) (hi : idx k (kn.take n) = some i) :
    Calls Try.prog 21 #[.pointer (some ⟨g, 0, none⟩), .string k, .string (tOf on)] w fun e w' => e = .returned (.int .i64 1) ∧ Hs w' g m n (kn.set i (k, on)) D ∧ Below B w w' := by
  have hmn := fun (W : World) (b : Option Nat) => run_eql_map_nil (P := Try.prog) W 87 9 3 b Try.underlying87
  have ca := h.at
  have hown := h.map
  have hil := idx_lt hi
  have hle := h.le
  have hln := h.len
  have hi4 : i < 4 := by rw [List.length_take] at hil; omega
  obtain ⟨hh, hat0⟩ := (h.rd k).1 i hi
  have kk := key_of k hs
  obtain ⟨x, hx, hc1, hc2⟩ := h.cells i hi4
  have f1 := h.free (1 + i * 2)
  have f2 := h.free (1 + i * 2 + 1)
  have H := Lib.hid h
  have HI := Lib.hid hi
  have HAT := Lib.hid hat0
  have al := Try.alen88
  have hi0 : (0 : Int) ≤ i := by omega
  have hi5 : (i : Int) < 4 := by omega
  clear h hi hx hil hat0 hln
  cases on
  all_goals
    unfold tOf tON tOFF
    simp only [if_true, Bool.false_eq_true, if_false]
    go_enter Try.func21, Try.ntmps21
    go_wp2_with (first
      | (at_lookup; refine wpList_lookup_own_ok_int _ rfl _ _ 87 rfl 9 3 .i64 law9 Try.underlying87 Try.underlying3 (zero3 _) m n D rfl hown _ _ rfl kk ?_; intro c hat hwc; rw [HAT.out] at hat; obtain rfl : (i : Int) = c := (by injection hat with h1; injection h1); clear hat hwc)
      | go_in)
    go_ret
    refine ⟨rfl, after_set H.out HI.out _, ?_⟩
    exact ((Below.refl _ _).setCell hBg _).setCell hBg _

/-- The map has a new name, the world has nothing else new. -/
theorem grown_block {w w1 : World} {m g : Nat} (h : w.grownBy w1 (some m)) (hg : g < w.heap.size) (hne : m ≠ g) : w1.heap[g]? = w.heap[g]? :=
  h.block g hg (fun e => hne (Option.some.inj e).symm)

set_option maxRecDepth 100000 in
theorem take_new (B g m n : Nat) (kn : List Host) (D : DataW Unit) (k : ByteArray) (on : Bool) (w : World) (h : Hs w g m n kn D) (hBg : B ≤ g) (hBm : B ≤ m) (hk : k.toList.isEmpty = false) (hs : k.size ≤ maxLen) (hn : n < 4) (hi : idx k (kn.take n) = none) :
    Calls Try.prog 21 #[.pointer (some ⟨g, 0, none⟩), .string k, .string (tOf on)] w fun e w' => e = .returned (.int .i64 1) ∧ Hs w' g m (n + 1) (kn.set n (k, on)) (D.put (kl k) (.lit (.int .i64 (n : Nat)))) ∧ Below B w w' := by
  have hmn := fun (W : World) (b : Option Nat) => run_eql_map_nil (P := Try.prog) W 87 9 3 b Try.underlying87
  have ca := h.at
  have hown := h.map
  have hz := h.size
  have hh := (h.rd k).2 hi
  have kk := key_of k hs
  have H := Lib.hid h
  have HI := Lib.hid hi
  have al := Try.alen88
  have hn0 : (0 : Int) ≤ n := by omega
  have hn5 : (n : Int) < 4 := by omega
  clear h hi
  have hn6 : ((n : Int) == 4) = false := by simp; omega
  cases on
  all_goals
    unfold tOf tON tOFF
    simp only [if_true, Bool.false_eq_true, if_false]
    go_enter Try.func21, Try.ntmps21
    go_wp2_with (first
      | (at_lookup; refine wpList_lookup_own_ok_int _ rfl _ _ 87 rfl 9 3 .i64 law9 Try.underlying87 Try.underlying3 (zero3 _) m n D rfl hown _ _ rfl kk ?_; intro c hat hwc; clear hat hwc)
      | (at_len; refine wpList_len_own _ rfl _ 87 rfl 9 3 Try.underlying87 _ m n D rfl hown ?_)
      | (at_mapUpdate; go_must (refine wpList_mapUpdate_own _ rfl _ _ _ 87 rfl 9 3 law9 Try.underlying87 _ m n D rfl hown (by unfold maxLen; omega) _ _ _ rfl rfl kk (.lit (.int .i64 (n : Nat))) [] (plainElem_int Try.underlying3 (int_wf hn5 hn0)) ?_); intro w1 hown1 hgrow1; obtain ⟨hb1, ⟨q1, hc1⟩, ⟨q2, hc2⟩, ef1, ef2, hc0, HH⟩ := after_new hBm H.out HI.out hn hgrow1 hown1; clear hgrow1 hown1)
      | go_in)
    go_ret
    refine ⟨rfl, HH.out _, ?_⟩
    exact (hb1.setCell hBg _).setCell hBg _
end Go.Proofs.Ytdljddghbkcddaa.Hst
