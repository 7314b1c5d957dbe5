/-
  LAYER 34: Take, and what it leaves alone; what all calls do.
-/
import Derived.Test.YtdljddghbkcddaaHi
import Derived.Test.YtdljddghbkcddaaOw
namespace Go.Proofs.Ytdljddghbkcddaa.Hst
open Go.RowKit Go.Maps Go.WideMaps
/-- Nothing but the two blocks has changed. -/
def Kg (g m : Nat) (w w' : World) : Prop := w.heap.size ≤ w'.heap.size ∧ ∀ k, k < w.heap.size → k ≠ g → k ≠ m → w'.heap[k]? = w.heap[k]?
theorem Kg.refl (g m : Nat) (w : World) : Kg g m w w := ⟨Nat.le_refl _, fun _ _ _ _ => rfl⟩
theorem Kg.trans {g m : Nat} {a b c : World} (h : Kg g m a b) (k : Kg g m b c) : Kg g m a c := ⟨Nat.le_trans h.1 k.1, fun j hj h1 h2 => (k.2 j (Nat.lt_of_lt_of_le hj h.1) h1 h2).trans (h.2 j hj h1 h2)⟩
theorem kg_set (g m : Nat) (w : World) (j : Nat) (u : Value) : Kg g m w (w.setCell ⟨g, j, none⟩ u) := ⟨by simp [World.setCell], fun k _ hg _ => Below.heap_setCell _ _ _ _ hg⟩
theorem kg_grown {g m : Nat} {w w1 : World} (h : w.grownBy w1 (some m)) : Kg g m w w1 := ⟨h.size, fun k hk _ hm => h.block k hk (fun e => hm (Option.some.inj e))⟩
set_option maxRecDepth 100000 in
theorem take_known2 (B g m n i : Nat) (kn : List Host) (D : DataW Unit) (k : ByteArray) (on : Bool) (w : World) (h : Hs w g m n kn D) (hBg : B ≤ g) (hk : k.toList.isEmpty = false) (hs : k.size ≤ maxLen) (hi : idx k (kn.take n) = some i) :
    Calls Try.prog 21 #[.pointer (some ⟨g, 0, none⟩), .string k, .string (tOf on)] w fun e w' => e = .returned (.int .i64 1) ∧ Hs w' g m n (kn.set i (k, on)) D ∧ Below B w w' ∧ Kg g m w w' := by
  have hmn := fun (W : World) (b : Option Nat) => run_eql_map_nil (P := Try.prog) W 87 9 3 b Try.underlying87
  have ca := h.at
  have hown := h.map
  have hil := idx_lt hi
  have hle := h.le
  have hln := h.len
  have hi4 : i < 4 := by rw [List.length_take] at hil; omega
  obtain ⟨hh, hat0⟩ := (h.rd k).1 i hi
  have kk := key_of k hs
  obtain ⟨x, hx, hc1, hc2⟩ := h.cells i hi4
  have f1 := h.free (1 + i * 2)
  have f2 := h.free (1 + i * 2 + 1)
  have H := Lib.hid h
  have HI := Lib.hid hi
  have HAT := Lib.hid hat0
  have al := Try.alen88
  have hi0 : (0 : Int) ≤ i := by omega
  have hi5 : (i : Int) < 4 := by omega
  clear h hi hx hil hat0 hln
  cases on
  all_goals
    unfold tOf tON tOFF
    simp only [if_true, Bool.false_eq_true, if_false]
    go_enter Try.func21, Try.ntmps21
    go_wp2_with (first
      | (at_lookup; refine wpList_lookup_own_ok_int _ rfl _ _ 87 rfl 9 3 .i64 law9 Try.underlying87 Try.underlying3 (zero3 _) m n D rfl hown _ _ rfl kk ?_; intro c hat hwc; rw [HAT.out] at hat; obtain rfl : (i : Int) = c := (by injection hat with h1; injection h1); clear hat hwc)
      | go_in)
    go_ret
    exact ⟨rfl, after_set H.out HI.out _, ((Below.refl _ _).setCell hBg _).setCell hBg _, (kg_set _ _ _ _ _).trans (kg_set _ _ _ _ _)⟩

set_option maxRecDepth 100000 in
theorem take_new2 (B g m n : Nat) (kn : List Host) (D : DataW Unit) (k : ByteArray) (on : Bool) (w : World) (h : Hs w g m n kn D) (hBg : B ≤ g) (hBm : B ≤ m) (hk : k.toList.isEmpty = false) (hs : k.size ≤ maxLen) (hn : n < 4) (hi : idx k (kn.take n) = none) :
    Calls Try.prog 21 #[.pointer (some ⟨g, 0, none⟩), .string k, .string (tOf on)] w fun e w' => e = .returned (.int .i64 1) ∧ Hs w' g m (n + 1) (kn.set n (k, on)) (D.put (kl k) (.lit (.int .i64 (n : Nat)))) ∧ Below B w w' ∧ Kg g m w w' := by
  have hmn := fun (W : World) (b : Option Nat) => run_eql_map_nil (P := Try.prog) W 87 9 3 b Try.underlying87
  have ca := h.at
  have hown := h.map
  have hz := h.size
  have hh := (h.rd k).2 hi
  have kk := key_of k hs
  have H := Lib.hid h
  have HI := Lib.hid hi
  have al := Try.alen88
  have hn0 : (0 : Int) ≤ n := by omega
  have hn5 : (n : Int) < 4 := by omega
  clear h hi
  have hn6 : ((n : Int) == 4) = false := by simp; omega
  cases on
  all_goals
    unfold tOf tON tOFF
    simp only [if_true, Bool.false_eq_true, if_false]
    go_enter Try.func21, Try.ntmps21
    go_wp2_with (first
      | (at_lookup; refine wpList_lookup_own_ok_int _ rfl _ _ 87 rfl 9 3 .i64 law9 Try.underlying87 Try.underlying3 (zero3 _) m n D rfl hown _ _ rfl kk ?_; intro c hat hwc; clear hat hwc)
      | (at_len; refine wpList_len_own _ rfl _ 87 rfl 9 3 Try.underlying87 _ m n D rfl hown ?_)
      | (at_mapUpdate; go_must (refine wpList_mapUpdate_own _ rfl _ _ _ 87 rfl 9 3 law9 Try.underlying87 _ m n D rfl hown (by unfold maxLen; omega) _ _ _ rfl rfl kk (.lit (.int .i64 (n : Nat))) [] (plainElem_int Try.underlying3 (int_wf hn5 hn0)) ?_); intro w1 hown1 hgrow1; have KG := Lib.hid (kg_grown (g := g) hgrow1); obtain ⟨hb1, ⟨q1, hc1⟩, ⟨q2, hc2⟩, ef1, ef2, hc0, HH⟩ := after_new hBm H.out HI.out hn hgrow1 hown1; clear hgrow1 hown1)
      | go_in)
    go_ret
    exact ⟨rfl, HH.out _, (hb1.setCell hBg _).setCell hBg _, (KG.out.trans (kg_set _ _ _ _ _)).trans (kg_set _ _ _ _ _)⟩

end Go.Proofs.Ytdljddghbkcddaa.Hst
