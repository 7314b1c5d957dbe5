/-
  LAYER 31: what was refused, as a number; Born on both sides.
-/
import Derived.Test.YtihblangceblhaaDoorMc
import Derived.Test.YtihblangceblhaaDoorEb
namespace Go.Proofs.YtihblangceblhaaDoor
set_option linter.unusedVariables false
set_option linter.unusedSimpArgs false
open Go.RowKit
def Tabs (w : World) : Prop := w.cell? ⟨0, 0, none⟩ = some (.iface 105 (.agg #[.pointer (some ⟨1, 60, none⟩)]))
theorem Tabs.lt {w : World} (h : Tabs w) : 0 < w.heap.size := by
  rcases Nat.eq_zero_or_pos w.heap.size with h0 | h0
  · unfold Tabs World.cell? at h
    rw [Array.getElem?_eq_none (by omega)] at h
    cases h
  · exact h0
theorem Tabs.keep {w w' : World} (h : Tabs w) (hb : Below w.heap.size w w') : Tabs w' := (hb.cell (by simpa using h.lt)).trans h
theorem code_any (x : Int) (w : World) (ht : Tabs w) : Calls Tryd.prog 34 #[.iface 81 (.agg #[.int .i64 x])] w fun e w' => e = .returned (.int .i64 x) ∧ Below w.heap.size w w' := by
  have A := Lib.hid (as_wrong x (w.alloc (.cells #[.int .i64 0] 81)) (by rw [World.cell?_alloc_lt _ _ _ (by simpa using ht.lt)]; exact ht) w.heap.size (by simp) (by rw [World.cell?_alloc_at _ _ _ _ rfl]; rfl) (World.frozen?_alloc_at _ _ _ _ rfl) ht.lt)
  have B0 := Lib.hid (ext_alloc w (.cells #[.int .i64 0] 81))
  clear ht
  go_enter Tryd.func34, Tryd.ntmps34
  go_wp2_with fail
  refine (A.out).mono ?_
  rintro e w2 ⟨rfl, b2, hc⟩
  have B2 := Lib.hid (B0.out.trans b2)
  clear b2
  go_wp2_with fail
  go_ret
  exact ⟨rfl, B2.out⟩
/-- What told answers: a list and its error's number. -/
def ToldP (l : List It) (n : Int) (w : World) (e : Ending) (w' : World) : Prop := ∃ v, e = .returned (.tuple #[v, .int .i64 n]) ∧ ItsAt w' v l ∧ Below w.heap.size w w'
theorem told_ok (v : Value) (l : List It) (w : World) (h : ItsAt w v l) : Calls Tryd.prog 21 #[v, .nilIface] w (ToldP l 1 w) := by
  have H := Lib.hid h
  obtain ⟨a, cap, rfl, -, -⟩ := h
  go_enter Tryd.func21, Tryd.ntmps21
  go_wp2
  go_ret2
  exact ⟨_, rfl, H.out, Below.refl _ _⟩
theorem told_err (v : Value) (x : Int) (w : World) (ht : Tabs w) : Calls Tryd.prog 21 #[v, .iface 81 (.agg #[.int .i64 x])] w (ToldP [] x w) := by
  have C := Lib.hid (code_any x w ht)
  go_enter Tryd.func21, Tryd.ntmps21
  go_wp2_with fail
  refine (C.out).mono ?_
  rintro e w2 ⟨rfl, b2⟩
  go_wp2_with fail
  go_ret2
  exact ⟨_, rfl, itsAt_nil _, b2⟩
end Go.Proofs.YtihblangceblhaaDoor
