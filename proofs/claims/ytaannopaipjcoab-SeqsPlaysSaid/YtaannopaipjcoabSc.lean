/-
  LAYER 29: contracts of a row's methods.
-/
import Derived.Test.YtaannopaipjcoabSb
import Derived.Test.YtaannopaipjcoabByt
namespace Go.Proofs.Ytaannopaipjcoab
open Go.RowKit

/-- The row in block g: has it begun, which number does it want? -/
structure RowAt (w : World) (g : Nat) (b : Bool) (q : Int) : Prop where
  made : w.cell? ⟨g, 0, none⟩ = some (.bool true)
  begun : w.cell? ⟨g, 1, none⟩ = some (.bool b)
  want : w.cell? ⟨g, 2, none⟩ = some (.int .u8 q)
  free : ∀ i, w.frozen? ⟨g, i, none⟩ = false
  lt : g < w.heap.size

def stepW (w : World) (g : Nat) (q : Int) : World := (w.setCell ⟨g, 1, none⟩ (.bool true)).setCell ⟨g, 2, none⟩ (.int .u8 q)
theorem far (w : World) (a b : Addr) (h : a ≠ b) {x : Value} : (w.setCell a x).cell? b = w.cell? b := World.cell?_setCell_other (h := h) ..
theorem other (w : World) (a b c : Addr) (h : a ≠ c) (k : b ≠ c) {x y : Value} : ((w.setCell a x).setCell b y).cell? c = w.cell? c := (far _ b c k).trans (far w a c h)
theorem one (w : World) (a b : Addr) (h : b ≠ a) {x y u : Value} (hc : w.cell? a = some u) : ((w.setCell a x).setCell b y).cell? a = some x := (far _ b a h).trans (World.cell?_setCell_same (h := hc) ..)
theorem RowAt.step {w : World} {g : Nat} {b : Bool} {q : Int} (h : RowAt w g b q) (q' : Int) : RowAt (stepW w g q') g true q' := by
  unfold stepW
  refine ⟨?_, ?_, ?_, fun i => by simp [h.free i], by simpa using h.lt⟩
  · rw [other w ⟨g, 1, none⟩ ⟨g, 2, none⟩ ⟨g, 0, none⟩ (by simp) (by simp)]; exact h.made
  · rw [one w ⟨g, 1, none⟩ ⟨g, 2, none⟩ (by simp) h.begun]
  · exact World.cell?_setCell_same (h := (far w ⟨g, 1, none⟩ ⟨g, 2, none⟩ (by simp) (x := .bool true)).trans h.want) ..
theorem stepW_below {B : Nat} {w0 w : World} {g : Nat} (h : Below B w0 w) (hg : B ≤ g) (q : Int) : Below B w0 (stepW w g q) := (h.setCell hg _).setCell hg _
theorem RowAt.keep {w w' : World} {g : Nat} {b : Bool} {q : Int} (h : RowAt w g b q) (hb : Below w.heap.size w w') : RowAt w' g b q :=
  ⟨(hb.cell h.lt).trans h.made, (hb.cell h.lt).trans h.begun, (hb.cell h.lt).trans h.want, fun i => (hb.frozen h.lt).trans (h.free i), Nat.lt_of_lt_of_le h.lt hb.size⟩

theorem new_any (w : World) : Calls Try.prog 11 #[] w fun e w' => e = .returned (.pointer (some ⟨w.heap.size, 0, none⟩)) ∧ w.alloc (.cells #[.bool true, .bool false, .int .u8 0] 43) = w' := by
  go_enter Try.func11, Try.ntmps11
  go_wp2
  go_ret
  exact ⟨rfl, rfl⟩
theorem new_row (w : World) : RowAt (w.alloc (.cells #[.bool true, .bool false, .int .u8 0] 43)) w.heap.size false 0 :=
  ⟨by rw [World.cell?_alloc_at _ _ _ _ rfl]; rfl, by rw [World.cell?_alloc_at _ _ _ _ rfl]; rfl, by rw [World.cell?_alloc_at _ _ _ _ rfl]; rfl, fun i => World.frozen?_alloc_at _ _ _ _ rfl, by simp⟩

set_option maxRecDepth 100000 in
theorem take_ok (g : Nat) (q : Int) (w : World) (h : RowAt w g true q) (h0 : 0 ≤ q) (h1 : q ≤ 255) :
    Calls Try.prog 15 #[.pointer (some ⟨g, 0, none⟩), .int .i64 q] w fun e w' => e = .returned (.int .i64 0) ∧ stepW w g ((q + 1) % 256) = w' := by
  obtain ⟨c0, c1, c2, cf, cl⟩ := h
  have f1 := cf 1
  have f2 := cf 2
  clear cf
  go_enter Try.func15, Try.ntmps15
  go_wp2
  go_end0
  go_wp2
  go_ret
  exact ⟨rfl, rfl⟩
set_option maxRecDepth 100000 in
theorem take_no (g : Nat) (n q : Int) (w : World) (h : RowAt w g true q) (h0 : 0 ≤ q) (h1 : q ≤ 255) (n0 : 0 ≤ n) (n1 : n ≤ 255) (hne : n ≠ q) :
    Calls Try.prog 15 #[.pointer (some ⟨g, 0, none⟩), .int .i64 n] w fun e w' => e = .returned (.int .i64 1) ∧ w = w' := by
  obtain ⟨c0, c1, c2, cf, cl⟩ := h
  have hb : (n == q) = false := beq_eq_false_iff_ne.2 hne
  clear cf hne
  go_enter Try.func15, Try.ntmps15
  go_wp2
  go_ret
  exact ⟨rfl, rfl⟩
set_option maxRecDepth 100000 in
theorem take_none (g : Nat) (n q : Int) (w : World) (h : RowAt w g false q) (n0 : 0 ≤ n) (n1 : n ≤ 255) :
    Calls Try.prog 15 #[.pointer (some ⟨g, 0, none⟩), .int .i64 n] w fun e w' => e = .returned (.int .i64 7) ∧ w = w' := by
  obtain ⟨c0, c1, c2, cf, cl⟩ := h
  clear cf
  go_enter Try.func15, Try.ntmps15
  go_wp2
  go_ret
  exact ⟨rfl, rfl⟩
set_option maxRecDepth 100000 in
theorem begin_ok (g : Nat) (b : Bool) (n q : Int) (w : World) (h : RowAt w g b q) (n0 : 0 ≤ n) (n1 : n ≤ 255) :
    Calls Try.prog 12 #[.pointer (some ⟨g, 0, none⟩), .int .i64 n] w fun e w' => e = .returned (.int .i64 0) ∧ stepW w g ((n + 1) % 256) = w' := by
  obtain ⟨c0, c1, c2, cf, cl⟩ := h
  have f1 := cf 1
  have f2 := cf 2
  clear cf
  go_enter Try.func12, Try.ntmps12
  go_wp2
  go_end0
  go_wp2
  go_ret
  exact ⟨rfl, rfl⟩
set_option maxRecDepth 100000 in
theorem want_ok (g : Nat) (q : Int) (w : World) (h : RowAt w g true q) (h0 : 0 ≤ q) (h1 : q ≤ 255) :
    Calls Try.prog 17 #[.pointer (some ⟨g, 0, none⟩)] w fun e w' => e = .returned (.tuple #[.int .i64 q, .bool true]) ∧ w = w' := by
  obtain ⟨c0, c1, c2, cf, cl⟩ := h
  clear cf
  go_enter Try.func17, Try.ntmps17
  go_wp2
  go_ret2
  exact ⟨rfl, rfl⟩
end Go.Proofs.Ytaannopaipjcoab
