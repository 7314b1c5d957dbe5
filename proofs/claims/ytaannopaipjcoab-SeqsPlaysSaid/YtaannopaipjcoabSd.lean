/-
  LAYER 29: contracts of a row's methods and of the document's own, all outcomes.
-/
import Derived.Test.YtaannopaipjcoabSc
namespace Go.Proofs.Ytaannopaipjcoab
open Go.RowKit

theorem RowAt.far {w : World} {g : Nat} {b : Bool} {q : Int} (h : RowAt w g b q) {p : Addr} (hp : p.block ≠ g) (x : Value) : RowAt (w.setCell p x) g b q := by
  have hne : ∀ i, p ≠ ⟨g, i, none⟩ := fun i e => hp (by rw [e])
  exact ⟨(Go.Proofs.Ytaannopaipjcoab.far w p _ (hne 0)).trans h.made, (Go.Proofs.Ytaannopaipjcoab.far w p _ (hne 1)).trans h.begun, (Go.Proofs.Ytaannopaipjcoab.far w p _ (hne 2)).trans h.want, fun i => by simp [h.free i], by simpa using h.lt⟩

/-- The document's row in block g. -/
structure RefAt (w : World) (g : Nat) (x : Int) : Prop where
  want : w.cell? ⟨g, 0, none⟩ = some (.int .i64 x)
  free : w.frozen? ⟨g, 0, none⟩ = false
  lt : g < w.heap.size
theorem RefAt.far {w : World} {g : Nat} {x : Int} (h : RefAt w g x) {p : Addr} (hp : p.block ≠ g) (v : Value) : RefAt (w.setCell p v) g x :=
  ⟨(Go.Proofs.Ytaannopaipjcoab.far w p _ (fun e => hp (by rw [e]))).trans h.want, by simp [h.free], by simpa using h.lt⟩
theorem RefAt.set {w : World} {g : Nat} {x : Int} (h : RefAt w g x) (y : Int) : RefAt (w.setCell ⟨g, 0, none⟩ (.int .i64 y)) g y :=
  ⟨World.cell?_setCell_same (h := h.want) .., by simp [h.free], by simpa using h.lt⟩
def endW (w : World) (g : Nat) : World := (w.setCell ⟨g, 1, none⟩ (.bool false)).setCell ⟨g, 2, none⟩ (.int .u8 0)
theorem RowAt.ends {w : World} {g : Nat} {b : Bool} {q : Int} (h : RowAt w g b q) : RowAt (endW w g) g false 0 := by
  unfold endW
  refine ⟨?_, ?_, ?_, fun i => by simp [h.free i], by simpa using h.lt⟩
  · rw [other w ⟨g, 1, none⟩ ⟨g, 2, none⟩ ⟨g, 0, none⟩ (by simp) (by simp)]; exact h.made
  · rw [one w ⟨g, 1, none⟩ ⟨g, 2, none⟩ (by simp) h.begun]
  · exact World.cell?_setCell_same (h := (Go.Proofs.Ytaannopaipjcoab.far w ⟨g, 1, none⟩ ⟨g, 2, none⟩ (by simp) (x := .bool false)).trans h.want) ..

set_option maxRecDepth 100000 in
theorem begin_bad (g : Nat) (b : Bool) (n q : Int) (w : World) (h : RowAt w g b q) (l0 : -9223372036854775808 ≤ n) (l1 : n ≤ 9223372036854775807) (hn : n < 0 ∨ 255 < n) :
    Calls Try.prog 12 #[.pointer (some ⟨g, 0, none⟩), .int .i64 n] w fun e w' => e = .returned (.int .i64 1) ∧ w = w' := by
  obtain ⟨c0, c1, c2, cf, cl⟩ := h
  have hne : (n == n % 256) = false := by rw [beq_eq_false_iff_ne]; omega
  have L0 := Lib.hid l0
  have L1 := Lib.hid l1
  clear cf hn l0 l1
  go_enter Try.func12, Try.ntmps12
  go_wp2
  go_ret
  exact ⟨rfl, rfl⟩
set_option maxRecDepth 100000 in
theorem take_bad (g : Nat) (b : Bool) (n q : Int) (w : World) (h : RowAt w g b q) (l0 : -9223372036854775808 ≤ n) (l1 : n ≤ 9223372036854775807) (hn : n < 0 ∨ 255 < n) :
    Calls Try.prog 15 #[.pointer (some ⟨g, 0, none⟩), .int .i64 n] w fun e w' => e = .returned (.int .i64 1) ∧ w = w' := by
  obtain ⟨c0, c1, c2, cf, cl⟩ := h
  have hne : (n == n % 256) = false := by rw [beq_eq_false_iff_ne]; omega
  have L0 := Lib.hid l0
  have L1 := Lib.hid l1
  clear cf hn l0 l1
  go_enter Try.func15, Try.ntmps15
  go_wp2
  go_ret
  exact ⟨rfl, rfl⟩
set_option maxRecDepth 100000 in
theorem end_any (g : Nat) (b : Bool) (q : Int) (w : World) (h : RowAt w g b q) :
    Calls Try.prog 14 #[.pointer (some ⟨g, 0, none⟩)] w fun e w' => e = .returned (.bool b) ∧ endW w g = w' := by
  obtain ⟨c0, c1, c2, cf, cl⟩ := h
  have f1 := cf 1
  have f2 := cf 2
  clear cf
  go_enter Try.func14, Try.ntmps14
  go_wp2
  go_ret
  exact ⟨rfl, rfl⟩
set_option maxRecDepth 100000 in
theorem want_none (g : Nat) (q : Int) (w : World) (h : RowAt w g false q) :
    Calls Try.prog 17 #[.pointer (some ⟨g, 0, none⟩)] w fun e w' => e = .returned (.tuple #[.int .i64 0, .bool false]) ∧ w = w' := by
  obtain ⟨c0, c1, c2, cf, cl⟩ := h
  clear cf
  go_enter Try.func17, Try.ntmps17
  go_wp2
  go_ret2
  exact ⟨rfl, rfl⟩
set_option maxRecDepth 100000 in
theorem fits_none (g : Nat) (n q : Int) (w : World) (h : RowAt w g false q) :
    Calls Try.prog 18 #[.pointer (some ⟨g, 0, none⟩), .int .i64 n] w fun e w' => e = .returned (.bool false) ∧ w = w' := by
  go_enter Try.func18, Try.ntmps18
  go_wp2_with fail
  refine (want_none g q _ h).mono ?_
  rintro e w' ⟨rfl, rfl⟩
  go_wp2
  go_ret
  exact ⟨rfl, rfl⟩
set_option maxRecDepth 100000 in
theorem fits_ok (g : Nat) (n q : Int) (w : World) (h : RowAt w g true q) (h0 : 0 ≤ q) (h1 : q ≤ 255) :
    Calls Try.prog 18 #[.pointer (some ⟨g, 0, none⟩), .int .i64 n] w fun e w' => e = .returned (.bool (n == q)) ∧ w = w' := by
  have H0 := Lib.hid h0
  have H1 := Lib.hid h1
  clear h0 h1
  go_enter Try.func18, Try.ntmps18
  go_wp2_with fail
  refine (want_ok g q _ h H0.out H1.out).mono ?_
  rintro e w' ⟨rfl, rfl⟩
  go_wp2
  go_ret
  exact ⟨rfl, rfl⟩
set_option maxRecDepth 100000 in
theorem rbegin_bad (g : Nat) (n : Int) (w : World) (hn : n < 0 ∨ 255 < n) :
    Calls Try.prog 13 #[.pointer (some ⟨g, 0, none⟩), .int .i64 n] w fun e w' => e = .returned (.int .i64 1) ∧ w = w' := by
  by_cases h : n < 0
  · clear hn
    go_enter Try.func13, Try.ntmps13
    go_wp2
    go_ret
    exact ⟨rfl, rfl⟩
  · have h2 : 255 < n := by omega
    clear hn
    go_enter Try.func13, Try.ntmps13
    go_wp2
    go_ret
    exact ⟨rfl, rfl⟩
set_option maxRecDepth 100000 in
theorem rbegin_ok (g : Nat) (n x : Int) (w : World) (h : RefAt w g x) (h0 : 0 ≤ n) (h1 : n ≤ 255) :
    Calls Try.prog 13 #[.pointer (some ⟨g, 0, none⟩), .int .i64 n] w fun e w' => e = .returned (.int .i64 0) ∧ w.setCell ⟨g, 0, none⟩ (.int .i64 ((n + 1) % 256)) = w' := by
  obtain ⟨c0, cf, cl⟩ := h
  go_enter Try.func13, Try.ntmps13
  go_wp2_with fail
  refine (refstep_any n _ h0 h1).mono ?_
  rintro e w' ⟨rfl, rfl⟩
  go_wp2
  go_ret
  exact ⟨rfl, rfl⟩
set_option maxRecDepth 100000 in
theorem rtake_bad (g : Nat) (n : Int) (w : World) (hn : n < 0 ∨ 255 < n) :
    Calls Try.prog 16 #[.pointer (some ⟨g, 0, none⟩), .int .i64 n] w fun e w' => e = .returned (.int .i64 1) ∧ w = w' := by
  by_cases h : n < 0
  · clear hn
    go_enter Try.func16, Try.ntmps16
    go_wp2
    go_ret
    exact ⟨rfl, rfl⟩
  · have h2 : 255 < n := by omega
    clear hn
    go_enter Try.func16, Try.ntmps16
    go_wp2
    go_ret
    exact ⟨rfl, rfl⟩
set_option maxRecDepth 100000 in
theorem rtake_none (g : Nat) (n x : Int) (w : World) (h : RefAt w g x) (h0 : 0 ≤ n) (h1 : n ≤ 255) (hx : x < 0) :
    Calls Try.prog 16 #[.pointer (some ⟨g, 0, none⟩), .int .i64 n] w fun e w' => e = .returned (.int .i64 7) ∧ w = w' := by
  obtain ⟨c0, cf, cl⟩ := h
  go_enter Try.func16, Try.ntmps16
  go_wp2
  go_ret
  exact ⟨rfl, rfl⟩
set_option maxRecDepth 100000 in
theorem rtake_no (g : Nat) (n x : Int) (w : World) (h : RefAt w g x) (h0 : 0 ≤ n) (h1 : n ≤ 255) (hx : 0 ≤ x) (hne : n ≠ x) :
    Calls Try.prog 16 #[.pointer (some ⟨g, 0, none⟩), .int .i64 n] w fun e w' => e = .returned (.int .i64 1) ∧ w = w' := by
  obtain ⟨c0, cf, cl⟩ := h
  have hb : (n == x) = false := beq_eq_false_iff_ne.2 hne
  clear hne
  go_enter Try.func16, Try.ntmps16
  go_wp2
  go_ret
  exact ⟨rfl, rfl⟩
set_option maxRecDepth 100000 in
theorem rtake_ok (g : Nat) (n : Int) (w : World) (h : RefAt w g n) (h0 : 0 ≤ n) (h1 : n ≤ 255) :
    Calls Try.prog 16 #[.pointer (some ⟨g, 0, none⟩), .int .i64 n] w fun e w' => e = .returned (.int .i64 0) ∧ w.setCell ⟨g, 0, none⟩ (.int .i64 ((n + 1) % 256)) = w' := by
  obtain ⟨c0, cf, cl⟩ := h
  go_enter Try.func16, Try.ntmps16
  go_wp2_with fail
  refine (refstep_any n _ h0 h1).mono ?_
  rintro e w' ⟨rfl, rfl⟩
  go_wp2
  go_ret
  exact ⟨rfl, rfl⟩
end Go.Proofs.Ytaannopaipjcoab
