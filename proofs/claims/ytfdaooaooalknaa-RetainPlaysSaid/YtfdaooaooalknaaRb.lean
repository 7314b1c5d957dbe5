/-
  LAYER 27: awake.
-/
import Derived.Test.YtfdaooaooalknaaRa
import Derived.Test.YtfdaooaooalknaaSb
import Derived.StillTailTactics
namespace Go.Proofs.Ytfdaooaooalknaa
set_option linter.unusedSimpArgs false
set_option linter.unusedVariables false
open Go.RowKit Go.Maps Go.WideMaps

abbrev tA : ByteArray := ⟨#[97]⟩
abbrev tX : ByteArray := ⟨#[120]⟩
abbrev zM : Value := .agg #[.string ⟨#[]⟩, .string ⟨#[]⟩, .int .i64 0, .bool false]
abbrev vM : Value := .agg #[.string tA, .string tX, .int .i64 0, .bool true]
open Classical in
/-- How the store's two messages read. -/
noncomputable def R (v : Value) : Option (DataW Unit × List MemPlace) := if v = vM then some (.lit (.bool true), []) else if v = zM then some (.lit (.bool false), []) else none
theorem r_v : R vM = some (.lit (.bool true), []) := by unfold R; rw [if_pos rfl]
theorem z_ne : zM ≠ vM := by intro h; simp [zM, vM] at h
theorem r_z : R zM = some (.lit (.bool false), []) := by unfold R; rw [if_neg z_ne, if_pos rfl]
theorem r_inv {v : Value} {ps : List MemPlace} (h : R v = some (.lit (.bool true), ps)) : v = vM := by
  unfold R at h
  split at h
  · assumption
  · split at h
    · simp at h
    · cases h
theorem r_inv0 {v : Value} {ps : List MemPlace} (h : R v = some (.lit (.bool false), ps)) : v = zM := by
  unfold R at h
  split at h
  · simp at h
  · split at h
    · assumption
    · cases h
theorem law9 : Keyed Try.prog 9 := string_keyed Try.underlying9
theorem zero30 (w : World) : (zeroValue 33).run Try.prog w = .ok zM w := by kernel_rfl
def D0 : DataW Unit := .map []
def D1 : DataW Unit := D0.put (.string [97]) (.lit (.bool true))
def D2 : DataW Unit := D1.del (.string [97])
theorem key_a : keyOf Try.prog 9 (.string tA) = some (.string [97]) := keyOf_string_mk Try.underlying9 (by unfold maxLen; decide)
theorem h0 : has D0 (.string [97]) = false := rfl
theorem h1 : has D1 (.string [97]) = true := rfl
theorem s1 : size D1 = 1 := rfl
theorem s2 : size D2 = 0 := rfl
theorem s0 : size D0 = 0 := rfl
/-- A store: its cell, its map. -/
structure St (w : World) (p g n : Nat) (D : DataW Unit) : Prop where
  cell : w.cell? ⟨p, 0, none⟩ = some (.map (some g))
  own : w.ownsMap Try.prog 9 R g n D
  ne : p ≠ g
theorem St.lt {w : World} {p g n : Nat} {D : DataW Unit} (h : St w p g n D) : p < w.heap.size ∧ g < w.heap.size := by
  have := World.block_lt_of_cell? w _ h.cell
  obtain ⟨es, cl, h1, -⟩ := h.own
  exact ⟨by simpa using this, (Array.getElem?_eq_some_iff.1 h1).1⟩
theorem St.keepB {w w' : World} {p g n B : Nat} {D : DataW Unit} (h : St w p g n D) (hb : Below B w w') (hp : p < B) (hg : g < B) : St w' p g n D := by
  refine ⟨(hb.cell (by simpa using hp)).trans h.cell, ?_, h.ne⟩
  obtain ⟨es, cl, h1, h2⟩ := h.own
  exact ⟨es, cl, by rw [hb.block _ hg]; exact h1, h2⟩
theorem St.keep {w w' : World} {p g n : Nat} {D : DataW Unit} (h : St w p g n D) (hb : Below w.heap.size w w') : St w' p g n D := h.keepB hb h.lt.1 h.lt.2
theorem St.turned {w w' : World} {p g n m : Nat} {D D' : DataW Unit} (h : St w p g n D) (hg : w.grownBy w' (some g)) (ho : w'.ownsMap Try.prog 9 R g m D') : St w' p g m D' := by
  refine ⟨?_, ho, h.ne⟩
  have hl := h.lt
  have := hg.block p hl.1 (by simpa using h.ne)
  have hc := h.cell
  unfold World.cell? at hc ⊢
  simp only [this]
  exact hc
theorem below_turned {w w' : World} {g B : Nat} (hg : w.grownBy w' (some g)) (h1 : B ≤ g) (h2 : B ≤ w.heap.size) : Below B w w' := (Below.refl B w).grown hg h2 (fun j hj => by simp at hj; omega)
theorem look {W : World} {g n : Nat} {D : DataW Unit} (h : W.ownsMap Try.prog 9 R g n D) {v : Value} (hv : ∀ u ps, R u = some (D.atKey (.string [97]) (.lit (.bool false)), ps) → u = v) {b : Bool} (hb : has D (.string [97]) = b) :
    (Instr.lookup 46 (.map (some g)) (.string tA) true).run Try.prog W = .ok (.tuple #[v, .bool b]) W := by
  obtain ⟨u, ps, hrun, hu⟩ := h.look_ok law9 Try.underlying46 (zero30 W) r_z key_a
  rw [hrun, hv u ps hu, hb]
end Go.Proofs.Ytfdaooaooalknaa
