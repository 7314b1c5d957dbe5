/-
  LAYER 32: what DeviceLast's rounds hold.
-/
import Derived.Test.YtdljddghbkcddaaDn
namespace Go.Proofs.Ytdljddghbkcddaa
open Go.RowKit

theorem itsC_set : ∀ (l : List It) (j : Nat) (f : It) (s : ByteArray), l[j]? = some f → itsAtC (l.set j { f with a0 := s }) = (itsAtC l).set (j * 8) (.string s) := by
  intro l
  induction l with
  | nil => intro j f s h; simp at h
  | cons g l ih =>
    intro j f s h
    have e : ∀ (x : It) (m : List It), itsAtC (x :: m) = x.cells ++ itsAtC m := fun x m => by simp [itsAtC]
    cases j with
    | zero =>
      simp at h; subst h
      rw [List.set_cons_zero, e, e, Nat.zero_mul]
      rfl
    | succ j =>
      rw [List.set_cons_succ, e, e, List.set_append_right _ _ (by rw [It.cells_len]; omega), It.cells_len, ih j f s (by simpa using h)]
      rw [show (j + 1) * 8 - 8 = j * 8 by omega]
theorem own_slice' {w : World} {B e size n : Nat} {v : Value} {xs : List Value} (h : w.ownsRow B e size v n xs) (hn : 0 < n) : ∃ g c, v = .slice (some ⟨g, 0, none⟩) n c := by
  rcases h.2 with ⟨rfl, rfl⟩ | ⟨g, cap, cur, rfl, _⟩
  · omega
  · exact ⟨_, _, rfl⟩
theorem name_at {w : World} {gl c n : Nat} {l : List It} (h : w.ownsRow 0 49 8 (.slice (some ⟨gl, 0, none⟩) n c) l.length (itsAtC l)) {j : Nat} {f : It} (hj : l[j]? = some f) (hn : n = l.length) :
    w.cell? ⟨gl, j * 8, none⟩ = some (.string f.a0) ∧ w.frozen? ⟨gl, j * 8, none⟩ = false := by
  subst hn
  have hlt : j < l.length := (List.getElem?_eq_some_iff.1 hj).1
  refine ⟨?_, h.frozenAt _⟩
  rw [h.cellAt _ (by omega)]
  have := itsAtC_get l j f hj 0 (by decide)
  rw [Nat.add_zero] at this
  rw [this]; rfl
/-- Nothing of a value's own row is another's. -/
def Apart (v v2 : Value) : Prop := v.ownBlock = none ∨ v.ownBlock ≠ v2.ownBlock
theorem apart_of {w w' : World} {B B' e e' s s' n n' : Nat} {v v2 : Value} {xs xs' : List Value} (h : w.ownsRow B e s v n xs) (h2 : w'.ownsRow B' e' s' v2 n' xs') (hB : w.heap.size ≤ B') : Apart v v2 := by
  cases hv : v.ownBlock with
  | none => exact .inl hv
  | some k =>
    right
    intro e
    rw [hv] at e
    have := (h.lt k hv).2
    have := (h2.lt k e.symm).1
    omega
theorem Apart.symm' {v v2 : Value} (h : Apart v2 v) : Apart v v2 := by
  unfold Apart at *
  rcases h with h | h
  · rw [h]; cases v.ownBlock <;> simp
  · exact .inr (Ne.symm h)
/-- A device, what was told last, a list of the round's own. -/
structure Tl (w W : World) (on : Bool) (v vb v2 : Value) (L l2 : List It) (n : Int) : Prop where
  dv : Dv 79 W w.heap.size tD on v L n
  bx : W.heap[w.heap.size + 1]? = some (.cells #[.string tD, .bool on, vb] 31 (0, 0))
  ob : W.ownsRow 0 49 8 vb L.length (itsAtC L)
  ol : W.ownsRow 0 49 8 v2 l2.length (itsAtC l2)
  f1 : Apart v v2
  f2 : Apart vb v2
  bw : Below w.heap.size w W
  ge : ∀ k, v2.ownBlock = some k → w.heap.size ≤ k
theorem Tl.put {w W : World} {on : Bool} {v vb v2 : Value} {L l2 : List It} {n : Int} {gl c : Nat} (h : Tl w W on v vb v2 L l2 n) (hv : v2 = .slice (some ⟨gl, 0, none⟩) l2.length c) {j : Nat} {f : It} (hj : l2[j]? = some f) (s : ByteArray) :
    Tl w (W.setCell ⟨gl, j * 8, none⟩ (.string s)) on v vb v2 L (l2.set j { f with a0 := s }) n := by
  subst hv
  obtain ⟨o1, g1⟩ := h.ol.stored (j * 8) (.string s)
  have hg1 : some w.heap.size ≠ some gl := own_far h.ol h.dv.row (by decide)
  have hg2 : some (w.heap.size + 1) ≠ some gl := own_far h.ol h.bx (by decide)
  refine ⟨⟨(g1.block _ h.dv.lt hg1).trans h.dv.row, h.dv.its.kept g1 h.f1, h.dv.len⟩, (g1.block _ (Array.getElem?_eq_some_iff.1 h.bx).1 hg2).trans h.bx, h.ob.kept g1 h.f2, ?_, h.f1, h.f2, h.bw.grown g1 h.bw.size (fun k hk => h.ge k hk), h.ge⟩
  rw [List.length_set, itsC_set l2 j f s hj]
  exact o1
/-- Between two rounds. -/
structure Ls (w wr : World) (len k : Nat) (on : Bool) (v vb : Value) (L : List It) (n : Int) : Prop where
  kl : k ≤ len
  k6 : k ≤ 60
  nb : 0 ≤ n ∧ n ≤ k
  dv : Dv 79 wr w.heap.size tD on v L n
  bx : wr.heap[w.heap.size + 1]? = some (.cells #[.string tD, .bool on, vb] 31 (0, 0))
  ob : wr.ownsRow 0 49 8 vb L.length (itsAtC L)
  bw : Below w.heap.size w wr
theorem Tl.next {w W : World} {on : Bool} {v vb v2 : Value} {L l2 : List It} {n : Int} (h : Tl w W on v vb v2 L l2 n) {W' : World} (hb : Below W.heap.size W W') : Tl w W' on v vb v2 L l2 n :=
  ⟨h.dv.keep hb, (hb.block _ (Array.getElem?_eq_some_iff.1 h.bx).1).trans h.bx, own_keep h.ob hb, own_keep h.ol hb, h.f1, h.f2, h.bw.trans (hb.mono h.bw.size), h.ge⟩
theorem box_cells {W : World} {b : Nat} {on : Bool} {vb : Value} (h : W.heap[b]? = some (.cells #[.string tD, .bool on, vb] 31 (0, 0))) :
    W.cell? ⟨b, 0, none⟩ = some (.string tD) ∧ W.cell? ⟨b, 1, none⟩ = some (.bool on) ∧ W.cell? ⟨b, 2, none⟩ = some vb := by
  refine ⟨?_, ?_, ?_⟩ <;> (rw [cell_of_row W b _ _ 31 (0, 0) h]; simp)
theorem box_free {W : World} {b : Nat} {on : Bool} {vb : Value} (h : W.heap[b]? = some (.cells #[.string tD, .bool on, vb] 31 (0, 0))) (j : Nat) : W.frozen? ⟨b, j, none⟩ = false := frozen_of_row W b j _ 31 h
/-- Stores into the block of what was told last. -/
theorem box_set {W : World} {b : Nat} {on on' : Bool} {vb vb' : Value} (h : W.heap[b]? = some (.cells #[.string tD, .bool on, vb] 31 (0, 0))) :
    ((W.setCell ⟨b, 2, none⟩ vb').setCell ⟨b, 1, none⟩ (.bool on')).heap[b]? = some (.cells #[.string tD, .bool on', vb'] 31 (0, 0)) ∧ W.grownBy ((W.setCell ⟨b, 2, none⟩ vb').setCell ⟨b, 1, none⟩ (.bool on')) (some b) := by
  refine ⟨?_, grown_trans (set_grown _) (set_grown _)⟩
  have := setRow (setRow h (j := 2) vb') (j := 1) (.bool on')
  simpa using this
theorem box_set1 {W : World} {b : Nat} {on on' : Bool} {vb : Value} (h : W.heap[b]? = some (.cells #[.string tD, .bool on, vb] 31 (0, 0))) :
    (W.setCell ⟨b, 1, none⟩ (.bool on')).heap[b]? = some (.cells #[.string tD, .bool on', vb] 31 (0, 0)) ∧ W.grownBy (W.setCell ⟨b, 1, none⟩ (.bool on')) (some b) := by
  refine ⟨?_, set_grown _⟩
  have := setRow h (j := 1) (.bool on')
  simpa using this
end Go.Proofs.Ytdljddghbkcddaa
