/-
  LAYER 3: the document's Of.
-/
import Derived.Test.YtoglgdkeknojkaaDoorWg
namespace Go.Proofs.YtoglgdkeknojkaaDoor
open Go.RowKit

theorem Tryd.info48 : (Tryd.prog.info? 48).map (fun i => (i.zero, i.size, i.bytes)) = some (some (.agg #[.int .i64 0, .int .i64 0, .int .u64 0, .string ⟨#[]⟩]), 4, 40) := by kernel_rfl
theorem Tryd.info3 : (Tryd.prog.info? 3).map (fun i => (i.zero, i.size, i.bytes)) = some (some (.int .i64 0), 1, 8) := by kernel_rfl
def fcs (l : List Fd) : List Value := l.flatMap Fd.cells
theorem fcs_length (l : List Fd) : (fcs l).length = l.length * 4 := by
  induction l with
  | nil => rfl
  | cons f r ih =>
    unfold fcs at *
    rw [List.flatMap_cons, List.length_append, ih, List.length_cons]
    show 4 + _ = _
    omega
theorem fcs_snoc (l : List Fd) (f : Fd) : fcs (l ++ [f]) = fcs l ++ f.cells := by simp [fcs]
theorem fcs_get : ∀ (l : List Fd) (i : Nat) (f : Fd), l[i]? = some f → ∀ j, j < 4 → (fcs l)[i * 4 + j]? = f.cells[j]?
  | [], i, f, h => by simp at h
  | g :: r, 0, f, h => by
    simp at h; subst h
    intro j hj
    unfold fcs
    rw [List.flatMap_cons, List.getElem?_append_left (by show 0 * 4 + j < 4; omega)]
    simp
  | g :: r, i + 1, f, h => by
    intro j hj
    have := fcs_get r i f (by simpa using h) j hj
    unfold fcs at *
    rw [List.flatMap_cons, List.getElem?_append_right (by show 4 ≤ _; omega)]
    rw [← this]
    congr 1
    show (i + 1) * 4 + j - 4 = _
    omega
theorem FdsAt.of_own {w : World} {B : Nat} {v : Value} {l : List Fd} (h : w.ownsRow B 48 4 v l.length (fcs l)) (hl : l.length ≤ 9223372036854775807) : FdsAt w v l := by
  obtain ⟨h1, h2⟩ := h
  rcases h2 with ⟨rfl, hn⟩ | ⟨g, cap, cur, hv, hb, hg, hnc, hcm, hcs, ht⟩
  · exact ⟨none, 0, by rw [hn], hl, .inl (List.eq_nil_of_length_eq_zero hn)⟩
  · refine ⟨_, cap, hv, hl, .inr ⟨g, 0, rfl, (Array.getElem?_eq_some_iff.1 hg).1, fun i f hi j u hj => ?_⟩⟩
    have hj4 : j < 4 := by
      have := (List.getElem?_eq_some_iff.1 hj).1
      exact this
    have hil : i < l.length := (List.getElem?_eq_some_iff.1 hi).1
    rw [cell_of_row w g _ cur 48 (0, 0) hg]
    have hx := fcs_get l i f hi j hj4
    rw [hj, ← ht, List.getElem?_take] at hx
    split at hx
    · rw [← hx]; simp
    · cases hx
def il (l : List Nat) : List Value := l.map fun x : Nat => .int .i64 (x : Int)
def OfPost (R : List Fd × Nat) (w : World) (e : Ending) (w' : World) : Prop := ∃ v, e = .returned (.tuple #[v, .int .i64 (R.2 : Nat)]) ∧ FdsAt w' v R.1 ∧ Below w.heap.size w w'
theorem fds_nil (w : World) : FdsAt w (.slice none 0 0) [] := ⟨none, 0, rfl, by simp, .inl rfl⟩
theorem own_grown {w w' : World} {B B' e e' size size' n n' : Nat} {v v' : Value} {xs xs' : List Value} (h : w.ownsRow B e size v n xs) (h' : w.ownsRow B' e' size' v' n' xs') (hg : w.grownBy w' v'.ownBlock) (ht : e ≠ e') : w'.ownsRow B e size v n xs := by
  rcases h.2 with hn | ⟨g, cap, cur, rfl, hb, hgg, rest⟩
  · exact ⟨h.1, .inl hn⟩
  · have hk : Blk w g e cur := hgg
    exact ⟨h.1, .inr ⟨g, cap, cur, rfl, hb, hk.grown hg (own_type h' hk ht), rest⟩⟩
theorem own_init {w : World} {B e g q cap : Nat} {xs : List Value} {x : Value} (h : w.ownsRow B e 1 (.slice (some ⟨g, 0, none⟩) (q + 1) cap) (q + 1) (xs ++ [x])) : w.ownsRow B e 1 (.slice (some ⟨g, 0, none⟩) q cap) q xs := by
  obtain ⟨h1, h2⟩ := h
  have hl : xs.length = q := by simpa using h1
  refine ⟨by omega, ?_⟩
  rcases h2 with ⟨hn, _⟩ | ⟨g', cap', cur, hv, hb, hg, hnc, hcm, hcs, ht⟩
  · cases hn
  · simp only [Value.slice.injEq] at hv
    obtain ⟨hga, -, rfl⟩ := hv
    refine .inr ⟨g', cap, cur, by rw [hga], hb, hg, by omega, hcm, hcs, ?_⟩
    have : cur.toList.take (q * 1) = (cur.toList.take ((q + 1) * 1)).take q := by rw [List.take_take]; congr 1; omega
    rw [this, ht, List.take_append_of_le_length (by omega), List.take_of_length_le (by omega)]
theorem cell_four_new (w : World) (a b c d : Value) {g : Nat} (t : TypeId) (hg : g = w.heap.size) : ∀ j u, [a, b, c, d][j]? = some u → (w.alloc (.cells #[a, b, c, d] t)).cell? ((⟨g, 0, none⟩ : Addr).add j) = some u := by
  subst hg
  intro j u hj
  rw [Addr.add_mid, Nat.zero_add, World.cell?_alloc_at _ _ _ _ rfl]
  simpa using hj
/-- What the document's Of holds between two rounds. -/
def RRel (w : World) (l : List Nat) (o p a : Value) (wr : World) : Prop :=
  ∃ s : St, a = .int .i64 (s.place : Nat) ∧ s.place ≤ l.length ∧ wr.ownsRow w.heap.size 3 1 p s.op.length (il s.op) ∧ wr.ownsRow w.heap.size 48 4 o s.out.length (fcs s.out) ∧ Below w.heap.size w wr ∧
    s.op.length ≤ 8 ∧ s.out.length ≤ 256 ∧ (∀ x ∈ s.op, x ≤ 536870911) ∧ Leads l ⟨0, [], []⟩ s
theorem of_at {l : List Nat} (h4 : l.length ≤ 4096) {s : St} (h : Leads l ⟨0, [], []⟩ s) : ∃ n, l.length - s.place < n ∧ ofR l = ofF l n s := by
  obtain ⟨n, h1, h2⟩ := h (l.length + 1) (by simp)
  exact ⟨n, h1, by unfold ofR; rw [if_neg (by omega), h2]⟩
end Go.Proofs.YtoglgdkeknojkaaDoor
