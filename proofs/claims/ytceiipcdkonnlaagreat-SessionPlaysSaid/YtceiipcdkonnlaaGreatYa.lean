/-
  LAYER 25: the document's session as one fact.
-/
import Derived.Test.YtceiipcdkonnlaaGreatXf
import Derived.Test.YtceiipcdkonnlaaGreatQk
import Derived.Test.YtceiipcdkonnlaaGreatNd
namespace Go.Proofs.YtceiipcdkonnlaaGreat.Ses
open Go.RowKit Que Hp Ids Fli
set_option linter.unusedSimpArgs false
set_option linter.unusedVariables false
/-- Where the document's parts lie. -/
structure Ax where
  x : Nat
  q : Nat
  f : Nat
  i : Nat
/-- Its own blocks, but the inbox's. -/
def OX (d : Ax) (vq vf : Value) (k : Nat) : Prop := k = d.x ∨ k = d.q ∨ k = d.f ∨ vq.ownBlock = some k ∨ vf.ownBlock = some k
structure Xs (A : Nat → Prop) (w : World) (d : Ax) (cl : ByteArray) (cn on : Bool) (vq vf : Value) (L : List Se) (l : List Mg) (lost : Int) : Prop where
  row : w.heap[d.x]? = some (.cells #[.string cl, .bool cn, .bool on, .pointer (some ⟨d.q, 0, none⟩), .pointer (some ⟨d.f, 0, none⟩), .pointer (some ⟨d.i, 0, none⟩)] 63 (0, 0))
  xq : Quu.Xq 0 w d.q vq l 16 lost
  xf : Xf 0 w d.f vf L
  off : ∀ k, A k → k < w.heap.size ∧ ¬ OX d vq vf k
  le : l.length ≤ 16
  l8 : L.length ≤ 8
  ql : ∀ m ∈ l, m.a2 = 1 ∨ m.a2 = 2
section
variable {A A' S : Nat → Prop} {w w' : World} {d : Ax} {cl : ByteArray} {cn on : Bool} {vq vq' vf vf' : Value} {L L' : List Se} {l l' : List Mg} {lost lost' : Int}
theorem Xs.ltx (h : Xs A w d cl cn on vq vf L l lost) : d.x < w.heap.size := (Array.getElem?_eq_some_iff.1 h.row).1
theorem Xs.x2 (h : Xs A w d cl cn on vq vf L l lost) : w.cell? ⟨d.x, 2, none⟩ = some (.bool on) := cell_of_row w _ 2 _ 63 (0, 0) h.row
theorem Xs.x3 (h : Xs A w d cl cn on vq vf L l lost) : w.cell? ⟨d.x, 3, none⟩ = some (.pointer (some ⟨d.q, 0, none⟩)) := cell_of_row w _ 3 _ 63 (0, 0) h.row
theorem Xs.x4 (h : Xs A w d cl cn on vq vf L l lost) : w.cell? ⟨d.x, 4, none⟩ = some (.pointer (some ⟨d.f, 0, none⟩)) := cell_of_row w _ 4 _ 63 (0, 0) h.row
theorem Xs.x5 (h : Xs A w d cl cn on vq vf L l lost) : w.cell? ⟨d.x, 5, none⟩ = some (.pointer (some ⟨d.i, 0, none⟩)) := cell_of_row w _ 5 _ 63 (0, 0) h.row
/-- A block of other cells is none of a row's. -/
theorem Xs.lt (h : Xs A w d cl cn on vq vf L l lost) {k : Nat} (hk : OX d vq vf k) : k < w.heap.size := by
  rcases hk with rfl | rfl | rfl | hk | hk
  · exact h.ltx
  · exact h.xq.lt
  · exact h.xf.lt
  · exact (h.xq.its.lt k hk).2
  · exact (h.xf.its.lt k hk).2
theorem Xs.others (h : Xs A w d cl cn on vq vf L l lost) (F : Far S w w') (hS : ∀ k, S k → A k) (hA : ∀ k, A' k → A k ∨ w.heap.size ≤ k ∧ k < w'.heap.size) : Xs A' w' d cl cn on vq vf L l lost := by
  have hn : ∀ k, OX d vq vf k → ¬ S k := fun k hk hs => (h.off k (hS k hs)).2 hk
  refine ⟨(F.block _ h.ltx (hn _ (.inl rfl))).trans h.row, h.xq.far F (hn _ (.inr (.inl rfl))) (fun k hk => hn k (.inr (.inr (.inr (.inl hk))))), ⟨(F.block _ h.xf.lt (hn _ (.inr (.inr (.inl rfl))))).trans h.xf.row, own_fars h.xf.its F (fun k hk => hn k (.inr (.inr (.inr (.inr hk)))))⟩, fun k hk => ?_, h.le, h.l8, h.ql⟩
  rcases hA k hk with e | ⟨e1, e2⟩
  · exact ⟨Nat.lt_of_lt_of_le (h.off k e).1 F.size, (h.off k e).2⟩
  · exact ⟨e2, fun e => by have := h.lt e; omega⟩
theorem Xs.ext (h : Xs A w d cl cn on vq vf L l lost) (hb : Below w.heap.size w w') : Xs A w' d cl cn on vq vf L l lost :=
  h.others (S := fun _ => False) (Far.of_ext hb) (fun _ e => e.elim) (fun _ e => .inl e)
theorem Xs.weaken (h : Xs A w d cl cn on vq vf L l lost) (hA : ∀ k, A' k → A k) : Xs A' w d cl cn on vq vf L l lost :=
  h.others (S := fun _ => False) (Far.refl _ _) (fun _ e => e.elim) (fun k e => .inl (hA k e))
/-- The document's queue has changed. -/
theorem Xs.onQ (h : Xs A w d cl cn on vq vf L l lost) (n : Quu.XNew 0 w w' d.q vq l' 16 lost' vq') (le : l'.length ≤ 16) (ql : ∀ m ∈ l', m.a2 = 1 ∨ m.a2 = 2) : Xs A w' d cl cn on vq' vf L l' lost' ∧ Kp A w w' := by
  have hx : ¬ Quu.SX d.q vq d.x := fun e => e.elim (fun e => ne_types h.row h.xq.row (by decide) e) (fun e => (own_far h.xq.its h.row (by decide)) e.symm)
  have hf : ¬ Quu.SX d.q vq d.f := fun e => e.elim (fun e => ne_types h.xf.row h.xq.row (by decide) e) (fun e => (own_far h.xq.its h.xf.row (by decide)) e.symm)
  have hv : ∀ k, vf.ownBlock = some k → ¬ Quu.SX d.q vq k := fun k hk e => e.elim (fun e => (own_far h.xf.its h.xq.row (by decide)) (by rw [hk, e])) (fun e => by
    obtain ⟨g, c, hv1⟩ : ∃ g c, vq = .slice (some ⟨k, 0, none⟩) g c := by
      rcases h.xq.its.2 with ⟨rfl, -⟩ | ⟨g, cap, cur, rfl, -⟩
      · cases e
      · simp only [Value.ownBlock, Option.some.injEq] at e; subst e; exact ⟨_, _, rfl⟩
    rcases h.xq.its.2 with ⟨rfl, -⟩ | ⟨g1, cap1, cur1, rfl, -, hc1, -⟩
    · cases e
    · simp only [Value.ownBlock, Option.some.injEq] at e
      subst e
      exact (own_far h.xf.its hc1 (by decide)) hk.symm)
  refine ⟨⟨(n.far.block _ h.ltx hx).trans h.row, n.x, ⟨(n.far.block _ h.xf.lt hf).trans h.xf.row, own_fars h.xf.its n.far hv⟩, fun k hk => ⟨Nat.lt_of_lt_of_le (h.off k hk).1 n.far.size, fun e => ?_⟩, le, h.l8, ql⟩, n.far.mono fun k _ e hk => (h.off k hk).2 (e.elim (fun e => .inr (.inl e)) (fun e => .inr (.inr (.inr (.inl e)))))⟩
  rcases e with e | e | e | e | e
  · exact (h.off k hk).2 (.inl e)
  · exact (h.off k hk).2 (.inr (.inl e))
  · exact (h.off k hk).2 (.inr (.inr (.inl e)))
  · rcases n.nb k e with e | e
    · exact (h.off k hk).2 (.inr (.inr (.inr (.inl e))))
    · have := (h.off k hk).1; omega
  · exact (h.off k hk).2 (.inr (.inr (.inr (.inr e))))
/-- The document's flight has changed. -/
theorem Xs.onF (h : Xs A w d cl cn on vq vf L l lost) (n : XN 0 w w' d.f vf L' vf') (l8 : L'.length ≤ 8) : Xs A w' d cl cn on vq vf' L' l lost ∧ Kp A w w' := by
  have hx : ¬ (d.x = d.f ∨ vf.ownBlock = some d.x) := fun e => e.elim (fun e => ne_types h.row h.xf.row (by decide) e) (fun e => (own_far h.xf.its h.row (by decide)) e.symm)
  have hf : ¬ (d.q = d.f ∨ vf.ownBlock = some d.q) := fun e => e.elim (fun e => ne_types h.xq.row h.xf.row (by decide) e) (fun e => (own_far h.xf.its h.xq.row (by decide)) e.symm)
  have hv : ∀ k, vq.ownBlock = some k → ¬ (k = d.f ∨ vf.ownBlock = some k) := fun k hk e => e.elim (fun e => (own_far h.xq.its h.xf.row (by decide)) (by rw [hk, e])) (fun e => by
    rcases h.xf.its.2 with ⟨rfl, -⟩ | ⟨g1, cap1, cur1, rfl, -, hc1, -⟩
    · cases e
    · simp only [Value.ownBlock, Option.some.injEq] at e
      subst e
      exact (own_far h.xq.its hc1 (by decide)) hk.symm)
  refine ⟨⟨(n.far.block _ h.ltx hx).trans h.row, h.xq.far n.far hf hv, n.r, fun k hk => ⟨Nat.lt_of_lt_of_le (h.off k hk).1 n.far.size, fun e => ?_⟩, h.le, l8, h.ql⟩, n.far.mono fun k _ e hk => (h.off k hk).2 (e.elim (fun e => .inr (.inr (.inl e))) (fun e => .inr (.inr (.inr (.inr e)))))⟩
  rcases e with e | e | e | e | e
  · exact (h.off k hk).2 (.inl e)
  · exact (h.off k hk).2 (.inr (.inl e))
  · exact (h.off k hk).2 (.inr (.inr (.inl e)))
  · exact (h.off k hk).2 (.inr (.inr (.inr (.inl e))))
  · rcases n.nb k e with e | e
    · exact (h.off k hk).2 (.inr (.inr (.inr (.inr e))))
    · have := (h.off k hk).1; omega
/-- It is online, or not. -/
theorem Xs.line (h : Xs A w d cl cn on vq vf L l lost) (b : Bool) : Xs A (w.setCell ⟨d.x, 2, none⟩ (.bool b)) d cl cn b vq vf L l lost ∧ Kp A w (w.setCell ⟨d.x, 2, none⟩ (.bool b)) := by
  have F : Far (fun k => k = d.x) w (w.setCell ⟨d.x, 2, none⟩ (.bool b)) := Far.of_grown set_grownX (fun k _ e => by simpa using e.symm)
  have n1 := ne_types h.row h.xq.row (by decide)
  have n2 := ne_types h.row h.xf.row (by decide)
  refine ⟨⟨heap_setCell_same w d.x 2 _ 63 (.bool b) h.row, h.xq.far F (fun e => n1 e.symm) (fun k hk e => (own_far h.xq.its h.row (by decide)) (by rw [hk, e])), ⟨(F.block _ h.xf.lt (fun e => n2 e.symm)).trans h.xf.row, own_fars h.xf.its F (fun k hk e => (own_far h.xf.its h.row (by decide)) (by rw [hk, e]))⟩, fun k hk => ⟨Nat.lt_of_lt_of_le (h.off k hk).1 F.size, (h.off k hk).2⟩, h.le, h.l8, h.ql⟩, F.mono fun k _ e hk => (h.off k hk).2 (.inl e)⟩
end
/-- T tells which numbers are taken by L. -/
def Tk (T : List Bool) (L : List Se) : Prop := ∀ j : Nat, T.getD j false = true ↔ ∃ e ∈ L, e.i = (j : Int) + 1
theorem Tk.next {T : List Bool} {L : List Se} (h : Tk T L) (m : Mg) : Tk (tk T) (L ++ [sE T m]) := fun j => by
  rw [getD_tk]
  by_cases e : j = nxt T
  · rw [if_pos e]
    exact ⟨fun _ => ⟨sE T m, by simp, by rw [e]; rfl⟩, fun _ => rfl⟩
  · rw [if_neg e, h j]
    constructor
    · rintro ⟨x, hx, hi⟩
      exact ⟨x, by simp [hx], hi⟩
    · rintro ⟨x, hx, hi⟩
      rcases List.mem_append.1 hx with hx | hx
      · exact ⟨x, hx, hi⟩
      · rw [List.mem_singleton.1 hx] at hi
        have hi' : (nxt T : Int) + 1 = (j : Int) + 1 := hi
        omega
theorem Tk.nxt_le {T : List Bool} {L : List Se} (h : Tk T L) : nxt T ≤ L.length := by
  have := sub_len (l1 := (List.range (nxt T)).map fun j : Nat => (j : Int) + 1) (l2 := L.map (·.i)) ?_ ?_
  · simpa using this
  · rw [List.nodup_iff_pairwise_ne]
    refine List.Pairwise.map _ (fun a b hab => ?_) (List.nodup_iff_pairwise_ne.1 List.nodup_range)
    intro e
    exact hab (by omega)
  · intro x hx
    obtain ⟨j, hj, rfl⟩ := List.mem_map.1 hx
    obtain ⟨e, he, hi⟩ := (h j).1 (nxt_lo T (List.mem_range.1 hj))
    exact List.mem_map.2 ⟨e, he, hi⟩
theorem xsend {B : Nat} {w : World} {x : Nat} {v : Value} {L : List Se} {T : List Bool} (h : Xf B w x v L) (hB : B ≤ w.heap.size) (hT : Tk T L) (hL : L.length < 8) (m : Mg) (hq : m.a2 = 1 ∨ m.a2 = 2) : Calls Tryz.prog 68 #[.pointer (some ⟨x, 0, none⟩), .agg #[.string m.a0, .string m.a1, .int .i64 m.a2, .bool m.a3]] w fun e w' => e = .returned (.tuple #[.int .i64 ((nxt T : Int) + 1), .int .i64 0]) ∧ ∃ v', XN B w w' x v (L ++ [sE T m]) v' := by
  have hn := hT.nxt_le
  obtain ⟨t, y, q, r⟩ := m
  simp only at hq
  rcases hq with rfl | rfl
  · exact xsend_ok1 h hB t y r hL hT (by omega)
  · exact xsend_ok2 h hB t y r hL hT (by omega)
end Go.Proofs.YtceiipcdkonnlaaGreat.Ses
