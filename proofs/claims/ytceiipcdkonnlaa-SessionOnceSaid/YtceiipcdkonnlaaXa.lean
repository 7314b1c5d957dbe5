/-
  LAYER 25: a session as one fact.
-/
import Derived.Test.YtceiipcdkonnlaaQc
import Derived.Test.YtceiipcdkonnlaaFk
namespace Go.Proofs.Ytceiipcdkonnlaa.Ses
open Go.RowKit Que Hp Ids Fli
set_option linter.unusedSimpArgs false
set_option linter.unusedVariables false
section
variable {A A' S : Nat → Prop} {W W' : World} {f g : Nat} {T : List Bool} {L : List Se}
theorem fs_others (h : Fs A W f g T L) (F : Far S W W') (hS : ∀ k, S k → A k) (hA : ∀ k, A' k → A k ∨ W.heap.size ≤ k ∧ k < W'.heap.size) : Fs A' W' f g T L := by
  obtain ⟨v, r, d, av⟩ := h.ex
  refine ⟨⟨v, r.far F (fun e => (av f (hS f e)).2.1 rfl) (fun k hk e => (av k (hS k e)).2.2 hk), Ds.others d F (fun k hk => .inl (hS k hk)) ?_, fun k hk => ?_⟩, h.ids, h.nd, h.tr⟩
  · rintro k (hk | hk)
    · exact (hA k hk).imp .inl id
    · exact .inl (.inr hk)
  · rcases hA k hk with e | ⟨e1, e2⟩
    · exact ⟨Nat.lt_of_lt_of_le (av k e).1 F.size, (av k e).2⟩
    · have := r.lt
      exact ⟨e2, by omega, fun e => by have := (r.its.lt k e).2; omega⟩
end
/-- Where a session's parts lie. -/
structure Ad where
  s : Nat
  ps : Nat
  qg : Nat
  qc : Nat
  f : Nat
  g : Nat
  ib : Nat
/-- What the flight may not touch. -/
def AX (A : Nat → Prop) (a : Ad) (k : Nat) : Prop := A k ∨ k = a.s ∨ k = a.ps ∨ k = a.qg ∨ k = a.qc ∨ k = a.ib
structure Ss (A : Nat → Prop) (w : World) (a : Ad) (cl : ByteArray) (cn on : Bool) (T : List Bool) (L : List Se) (l : List Mg) (lost : Int) : Prop where
  row : w.heap[a.s]? = some (.cells #[.string cl, .bool cn, .bool on, .pointer (some ⟨a.ps, 0, none⟩)] 47 (0, 0))
  prow : w.heap[a.ps]? = some (.cells #[.pointer (some ⟨a.qg, 0, none⟩), .pointer (some ⟨a.f, 0, none⟩), .pointer (some ⟨a.ib, 0, none⟩)] 72 (0, 0))
  qu : Quu.Qu w a.qg a.qc 16 l lost
  fs : Fs (AX A a) w a.f a.g T L
  off : ∀ k, A k → k ≠ a.s ∧ k ≠ a.ps ∧ k ≠ a.qg ∧ k ≠ a.qc ∧ k ≠ a.ib
  le : l.length ≤ 16
  ql : ∀ m ∈ l, m.a2 = 1 ∨ m.a2 = 2
section
variable {A A' S : Nat → Prop} {w w' : World} {a : Ad} {cl : ByteArray} {cn on : Bool} {T T' : List Bool} {L L' : List Se} {l l' : List Mg} {lost lost' : Int}
theorem Ss.lts (h : Ss A w a cl cn on T L l lost) : a.s < w.heap.size := (Array.getElem?_eq_some_iff.1 h.row).1
theorem Ss.ltp (h : Ss A w a cl cn on T L l lost) : a.ps < w.heap.size := (Array.getElem?_eq_some_iff.1 h.prow).1
theorem Ss.av (h : Ss A w a cl cn on T L l lost) {k : Nat} (hk : AX A a k) : k < w.heap.size := by
  obtain ⟨v, r, d, av⟩ := h.fs.ex
  exact (av k hk).1
theorem Ss.s0 (h : Ss A w a cl cn on T L l lost) : w.cell? ⟨a.s, 0, none⟩ = some (.string cl) := cell_of_row w _ 0 _ 47 (0, 0) h.row
theorem Ss.s1 (h : Ss A w a cl cn on T L l lost) : w.cell? ⟨a.s, 1, none⟩ = some (.bool cn) := cell_of_row w _ 1 _ 47 (0, 0) h.row
theorem Ss.s2 (h : Ss A w a cl cn on T L l lost) : w.cell? ⟨a.s, 2, none⟩ = some (.bool on) := cell_of_row w _ 2 _ 47 (0, 0) h.row
theorem Ss.s3 (h : Ss A w a cl cn on T L l lost) : w.cell? ⟨a.s, 3, none⟩ = some (.pointer (some ⟨a.ps, 0, none⟩)) := cell_of_row w _ 3 _ 47 (0, 0) h.row
theorem Ss.p0 (h : Ss A w a cl cn on T L l lost) : w.cell? ⟨a.ps, 0, none⟩ = some (.pointer (some ⟨a.qg, 0, none⟩)) := cell_of_row w _ 0 _ 72 (0, 0) h.prow
theorem Ss.p1 (h : Ss A w a cl cn on T L l lost) : w.cell? ⟨a.ps, 1, none⟩ = some (.pointer (some ⟨a.f, 0, none⟩)) := cell_of_row w _ 1 _ 72 (0, 0) h.prow
theorem Ss.p2 (h : Ss A w a cl cn on T L l lost) : w.cell? ⟨a.ps, 2, none⟩ = some (.pointer (some ⟨a.ib, 0, none⟩)) := cell_of_row w _ 2 _ 72 (0, 0) h.prow
theorem Ss.fz (h : Ss A w a cl cn on T L l lost) (j : Nat) : w.frozen? ⟨a.s, j, none⟩ = false := frozen_of_row w _ j _ 47 h.row
theorem ne_types {W : World} {x y : Nat} {c d : Array Value} {t u : TypeId} (hx : W.heap[x]? = some (.cells c t (0, 0))) (hy : W.heap[y]? = some (.cells d u (0, 0))) (h : t ≠ u) : x ≠ y := fun e => by
  subst e
  rw [hx] at hy
  simp only [Option.some.injEq, Obj.cells.injEq] at hy
  exact h hy.2.1
theorem ne_chan {W : World} {x y : Nat} {c : Array Value} {t : TypeId} {o : Obj} (hx : W.heap[x]? = some (.cells c t (0, 0))) (hy : W.heap[y]? = some o) (h : ∀ c t p, o ≠ .cells c t p) : x ≠ y := fun e => by
  subst e
  rw [hx] at hy
  simp only [Option.some.injEq] at hy
  exact h _ _ _ hy.symm
theorem Ss.ne_q (h : Ss A w a cl cn on T L l lost) : a.s ≠ a.qg ∧ a.s ≠ a.qc ∧ a.ps ≠ a.qg ∧ a.ps ≠ a.qc ∧ a.s ≠ a.ps := by
  obtain ⟨s, r, hc⟩ := h.qu.ch
  exact ⟨ne_types h.row h.qu.row (by decide), ne_chan h.row hc (by simp), ne_types h.prow h.qu.row (by decide), ne_chan h.prow hc (by simp), ne_types h.row h.prow (by decide)⟩
/-- All but blocks of A are as they were, and those of A' are no others. -/
theorem Ss.others (h : Ss A w a cl cn on T L l lost) (F : Far S w w') (hS : ∀ k, S k → A k) (hA : ∀ k, A' k → A k ∨ w.heap.size ≤ k ∧ k < w'.heap.size) : Ss A' w' a cl cn on T L l lost := by
  have hoff : ∀ k, A' k → k ≠ a.s ∧ k ≠ a.ps ∧ k ≠ a.qg ∧ k ≠ a.qc ∧ k ≠ a.ib := fun k hk => by
    rcases hA k hk with e | e
    · exact h.off k e
    · have h1 := h.av (k := a.s) (.inr (.inl rfl))
      have h2 := h.av (k := a.ps) (.inr (.inr (.inl rfl)))
      have h3 := h.av (k := a.qg) (.inr (.inr (.inr (.inl rfl))))
      have h4 := h.av (k := a.qc) (.inr (.inr (.inr (.inr (.inl rfl)))))
      have h5 := h.av (k := a.ib) (.inr (.inr (.inr (.inr (.inr rfl)))))
      omega
  refine ⟨(F.block _ h.lts (fun e => (h.off _ (hS _ e)).1 rfl)).trans h.row, (F.block _ h.ltp (fun e => (h.off _ (hS _ e)).2.1 rfl)).trans h.prow, ⟨(F.block _ h.qu.lt (fun e => (h.off _ (hS _ e)).2.2.1 rfl)).trans h.qu.row, ?_⟩, fs_others h.fs F (fun k hk => .inl (hS k hk)) ?_, hoff, h.le, h.ql⟩
  · obtain ⟨s, r, hc⟩ := h.qu.ch
    exact ⟨s, r, (F.block _ h.qu.clt (fun e => (h.off _ (hS _ e)).2.2.2.1 rfl)).trans hc⟩
  · rintro k (hk | hk)
    · exact (hA k hk).imp .inl id
    · exact .inl (.inr hk)
theorem Ss.ext (h : Ss A w a cl cn on T L l lost) (hb : Below w.heap.size w w') : Ss A w' a cl cn on T L l lost :=
  h.others (S := fun _ => False) (Far.of_ext hb) (fun _ e => e.elim) (fun _ e => .inl e)
theorem Ss.weaken (h : Ss A w a cl cn on T L l lost) (hA : ∀ k, A' k → A k) : Ss A' w a cl cn on T L l lost :=
  h.others (S := fun _ => False) (Far.refl _ _) (fun _ e => e.elim) (fun k e => .inl (hA k e))
/-- The queue has changed. -/
theorem Ss.onQ (h : Ss A w a cl cn on T L l lost) (q : Quu.Qu w' a.qg a.qc 16 l' lost') {c : Nat} (hg : w.grownBy w' (some c)) (hc : c = a.qc ∨ c = a.qg) (le : l'.length ≤ 16) (ql : ∀ m ∈ l', m.a2 = 1 ∨ m.a2 = 2) : Ss A w' a cl cn on T L l' lost' ∧ Kp A w w' := by
  have F : Far (fun k => k = c) w w' := Far.of_grown hg (fun k _ e => by simpa using e.symm)
  obtain ⟨n1, n2, n3, n4, n5⟩ := h.ne_q
  have hx : AX A a c := by rcases hc with rfl | rfl <;> simp [AX]
  refine ⟨⟨(F.block _ h.lts (fun e => ?_)).trans h.row, (F.block _ h.ltp (fun e => ?_)).trans h.prow, q, fs_others h.fs F (fun k hk => hk ▸ hx) (fun k hk => .inl hk), h.off, le, ql⟩, F.mono fun k _ e hk => ?_⟩
  · rcases hc with rfl | rfl <;> omega
  · rcases hc with rfl | rfl <;> omega
  · skip
    have := h.off k hk
    rcases hc with rfl | rfl <;> omega
/-- The flight has changed. -/
theorem Ss.onF (h : Ss A w a cl cn on T L l lost) (fs : Fs (AX A a) w' a.f a.g T' L') (k : Kp (AX A a) w w') : Ss A w' a cl cn on T' L' l lost ∧ Kp A w w' := by
  have hb : ∀ x, AX A a x → w'.heap[x]? = w.heap[x]? := fun x hx => k.block x (h.av hx) (fun e => e hx)
  refine ⟨⟨(hb _ (.inr (.inl rfl))).trans h.row, (hb _ (.inr (.inr (.inl rfl)))).trans h.prow, ⟨(hb _ (.inr (.inr (.inr (.inl rfl))))).trans h.qu.row, ?_⟩, fs, h.off, h.le, h.ql⟩, k.mono fun x _ e hx => e (.inl hx)⟩
  obtain ⟨s, r, hc⟩ := h.qu.ch
  exact ⟨s, r, (hb _ (.inr (.inr (.inr (.inr (.inl rfl)))))).trans hc⟩
/-- It is online, or not. -/
theorem Ss.line (h : Ss A w a cl cn on T L l lost) (b : Bool) : Ss A (w.setCell ⟨a.s, 2, none⟩ (.bool b)) a cl cn b T L l lost ∧ Kp A w (w.setCell ⟨a.s, 2, none⟩ (.bool b)) := by
  have F : Far (fun k => k = a.s) w (w.setCell ⟨a.s, 2, none⟩ (.bool b)) := Far.of_grown set_grownX (fun k _ e => by simpa using e.symm)
  obtain ⟨n1, n2, n3, n4, n5⟩ := h.ne_q
  refine ⟨⟨heap_setCell_same w a.s 2 _ 47 (.bool b) h.row, (F.block _ h.ltp (fun e => n5 e.symm)).trans h.prow, ⟨(F.block _ h.qu.lt (fun e => n1 e.symm)).trans h.qu.row, ?_⟩, fs_others h.fs F (fun k hk => hk ▸ .inr (.inl rfl)) (fun k hk => .inl hk), h.off, h.le, h.ql⟩, F.mono fun k _ e hk => (h.off k hk).1 e⟩
  obtain ⟨s, r, hc⟩ := h.qu.ch
  exact ⟨s, r, (F.block _ h.qu.clt (fun e => n2 e.symm)).trans hc⟩
end
/-- The way of a message. -/
def sE (T : List Bool) (m : Mg) : Se := ⟨(nxt T : Int) + 1, m.a2, m.a0, m.a1, m.a2, m.a3⟩
/-- What fill does: the numbers, what is on its way, what still waits, what was sent. -/
def fl : Bool → List Bool → List Se → List Mg → List Bool × List Se × List Mg × List Se
  | _, T, L, [] => (T, L, [], [])
  | on, T, L, m :: r => if on = true ∧ L.length < 8 then
      ((fl on (tk T) (L ++ [sE T m]) r).1, (fl on (tk T) (L ++ [sE T m]) r).2.1, (fl on (tk T) (L ++ [sE T m]) r).2.2.1, sE T m :: (fl on (tk T) (L ++ [sE T m]) r).2.2.2)
    else (T, L, m :: r, [])
/-- A packet that is sent for the first time. -/
def pf (e : Se) : List Value := [.int .i64 3, .int .i64 e.i, .bool false, .string e.t, .string e.x, .int .i64 e.q, .bool e.r, .int .i64 0, .bool false, .int .i64 0, .string { data := #[] }, .bool false, .string { data := #[] }, .string { data := #[] }, .int .i64 0, .bool false, .bool false, .string { data := #[] }, .bool false, .string { data := #[] }, .bool false, .int .i64 0, .slice none 0 0, .slice none 0 0]
theorem pf_len (e : Se) : (pf e).length = 24 := rfl
theorem pf_one (e : Se) : ∀ u ∈ pf e, u.oneCell' = true := by
  intro u hu
  simp only [pf, List.mem_cons, List.not_mem_nil, or_false] at hu
  rcases hu with rfl | rfl | rfl | rfl | rfl | rfl | rfl | rfl | rfl | rfl | rfl | rfl | rfl | rfl | rfl | rfl | rfl | rfl | rfl | rfl | rfl | rfl | rfl | rfl <;> rfl
def pfC (l : List Se) : List Value := l.flatMap pf
theorem pfC_len (l : List Se) : (pfC l).length = l.length * 24 := by
  induction l with
  | nil => rfl
  | cons x r ih => simp only [pfC, List.flatMap_cons, List.length_append, List.length_cons] at ih ⊢; rw [ih, pf_len]; omega
theorem pfC_snoc (l : List Se) (e : Se) : pfC (l ++ [e]) = pfC l ++ pf e := by simp [pfC]
end Go.Proofs.Ytceiipcdkonnlaa.Ses
