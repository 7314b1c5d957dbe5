/-
  LAYER 25: a session as one fact.
-/
import Derived.Test.YtceiipcdkonnlaaGreatQc
import Derived.Test.YtceiipcdkonnlaaGreatFk
namespace Go.Proofs.YtceiipcdkonnlaaGreat.Ses
open Go.RowKit Que Hp Ids Fli
set_option linter.unusedSimpArgs false
set_option linter.unusedVariables false
section
variable {A A' S : Nat → Prop} {W W' : World} {f g : Nat} {T : List Bool} {L : List Se}
theorem fs_others (h : Fs A W f g T L) (F : Far S W W') (hS : ∀ k, S k → A k) (hA : ∀ k, A' k → A k ∨ W.heap.size ≤ k ∧ k < W'.heap.size) : Fs A' W' f g T L := by
  obtain ⟨v, r, d, av⟩ := h.ex
  refine ⟨⟨v, r.far F (fun e => (av f (hS f e)).2.1 rfl) (fun k hk e => (av k (hS k e)).2.2 hk), Ds.others d F (fun k hk => .inl (hS k hk)) ?_, fun k hk => ?_⟩, h.ids, h.nd, h.tr⟩
  · rintro k (hk | hk)
    · exact (hA k hk).imp .inl id
    · exact .inl (.inr hk)
  · rcases hA k hk with e | ⟨e1, e2⟩
    · exact ⟨Nat.lt_of_lt_of_le (av k e).1 F.size, (av k e).2⟩
    · have := r.lt
      exact ⟨e2, by omega, fun e => by have := (r.its.lt k e).2; omega⟩
end
/-- Where a session's parts lie. -/
structure Ad where
  s : Nat
  ps : Nat
  qg : Nat
  qc : Nat
  f : Nat
  g : Nat
  ib : Nat
/-- What the flight may not touch. -/
def AX (A : Nat → Prop) (a : Ad) (k : Nat) : Prop := A k ∨ k = a.s ∨ k = a.ps ∨ k = a.qg ∨ k = a.qc ∨ k = a.ib
structure Ss (A : Nat → Prop) (w : World) (a : Ad) (cl : ByteArray) (cn on : Bool) (T : List Bool) (L : List Se) (l : List Mg) (lost : Int) : Prop where
  row : w.heap[a.s]? = some (.cells #[.string cl, .bool cn, .bool on, .pointer (some ⟨a.ps, 0, none⟩)] 50 (0, 0))
  prow : w.heap[a.ps]? = some (.cells #[.pointer (some ⟨a.qg, 0, none⟩), .pointer (some ⟨a.f, 0, none⟩), .pointer (some ⟨a.ib, 0, none⟩)] 48 (0, 0))
  qu : Quu.Qu w a.qg a.qc 16 l lost
  fs : Fs (AX A a) w a.f a.g T L
  off : ∀ k, A k → k ≠ a.s ∧ k ≠ a.ps ∧ k ≠ a.qg ∧ k ≠ a.qc
  le : l.length ≤ 16
  ql : ∀ m ∈ l, m.a2 = 1 ∨ m.a2 = 2
section
variable {A A' S : Nat → Prop} {w w' : World} {a : Ad} {cl : ByteArray} {cn on : Bool} {T T' : List Bool} {L L' : List Se} {l l' : List Mg} {lost lost' : Int}
theorem Ss.lts (h : Ss A w a cl cn on T L l lost) : a.s < w.heap.size := (Array.getElem?_eq_some_iff.1 h.row).1
theorem Ss.ltp (h : Ss A w a cl cn on T L l lost) : a.ps < w.heap.size := (Array.getElem?_eq_some_iff.1 h.prow).1
theorem Ss.av (h : Ss A w a cl cn on T L l lost) {k : Nat} (hk : AX A a k) : k < w.heap.size := by
  obtain ⟨v, r, d, av⟩ := h.fs.ex
  exact (av k hk).1
theorem Ss.s0 (h : Ss A w a cl cn on T L l lost) : w.cell? ⟨a.s, 0, none⟩ = some (.string cl) := cell_of_row w _ 0 _ 50 (0, 0) h.row
theorem Ss.s1 (h : Ss A w a cl cn on T L l lost) : w.cell? ⟨a.s, 1, none⟩ = some (.bool cn) := cell_of_row w _ 1 _ 50 (0, 0) h.row
theorem Ss.s2 (h : Ss A w a cl cn on T L l lost) : w.cell? ⟨a.s, 2, none⟩ = some (.bool on) := cell_of_row w _ 2 _ 50 (0, 0) h.row
theorem Ss.s3 (h : Ss A w a cl cn on T L l lost) : w.cell? ⟨a.s, 3, none⟩ = some (.pointer (some ⟨a.ps, 0, none⟩)) := cell_of_row w _ 3 _ 50 (0, 0) h.row
theorem Ss.p0 (h : Ss A w a cl cn on T L l lost) : w.cell? ⟨a.ps, 0, none⟩ = some (.pointer (some ⟨a.qg, 0, none⟩)) := cell_of_row w _ 0 _ 48 (0, 0) h.prow
theorem Ss.p1 (h : Ss A w a cl cn on T L l lost) : w.cell? ⟨a.ps, 1, none⟩ = some (.pointer (some ⟨a.f, 0, none⟩)) := cell_of_row w _ 1 _ 48 (0, 0) h.prow
theorem Ss.p2 (h : Ss A w a cl cn on T L l lost) : w.cell? ⟨a.ps, 2, none⟩ = some (.pointer (some ⟨a.ib, 0, none⟩)) := cell_of_row w _ 2 _ 48 (0, 0) h.prow
theorem Ss.fz (h : Ss A w a cl cn on T L l lost) (j : Nat) : w.frozen? ⟨a.s, j, none⟩ = false := frozen_of_row w _ j _ 50 h.row
theorem ne_types {W : World} {x y : Nat} {c d : Array Value} {t u : TypeId} (hx : W.heap[x]? = some (.cells c t (0, 0))) (hy : W.heap[y]? = some (.cells d u (0, 0))) (h : t ≠ u) : x ≠ y := fun e => by
  subst e
  rw [hx] at hy
  simp only [Option.some.injEq, Obj.cells.injEq] at hy
  exact h hy.2.1
theorem ne_chan {W : World} {x y : Nat} {c : Array Value} {t : TypeId} {o : Obj} (hx : W.heap[x]? = some (.cells c t (0, 0))) (hy : W.heap[y]? = some o) (h : ∀ c t p, o ≠ .cells c t p) : x ≠ y := fun e => by
  subst e
  rw [hx] at hy
  simp only [Option.some.injEq] at hy
  exact h _ _ _ hy.symm
theorem Ss.ne_q (h : Ss A w a cl cn on T L l lost) : a.s ≠ a.qg ∧ a.s ≠ a.qc ∧ a.ps ≠ a.qg ∧ a.ps ≠ a.qc ∧ a.s ≠ a.ps := by
  obtain ⟨s, r, hc⟩ := h.qu.ch
  exact ⟨ne_types h.row h.qu.row (by decide), ne_chan h.row hc (by simp), ne_types h.prow h.qu.row (by decide), ne_chan h.prow hc (by simp), ne_types h.row h.prow (by decide)⟩
/-- All but blocks of A are as they were, and those of A' are no others. -/
theorem Ss.others (h : Ss A w a cl cn on T L l lost) (F : Far S w w') (hS : ∀ k, S k → A k) (hA : ∀ k, A' k → A k ∨ w.heap.size ≤ k ∧ k < w'.heap.size) : Ss A' w' a cl cn on T L l lost := by
  have hoff : ∀ k, A' k → k ≠ a.s ∧ k ≠ a.ps ∧ k ≠ a.qg ∧ k ≠ a.qc := fun k hk => by
    rcases hA k hk with e | e
    · exact h.off k e
    · have h1 := h.av (k := a.s) (.inr (.inl rfl))
      have h2 := h.av (k := a.ps) (.inr (.inr (.inl rfl)))
      have h3 := h.av (k := a.qg) (.inr (.inr (.inr (.inl rfl))))
      have h4 := h.av (k := a.qc) (.inr (.inr (.inr (.inr (.inl rfl)))))
      omega
  refine ⟨(F.block _ h.lts (fun e => (h.off _ (hS _ e)).1 rfl)).trans h.row, (F.block _ h.ltp (fun e => (h.off _ (hS _ e)).2.1 rfl)).trans h.prow, ⟨(F.block _ h.qu.lt (fun e => (h.off _ (hS _ e)).2.2.1 rfl)).trans h.qu.row, ?_⟩, fs_others h.fs F (fun k hk => .inl (hS k hk)) ?_, hoff, h.le, h.ql⟩
  · obtain ⟨s, r, hc⟩ := h.qu.ch
    exact ⟨s, r, (F.block _ h.qu.clt (fun e => (h.off _ (hS _ e)).2.2.2 rfl)).trans hc⟩
  · rintro k (hk | hk)
    · exact (hA k hk).imp .inl id
    · exact .inl (.inr hk)
theorem Ss.ext (h : Ss A w a cl cn on T L l lost) (hb : Below w.heap.size w w') : Ss A w' a cl cn on T L l lost :=
  h.others (S := fun _ => False) (Far.of_ext hb) (fun _ e => e.elim) (fun _ e => .inl e)
theorem Ss.weaken (h : Ss A w a cl cn on T L l lost) (hA : ∀ k, A' k → A k) : Ss A' w a cl cn on T L l lost :=
  h.others (S := fun _ => False) (Far.refl _ _) (fun _ e => e.elim) (fun k e => .inl (hA k e))
/-- The queue has changed. -/
theorem Ss.onQ (h : Ss A w a cl cn on T L l lost) (q : Quu.Qu w' a.qg a.qc 16 l' lost') {c : Nat} (hg : w.grownBy w' (some c)) (hc : c = a.qc ∨ c = a.qg) (le : l'.length ≤ 16) (ql : ∀ m ∈ l', m.a2 = 1 ∨ m.a2 = 2) : Ss A w' a cl cn on T L l' lost' ∧ Kp A w w' := by
  have F : Far (fun k => k = c) w w' := Far.of_grown hg (fun k _ e => by simpa using e.symm)
  obtain ⟨n1, n2, n3, n4, n5⟩ := h.ne_q
  have hx : AX A a c := by rcases hc with rfl | rfl <;> simp [AX]
  refine ⟨⟨(F.block _ h.lts (fun e => ?_)).trans h.row, (F.block _ h.ltp (fun e => ?_)).trans h.prow, q, fs_others h.fs F (fun k hk => hk ▸ hx) (fun k hk => .inl hk), h.off, le, ql⟩, F.mono fun k _ e hk => ?_⟩
  · rcases hc with rfl | rfl <;> omega
  · rcases hc with rfl | rfl <;> omega
  · skip
    have := h.off k hk
    rcases hc with rfl | rfl <;> omega
/-- The flight has changed. -/
theorem Ss.onF (h : Ss A w a cl cn on T L l lost) (fs : Fs (AX A a) w' a.f a.g T' L') (k : Kp (AX A a) w w') : Ss A w' a cl cn on T' L' l lost ∧ Kp A w w' := by
  have hb : ∀ x, AX A a x → w'.heap[x]? = w.heap[x]? := fun x hx => k.block x (h.av hx) (fun e => e hx)
  refine ⟨⟨(hb _ (.inr (.inl rfl))).trans h.row, (hb _ (.inr (.inr (.inl rfl)))).trans h.prow, ⟨(hb _ (.inr (.inr (.inr (.inl rfl))))).trans h.qu.row, ?_⟩, fs, h.off, h.le, h.ql⟩, k.mono fun x _ e hx => e (.inl hx)⟩
  obtain ⟨s, r, hc⟩ := h.qu.ch
  exact ⟨s, r, (hb _ (.inr (.inr (.inr (.inr (.inl rfl)))))).trans hc⟩
/-- It is online, or not. -/
theorem Ss.line (h : Ss A w a cl cn on T L l lost) (b : Bool) : Ss A (w.setCell ⟨a.s, 2, none⟩ (.bool b)) a cl cn b T L l lost ∧ Kp A w (w.setCell ⟨a.s, 2, none⟩ (.bool b)) := by
  have F : Far (fun k => k = a.s) w (w.setCell ⟨a.s, 2, none⟩ (.bool b)) := Far.of_grown set_grownX (fun k _ e => by simpa using e.symm)
  obtain ⟨n1, n2, n3, n4, n5⟩ := h.ne_q
  refine ⟨⟨heap_setCell_same w a.s 2 _ 50 (.bool b) h.row, (F.block _ h.ltp (fun e => n5 e.symm)).trans h.prow, ⟨(F.block _ h.qu.lt (fun e => n1 e.symm)).trans h.qu.row, ?_⟩, fs_others h.fs F (fun k hk => hk ▸ .inr (.inl rfl)) (fun k hk => .inl hk), h.off, h.le, h.ql⟩, F.mono fun k _ e hk => (h.off k hk).1 e⟩
  obtain ⟨s, r, hc⟩ := h.qu.ch
  exact ⟨s, r, (F.block _ h.qu.clt (fun e => n2 e.symm)).trans hc⟩
end
/-- The way of a message. -/
def sE (T : List Bool) (m : Mg) : Se := ⟨(nxt T : Int) + 1, m.a2, m.a0, m.a1, m.a2, m.a3⟩
/-- What fill does: the numbers, what is on its way, what still waits, what was sent. -/
def fl : Bool → List Bool → List Se → List Mg → List Bool × List Se × List Mg × List Se
  | _, T, L, [] => (T, L, [], [])
  | on, T, L, m :: r => if on = true ∧ L.length < 8 then
      ((fl on (tk T) (L ++ [sE T m]) r).1, (fl on (tk T) (L ++ [sE T m]) r).2.1, (fl on (tk T) (L ++ [sE T m]) r).2.2.1, sE T m :: (fl on (tk T) (L ++ [sE T m]) r).2.2.2)
    else (T, L, m :: r, [])
/-- A packet that is sent for the first time. -/
def pf (e : Se) : List Value := [.int .i64 3, .int .i64 e.i, .bool false, .string e.t, .string e.x, .int .i64 e.q, .bool e.r, .int .i64 0, .bool false, .int .i64 0, .string { data := #[] }, .bool false, .string { data := #[] }, .string { data := #[] }, .int .i64 0, .bool false, .bool false, .string { data := #[] }, .bool false, .string { data := #[] }, .bool false, .int .i64 0, .slice none 0 0, .slice none 0 0]
theorem pf_len (e : Se) : (pf e).length = 24 := rfl
theorem pf_one (e : Se) : ∀ u ∈ pf e, u.oneCell' = true := by
  intro u hu
  simp only [pf, List.mem_cons, List.not_mem_nil, or_false] at hu
  rcases hu with rfl | rfl | rfl | rfl | rfl | rfl | rfl | rfl | rfl | rfl | rfl | rfl | rfl | rfl | rfl | rfl | rfl | rfl | rfl | rfl | rfl | rfl | rfl | rfl <;> rfl
def pfC (l : List Se) : List Value := l.flatMap pf
theorem pfC_len (l : List Se) : (pfC l).length = l.length * 24 := by
  induction l with
  | nil => rfl
  | cons x r ih => simp only [pfC, List.flatMap_cons, List.length_append, List.length_cons] at ih ⊢; rw [ih, pf_len]; omega
theorem pfC_snoc (l : List Se) (e : Se) : pfC (l ++ [e]) = pfC l ++ pf e := by simp [pfC]
end Go.Proofs.YtceiipcdkonnlaaGreat.Ses

/-
  LAYER 25: fill.
-/
namespace Go.Proofs.YtceiipcdkonnlaaGreat.Ses
open Go.RowKit Que Hp Ids Fli
set_option linter.unusedSimpArgs false
set_option linter.unusedVariables false
def vlen : Value → Nat | .slice _ n _ => n | _ => 0
theorem fl_stop {on : Bool} {T : List Bool} {L : List Se} {l : List Mg} (h : on = false ∨ l = [] ∨ ¬ L.length < 8) : fl on T L l = (T, L, l, []) := by
  cases l with
  | nil => rfl
  | cons m r =>
    rw [fl, if_neg]
    rintro ⟨rfl, h2⟩
    rcases h with h | h | h
    · cases h
    · cases h
    · exact h h2
theorem fl_step {T : List Bool} {L : List Se} {m : Mg} {r : List Mg} (h : L.length < 8) : fl true T L (m :: r) = ((fl true (tk T) (L ++ [sE T m]) r).1, (fl true (tk T) (L ++ [sE T m]) r).2.1, (fl true (tk T) (L ++ [sE T m]) r).2.2.1, sE T m :: (fl true (tk T) (L ++ [sE T m]) r).2.2.2) := by
  rw [fl, if_pos ⟨rfl, h⟩]
/-- Between two rounds of fill. -/
structure FI (A : Nat → Prop) (w wr : World) (a : Ad) (cl : ByteArray) (cn on : Bool) (T : List Bool) (L : List Se) (l : List Mg) (lost : Int) (T1 : List Bool) (L1 : List Se) (l1 : List Mg) (P : List Se) (v : Value) : Prop where
  ss : Ss (fun k => A k ∨ v.ownBlock = some k) wr a cl cn on T1 L1 l1 lost
  kp : Kp A w wr
  row : wr.ownsRow w.heap.size 72 24 v P.length (pfC P)
  eq : fl on T L l = ((fl on T1 L1 l1).1, (fl on T1 L1 l1).2.1, (fl on T1 L1 l1).2.2.1, P ++ (fl on T1 L1 l1).2.2.2)
  ln : P.length + l1.length = l.length
def FillIs (A : Nat → Prop) (w : World) (a : Ad) (cl : ByteArray) (cn on : Bool) (T : List Bool) (L : List Se) (l : List Mg) (lost : Int) (e : Ending) (w' : World) : Prop :=
  ∃ v T' L' l' P, e = .returned v ∧ Ss (fun k => A k ∨ v.ownBlock = some k) w' a cl cn on T' L' l' lost ∧ Kp A w w' ∧ w'.ownsRow w.heap.size 72 24 v P.length (pfC P) ∧ fl on T L l = (T', L', l', P)
section
variable {A : Nat → Prop} {w wr : World} {a : Ad} {cl : ByteArray} {cn on : Bool} {T T1 : List Bool} {L L1 : List Se} {l l1 : List Mg} {lost : Int} {P : List Se} {v : Value}
theorem FI.done (I : FI A w wr a cl cn on T L l lost T1 L1 l1 P v) (h : on = false ∨ l1 = [] ∨ ¬ L1.length < 8) : FillIs A w a cl cn on T L l lost (.returned v) wr := by
  refine ⟨v, T1, L1, l1, P, rfl, I.ss, I.kp, I.row, ?_⟩
  rw [I.eq, fl_stop h]
  simp
theorem FI.next {m : Mg} {r : List Mg} {bx : Nat} {w4 W6 w6 : World} {v3 : Value} (I : FI A w wr a cl cn true T L l lost T1 L1 (m :: r) P v) (hA : ∀ k, A k → k < w.heap.size) (hL : L1.length < 8)
    (kk : Kp A wr w4) (s4 : Ss (fun k => (A k ∨ v.ownBlock = some k) ∨ k = bx) w4 a cl cn true (tk T1) (L1 ++ [sE T1 m]) r lost)
    (b6 : Below w4.heap.size w4 W6) (g6 : W6.grownBy w6 v.ownBlock) (o6 : w6.ownsRow w.heap.size 72 24 v3 (P.length + 1) (pfC P ++ pf (sE T1 m))) (nb : ∀ k, v3.ownBlock = some k → v.ownBlock = some k ∨ W6.heap.size ≤ k ∧ k < w6.heap.size) :
    FI A w w6 a cl cn true T L l lost (tk T1) (L1 ++ [sE T1 m]) r (P ++ [sE T1 m]) v3 := by
  have F6 : Far (fun k => v.ownBlock = some k) W6 w6 := Far.of_grown g6 (fun k _ e => e)
  refine ⟨(s4.ext b6).others F6 (fun k hk => .inl (.inr hk)) ?_, (I.kp.trans kk).trans ((Kp.of_ext b6).trans (F6.mono fun k _ hk hk2 => ?_)), by rw [pfC_snoc]; simpa using o6, ?_, by have := I.ln; simp at this ⊢; omega⟩
  · rintro k (hk | hk)
    · exact .inl (.inl (.inl hk))
    · rcases nb k hk with e | e
      · exact .inl (.inl (.inr e))
      · exact .inr e
  · have := (I.row.lt k hk).1
    have := hA k hk2
    omega
  · rw [I.eq, fl_step hL]
    simp
end
theorem send_end {A : Nat → Prop} {w wr w2 w3 W w4 : World} {a : Ad} {cl : ByteArray} {cn on : Bool} {T1 T2 : List Bool} {L1 L2 : List Se} {r : List Mg} {lost : Int} {v : Value} {m : Mg} {n : Nat} {xs : List Value}
    (S3 : Ss (fun k => (A k ∨ v.ownBlock = some k) ∨ k = w2.heap.size) w3 a cl cn on T1 L1 r lost) (K3 : Kp A wr w3)
    (R3 : w3.heap[w2.heap.size]? = some (.cells #[.string m.a0, .string m.a1, .int .i64 m.a2, .bool m.a3] 33 (0, 0))) (O3 : w3.ownsRow w.heap.size 72 24 v n xs) (hb : Below w3.heap.size w3 W)
    (f4 : Fs (AX (fun k => (A k ∨ v.ownBlock = some k) ∨ k = w2.heap.size) a) w4 a.f a.g T2 L2) (k4 : Kp (AX (fun k => (A k ∨ v.ownBlock = some k) ∨ k = w2.heap.size) a) W w4) :
    Ss (fun k => (A k ∨ v.ownBlock = some k) ∨ k = w2.heap.size) w4 a cl cn on T2 L2 r lost ∧ Kp A wr w4 ∧ w4.heap[w2.heap.size]? = some (.cells #[.string m.a0, .string m.a1, .int .i64 m.a2, .bool m.a3] 33 (0, 0)) ∧ w4.ownsRow w.heap.size 72 24 v n xs := by
  have hl : w2.heap.size < w3.heap.size := (Array.getElem?_eq_some_iff.1 R3).1
  obtain ⟨S4, K4⟩ := (S3.ext hb).onF f4 k4
  refine ⟨S4, (K3.trans (Kp.of_ext hb)).trans (K4.mono fun k _ e hk => e (.inl (.inl hk))), ?_, own_fars (own_keep O3 hb) K4 (fun k hk e => e (.inl (.inr hk)))⟩
  exact (K4.block _ (Nat.lt_of_lt_of_le hl hb.size) (fun e => e (.inr rfl))).trans ((hb.block _ hl).trans R3)
theorem msg_cells {A : Nat → Prop} {w4 W : World} {a : Ad} {cl : ByteArray} {cn on : Bool} {T1 : List Bool} {L1 : List Se} {r : List Mg} {lost : Int} {m : Mg} {bx : Nat}
    (h : Ss A w4 a cl cn on T1 L1 r lost) (R : w4.heap[bx]? = some (.cells #[.string m.a0, .string m.a1, .int .i64 m.a2, .bool m.a3] 33 (0, 0))) (hb : Below w4.heap.size w4 W) :
    W.cell? ⟨a.s, 3, none⟩ = some (.pointer (some ⟨a.ps, 0, none⟩)) ∧ W.cell? ⟨a.ps, 1, none⟩ = some (.pointer (some ⟨a.f, 0, none⟩)) ∧ W.cell? ⟨bx, 0, none⟩ = some (.string m.a0) ∧ W.cell? ⟨bx, 1, none⟩ = some (.string m.a1) ∧ W.cell? ⟨bx, 2, none⟩ = some (.int .i64 m.a2) ∧ W.cell? ⟨bx, 3, none⟩ = some (.bool m.a3) := by
  have R' := (hb.block bx (Array.getElem?_eq_some_iff.1 R).1).trans R
  exact ⟨(h.ext hb).s3, (h.ext hb).p1, cell_of_row _ _ 0 _ 33 (0, 0) R', cell_of_row _ _ 1 _ 33 (0, 0) R', cell_of_row _ _ 2 _ 33 (0, 0) R', cell_of_row _ _ 3 _ 33 (0, 0) R'⟩
set_option maxHeartbeats 8000000 in
set_option maxRecDepth 100000 in
theorem fill_any {A : Nat → Prop} {w : World} {a : Ad} {cl : ByteArray} {cn on : Bool} {T : List Bool} {L : List Se} {l : List Mg} {lost : Int} (h : Ss A w a cl cn on T L l lost) (hA : ∀ k, A k → k < w.heap.size) : Calls Tryz.prog 39 #[.pointer (some ⟨a.s, 0, none⟩)] w (FillIs A w a cl cn on T L l lost) := by
  obtain ⟨i3, hi3, hz0, hz1, hz2⟩ := info_parts info78
  have I0 : Hid (FI A w w a cl cn on T L l lost T L l [] (.slice none 0 0)) := Lib.hid ⟨h.weaken (fun k hk => hk.elim id (fun e => by cases e)), Far.refl _ _, World.ownsRow_nil _ _ _ _, by simp, by simp⟩
  have hle := h.le
  replace h := Lib.hid h
  go_enter Tryz.func39, Tryz.ntmps39
  go_wp2_with fail
  go_loopw [3] (fun v wr => ∃ (T1 : List Bool) (L1 : List Se) (l1 : List Mg) (P : List Se), FI A w wr a cl cn on T L l lost T1 L1 l1 P v) (fun v _ => 17 - vlen v)
  case atStart => exact ⟨_, _, _, _, I0.out⟩
  case round =>
    obtain ⟨T1, L1, l1, P, I⟩ := hrel
    obtain ⟨va, vc, rfl⟩ := own_slice I.row
    have s2 := I.ss.s2
    have s3 := I.ss.s3
    have p0 := I.ss.p0
    have p1 := I.ss.p1
    have hl1 : l1.length ≤ 16 := I.ss.le
    have hP : P.length ≤ 16 := by have := I.ln; omega
    have QL := Lib.hid (Quu.len_any I.ss.qu (by omega))
    have FL := Lib.hid (f_len I.ss.fs)
    replace I := Lib.hid I
    cases on with
    | false =>
      go_wp2_with fail
      go_ret
      exact I.out.done (.inl rfl)
    | true =>
      cases l1 with
      | nil =>
        go_wp2_with fail
        refine QL.out.mono ?_
        rintro e w1 ⟨rfl, rfl⟩
        go_wp2_with fail
        go_ret
        exact I.out.done (.inr (.inl rfl))
      | cons m r =>
        have hr0 : (0 : Int) < ((m :: r).length : Nat) := by simp
        by_cases hL : L1.length < 8
        · have hL' : (L1.length : Int) < 8 := by omega
          have hql := I.out.ss.ql m (by simp)
          have hqr : ∀ x ∈ r, x.a2 = 1 ∨ x.a2 = 2 := fun x hx => I.out.ss.ql x (by simp [hx])
          have TK := Quu.take_yes I.out.ss.qu
          unfold Mg.v at TK
          replace TK := Lib.hid TK
          go_wp2_with fail
          refine QL.out.mono ?_
          rintro e w1 ⟨rfl, rfl⟩
          go_wp2_with fail
          refine FL.out.mono ?_
          rintro e w1 ⟨rfl, rfl⟩
          go_wp2_with fail
          refine TK.out.mono ?_
          rintro e w2 ⟨rfl, q2, g2⟩
          have hle2 : r.length ≤ 16 := by simp at hl1; omega
          obtain ⟨S2, K2⟩ := I.out.ss.onQ q2 g2 (.inl rfl) hle2 hqr
          have S3 : Hid (Ss (fun k => (A k ∨ (Value.slice va P.length vc).ownBlock = some k) ∨ k = w2.heap.size) (w2.alloc (.cells #[.string m.a0, .string m.a1, .int .i64 m.a2, .bool m.a3] 33)) a cl cn true T1 L1 r lost) := Lib.hid (S2.others (S := fun _ => False) (Far.of_ext (ext_alloc _ _)) (fun _ e => e.elim) (fun k hk => hk.imp id (fun e => by subst e; exact ⟨Nat.le_refl _, by simp⟩)))
          have R3 := Lib.hid (heap_alloc_new w2 (.cells #[.string m.a0, .string m.a1, .int .i64 m.a2, .bool m.a3] 33))
          have K3 : Hid (Kp A wr (w2.alloc (.cells #[.string m.a0, .string m.a1, .int .i64 m.a2, .bool m.a3] 33))) := Lib.hid (Kp.trans (show Kp A wr w2 from K2.mono (fun k _ e hk => e (.inl hk))) (Kp.of_ext (ext_alloc _ _)))
          have O3 : Hid ((w2.alloc (.cells #[.string m.a0, .string m.a1, .int .i64 m.a2, .bool m.a3] 33)).ownsRow w.heap.size 72 24 (.slice va P.length vc) P.length (pfC P)) := Lib.hid (own_keep (own_fars I.out.row K2 (fun k hk e => e (.inr hk))) (ext_alloc _ _))
          clear S2 K2 q2 g2 TK QL FL s2 s3 p0 p1
          have s3 := S3.out.s3
          have p1 := S3.out.p1
          have d0 : (w2.alloc (.cells #[.string m.a0, .string m.a1, .int .i64 m.a2, .bool m.a3] 33)).cell? ⟨w2.heap.size, 0, none⟩ = some (.string m.a0) := cell_of_row _ _ 0 _ 33 (0, 0) R3.out
          have d1 : (w2.alloc (.cells #[.string m.a0, .string m.a1, .int .i64 m.a2, .bool m.a3] 33)).cell? ⟨w2.heap.size, 1, none⟩ = some (.string m.a1) := cell_of_row _ _ 1 _ 33 (0, 0) R3.out
          have d2 : (w2.alloc (.cells #[.string m.a0, .string m.a1, .int .i64 m.a2, .bool m.a3] 33)).cell? ⟨w2.heap.size, 2, none⟩ = some (.int .i64 m.a2) := cell_of_row _ _ 2 _ 33 (0, 0) R3.out
          have d3 : (w2.alloc (.cells #[.string m.a0, .string m.a1, .int .i64 m.a2, .bool m.a3] 33)).cell? ⟨w2.heap.size, 3, none⟩ = some (.bool m.a3) := cell_of_row _ _ 3 _ 33 (0, 0) R3.out
          have SE := Lib.hid (fun W (hb : Below (w2.alloc (.cells #[.string m.a0, .string m.a1, .int .i64 m.a2, .bool m.a3] 33)).heap.size (w2.alloc (.cells #[.string m.a0, .string m.a1, .int .i64 m.a2, .bool m.a3] 33)) W) => send_ok (S3.out.ext hb).fs m.a0 m.a1 m.a2 m.a3 hql hL)
          have KO := Lib.hid (fun W (hb : Below (w2.alloc (.cells #[.string m.a0, .string m.a1, .int .i64 m.a2, .bool m.a3] 33)).heap.size (w2.alloc (.cells #[.string m.a0, .string m.a1, .int .i64 m.a2, .bool m.a3] 33)) W) => (show W.cell? ⟨a.s, 3, none⟩ = some (.pointer (some ⟨a.ps, 0, none⟩)) ∧ W.cell? ⟨a.ps, 1, none⟩ = some (.pointer (some ⟨a.f, 0, none⟩)) ∧ W.cell? ⟨w2.heap.size, 0, none⟩ = some (.string m.a0) ∧ W.cell? ⟨w2.heap.size, 1, none⟩ = some (.string m.a1) ∧ W.cell? ⟨w2.heap.size, 2, none⟩ = some (.int .i64 m.a2) ∧ W.cell? ⟨w2.heap.size, 3, none⟩ = some (.bool m.a3) from
            ⟨(S3.out.ext hb).s3, (S3.out.ext hb).p1, (hb.cell (by simp)).trans d0, (hb.cell (by simp)).trans d1, (hb.cell (by simp)).trans d2, (hb.cell (by simp)).trans d3⟩))
          go_wp2_with fail
          generalize hMA : (w2.alloc (.cells #[.string m.a0, .string m.a1, .int .i64 m.a2, .bool m.a3] 33)) = w3 at *
          go_region_held3 (fun W => W.cell? ⟨a.s, 3, none⟩ = some (.pointer (some ⟨a.ps, 0, none⟩)) ∧ W.cell? ⟨a.ps, 1, none⟩ = some (.pointer (some ⟨a.f, 0, none⟩)) ∧ W.cell? ⟨w2.heap.size, 0, none⟩ = some (.string m.a0) ∧ W.cell? ⟨w2.heap.size, 1, none⟩ = some (.string m.a1) ∧ W.cell? ⟨w2.heap.size, 2, none⟩ = some (.int .i64 m.a2) ∧ W.cell? ⟨w2.heap.size, 3, none⟩ = some (.bool m.a3))
            (first | exact KO.out _ (by first | exact Below.refl _ _ | exact ext_drew _ | assumption) | exact KA.out _ (by first | exact Below.refl _ _ | exact ext_drew _ | assumption))
            (first
              | (go_at_call 64; refine (SE.out _ (by first | exact Below.refl _ _ | exact ext_drew _ | assumption)).mono ?_; rintro e w4 ⟨rfl, f4, k4⟩; have X4 : Hid (Ss (fun k => (A k ∨ (Value.slice va P.length vc).ownBlock = some k) ∨ k = w2.heap.size) w4 a cl cn true (tk T1) (L1 ++ [sE T1 m]) r lost ∧ Kp A wr w4 ∧ w4.heap[w2.heap.size]? = some (.cells #[.string m.a0, .string m.a1, .int .i64 m.a2, .bool m.a3] 33 (0, 0)) ∧ w4.ownsRow w.heap.size 72 24 (.slice va P.length vc) P.length (pfC P)) := Lib.hid (send_end S3.out K3.out R3.out O3.out (by first | exact Below.refl _ _ | exact ext_drew _) f4 k4); clear f4 k4; have KA := Lib.hid (fun W (hb : Below w4.heap.size w4 W) => msg_cells X4.out.1 X4.out.2.2.1 hb)))
          all_goals
            obtain ⟨s4, k4, r4, o4⟩ := X4.out
            clear KA KO SE s3 p1 d0 d1 d2 d3 hMA
            have b0 : w4.cell? ⟨w2.heap.size, 0, none⟩ = some (.string m.a0) := cell_of_row _ _ 0 _ 33 (0, 0) r4
            have b1 : w4.cell? ⟨w2.heap.size, 1, none⟩ = some (.string m.a1) := cell_of_row _ _ 1 _ 33 (0, 0) r4
            have b2 : w4.cell? ⟨w2.heap.size, 2, none⟩ = some (.int .i64 m.a2) := cell_of_row _ _ 2 _ 33 (0, 0) r4
            have b3 : w4.cell? ⟨w2.heap.size, 3, none⟩ = some (.bool m.a3) := cell_of_row _ _ 3 _ 33 (0, 0) r4
            have oA := Lib.hid (own_keep o4 (ext_alloc w4 (.cells #[.int .i64 3, .int .i64 ((nxt T1 : Int) + 1), .bool false, .string m.a0, .string m.a1, .int .i64 m.a2, .bool m.a3, .int .i64 0, .bool false, .int .i64 0, .string { data := #[] }, .bool false, .string { data := #[] }, .string { data := #[] }, .int .i64 0, .bool false, .bool false, .string { data := #[] }, .bool false, .string { data := #[] }, .bool false, .int .i64 0, .slice none 0 0, .slice none 0 0] 72)))
            have sz4 := Lib.hid (show w.heap.size ≤ w4.heap.size from Nat.le_trans I.out.kp.size k4.size)
            have hnew : Hid (∀ j u, ([.int .i64 3, .int .i64 ((nxt T1 : Int) + 1), .bool false, .string m.a0, .string m.a1, .int .i64 m.a2, .bool m.a3, .int .i64 0, .bool false, .int .i64 0, .string { data := #[] }, .bool false, .string { data := #[] }, .string { data := #[] }, .int .i64 0, .bool false, .bool false, .string { data := #[] }, .bool false, .string { data := #[] }, .bool false, .int .i64 0, .slice none 0 0, .slice none 0 0] : List Value)[j]? = some u → (w4.alloc (.cells #[.int .i64 3, .int .i64 ((nxt T1 : Int) + 1), .bool false, .string m.a0, .string m.a1, .int .i64 m.a2, .bool m.a3, .int .i64 0, .bool false, .int .i64 0, .string { data := #[] }, .bool false, .string { data := #[] }, .string { data := #[] }, .int .i64 0, .bool false, .bool false, .string { data := #[] }, .bool false, .string { data := #[] }, .bool false, .int .i64 0, .slice none 0 0, .slice none 0 0] 72)).cell? ((⟨w4.heap.size, 0, none⟩ : Addr).add j) = some u) := Lib.hid (by
              intro j u hj
              have := cell_of_row (w4.alloc (.cells #[.int .i64 3, .int .i64 ((nxt T1 : Int) + 1), .bool false, .string m.a0, .string m.a1, .int .i64 m.a2, .bool m.a3, .int .i64 0, .bool false, .int .i64 0, .string { data := #[] }, .bool false, .string { data := #[] }, .string { data := #[] }, .int .i64 0, .bool false, .bool false, .string { data := #[] }, .bool false, .string { data := #[] }, .bool false, .int .i64 0, .slice none 0 0, .slice none 0 0] 72)) w4.heap.size j _ 72 (0, 0) (heap_alloc_new w4 _)
              rw [add_off', Nat.zero_add, this, ← hj]
              exact List.getElem?_toArray)
            have hpo : Hid (∀ u ∈ ([.int .i64 3, .int .i64 ((nxt T1 : Int) + 1), .bool false, .string m.a0, .string m.a1, .int .i64 m.a2, .bool m.a3, .int .i64 0, .bool false, .int .i64 0, .string { data := #[] }, .bool false, .string { data := #[] }, .string { data := #[] }, .int .i64 0, .bool false, .bool false, .string { data := #[] }, .bool false, .string { data := #[] }, .bool false, .int .i64 0, .slice none 0 0, .slice none 0 0] : List Value), u.oneCell' = true) := Lib.hid (pf_one (sE T1 m))
            have NX := Lib.hid (fun W6 w6 v3 b6 g6 o6 nb => I.out.next (W6 := W6) (w6 := w6) (v3 := v3) hA hL k4 s4 b6 g6 o6 nb)
            clear s4 k4 r4 o4 X4 S3 K3 R3 O3
            go_wp2_with (first
              | (at_builtin; go_loud (refine wpList_append_own_at _ rfl (.tmp 59) (.tmp 63) 64 rfl w.heap.size 72 i3 zP 24 280 Tryz.underlying64 hi3 hz0 hz1 hz2 rfl (by decide) (.slice va P.length vc) P.length (pfC P) rfl oA.out ⟨w4.heap.size, 0, none⟩ 1 1 [.int .i64 3, .int .i64 ((nxt T1 : Int) + 1), .bool false, .string m.a0, .string m.a1, .int .i64 m.a2, .bool m.a3, .int .i64 0, .bool false, .int .i64 0, .string { data := #[] }, .bool false, .string { data := #[] }, .string { data := #[] }, .int .i64 0, .bool false, .bool false, .string { data := #[] }, .bool false, .string { data := #[] }, .bool false, .int .i64 0, .slice none 0 0, .slice none 0 0] rfl rfl hnew.out hpo.out (by unfold maxLen; omega) (by omega) (by have := sz4.out; simp; omega) ?_); intro v3 w6 o3 g3 _ hat))
            have nb : ∀ k, v3.ownBlock = some k → (Value.slice va P.length vc).ownBlock = some k ∨ _ ≤ k ∧ k < w6.heap.size := fun k hk => hat.elim (fun e => .inl (e ▸ hk)) (fun e => .inr ⟨by rw [e] at hk; simp only [Option.some.injEq] at hk; exact Nat.le_of_eq hk, (o3.lt k hk).2⟩)
            have FN := Lib.hid (NX.out _ w6 v3 (ext_alloc w4 _) g3 o3 nb)
            obtain ⟨va3, vc3, rfl⟩ := own_slice o3
            go_roundw
            case rel => exact ⟨_, _, _, _, FN.out⟩
            case measure => simp only [vlen]; omega
        · have hL' : ¬ (L1.length : Int) < 8 := by omega
          go_wp2_with fail
          refine QL.out.mono ?_
          rintro e w1 ⟨rfl, rfl⟩
          go_wp2_with fail
          refine FL.out.mono ?_
          rintro e w1 ⟨rfl, rfl⟩
          go_wp2_with fail
          go_ret
          exact I.out.done (.inr (.inr hL))
end Go.Proofs.YtceiipcdkonnlaaGreat.Ses
