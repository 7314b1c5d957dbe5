/-
  LAYER 25: both sessions as one fact.
-/
import Derived.Test.YtceiipcdkonnlaaGreatYg
import Derived.Test.YtceiipcdkonnlaaGreatJg
import Derived.Test.YtceiipcdkonnlaaGreatJf
namespace Go.Proofs.YtceiipcdkonnlaaGreat.Ses
open Go.RowKit Que Hp Ids Fli
set_option linter.unusedSimpArgs false
set_option linter.unusedVariables false
theorem inv_gone {L : List Se} (h : Inv L) (nm s : Int) : Inv (goneL L nm s).2 := by
  intro e he
  refine h e ?_
  unfold goneL at he
  split at he
  · split at he
    · rcases List.mem_append.1 he with he | he
      · exact List.mem_of_mem_take he
      · exact List.mem_of_mem_drop he
    · exact he
  · exact he
theorem inv_rec {L : List Se} (h : Inv L) (hn : L.Pairwise fun x y => x.i ≠ y.i) (nm : Int) : Inv (recL L nm).2 := by
  rcases find_or L nm with hn' | ⟨q, e, hq, rfl⟩
  · rw [recL_none hn']; exact h
  · cases hs : (e.s == 2 || e.s == 3)
    · rw [recL_no h hn hq hs]; exact h
    · rw [recL_yes hn hq hs]; exact inv_set h hq hs
theorem inv_fl : ∀ (on : Bool) (l : List Mg) (T : List Bool) (L : List Se), Inv L → (∀ m ∈ l, m.a2 = 1 ∨ m.a2 = 2) → Inv (fl on T L l).2.1
  | on, [], T, L, h, _ => h
  | on, m :: r, T, L, h, hq => by
    rw [fl]
    split
    · refine inv_fl on r _ _ (fun e he => ?_) (fun x hx => hq x (by simp [hx]))
      rcases List.mem_append.1 he with he | he
      · exact h e he
      · rw [List.mem_singleton.1 he]
        rcases hq m (by simp) with e | e
        · exact .inl ⟨e, e⟩
        · exact .inr ⟨.inl e, e⟩
    · exact h
/-- The document's blocks, with its inbox. -/
def DX (d : Ax) (vi vq vf : Value) (k : Nat) : Prop := OX d vq vf k ∨ k = d.i ∨ vi.ownBlock = some k
/-- What the program's session leaves alone. -/
def AS (w0 : World) (a : Ad) (d : Ax) (vi vq vf : Value) (E : Nat → Prop) (k : Nat) : Prop := k < w0.heap.size ∨ k = a.ib ∨ OX d vq vf k ∨ k = d.i ∨ vi.ownBlock = some k ∨ E k
/-- What the document's leaves alone. -/
def MX (w : World) (d : Ax) (vq vf : Value) (k : Nat) : Prop := k < w.heap.size ∧ ¬ OX d vq vf k
structure PS where
  on : Bool
  L : List Se
  l : List Mg
  lost : Int
structure SB (R w0 w : World) (a : Ad) (d : Ax) (E : Nat → Prop) (vi vq vf : Value) (cl : ByteArray) (cn : Bool) (T : List Bool) (p x : PS) (cs : List Int) (n : Nat) (li : List Int) : Prop where
  ps : Ss (AS w0 a d vi vq vf E) w a cl cn p.on T p.L p.l p.lost
  pb : Inb.Box w a.ib cs n
  xs : Xs (fun _ => False) w d cl cn x.on vq vf x.L x.l x.lost
  xb : Inb.Xb w d.i vi li
  ne : ∀ k, k = a.ib ∨ k = d.i ∨ vi.ownBlock = some k → ¬ OX d vq vf k
  bw : Below w0.heap.size w0 w
  lo : ∀ k, k = a.ib ∨ DX d vi vq vf k → w0.heap.size ≤ k
  ro : ∀ k, E k → w.heap[k]? = R.heap[k]? ∧ k < w.heap.size ∧ k ≠ a.ib ∧ ¬ DX d vi vq vf k
theorem own_ro {R w : World} {B e size n : Nat} {v : Value} {xs : List Value} (h : R.ownsRow B e size v n xs) (hb : ∀ k, v.ownBlock = some k → w.heap[k]? = R.heap[k]?) : w.ownsRow B e size v n xs := by
  refine ⟨h.1, h.2.imp id ?_⟩
  rintro ⟨g, cap, cur, hv, hg, hcur, rest⟩
  exact ⟨g, cap, cur, hv, hg, (hb g (by rw [hv]; rfl)).trans hcur, rest⟩
section
variable {R R' w0 w w' : World} {a : Ad} {d : Ax} {E E' F : Nat → Prop} {vi vq vf vi' vq' vf' : Value} {cl : ByteArray} {cn on' : Bool} {T T' : List Bool} {p x : PS} {cs cs' : List Int} {n n' : Nat} {li li' : List Int} {L' : List Se} {l' : List Mg} {lost' : Int}
theorem SB.ltd (h : SB R w0 w a d E vi vq vf cl cn T p x cs n li) {k : Nat} (hk : DX d vi vq vf k) : k < w.heap.size := by
  rcases hk with hk | rfl | hk
  · exact h.xs.lt hk
  · exact h.xb.lt
  · exact (h.xb.its.lt k hk).2
theorem SB.hAS (h : SB R w0 w a d E vi vq vf cl cn T p x cs n li) : ∀ k, AS w0 a d vi vq vf E k → k < w.heap.size := by
  rintro k (hk | rfl | hk | hk | hk | hk)
  · exact Nat.lt_of_lt_of_le hk h.bw.size
  · exact h.pb.lt
  · exact h.xs.lt hk
  · exact h.ltd (.inr (.inl hk))
  · exact h.ltd (.inr (.inr hk))
  · exact (h.ro k hk).2.1
theorem SB.mx (h : SB R w0 w a d E vi vq vf cl cn T p x cs n li) : Xs (MX w d vq vf) w d cl cn x.on vq vf x.L x.l x.lost :=
  ⟨h.xs.row, h.xs.xq, h.xs.xf, fun k hk => hk, h.xs.le, h.xs.l8, h.xs.ql⟩
theorem SB.hMX {w : World} {d : Ax} {vq vf : Value} : ∀ k, MX w d vq vf k → k < w.heap.size := fun k hk => hk.1
theorem SB.ext (h : SB R w0 w a d E vi vq vf cl cn T p x cs n li) (hb : Below w.heap.size w w') : SB R w0 w' a d E vi vq vf cl cn T p x cs n li :=
  ⟨h.ps.ext hb, h.pb.keep hb h.pb.lt, h.xs.ext hb, h.xb.keep hb, h.ne, h.bw.trans (hb.mono h.bw.size), h.lo, fun k hk => ⟨(hb.block k (h.ro k hk).2.1).trans (h.ro k hk).1, Nat.lt_of_lt_of_le (h.ro k hk).2.1 hb.size, (h.ro k hk).2.2⟩⟩
theorem SB.more (h : SB R w0 w a d E vi vq vf cl cn T p x cs n li) (hb : Below w.heap.size w w') (hF : ∀ k, F k → w.heap.size ≤ k ∧ k < w'.heap.size) : SB w' w0 w' a d (fun k => E k ∨ F k) vi vq vf cl cn T p x cs n li := by
  refine ⟨h.ps.others (S := fun _ => False) (Far.of_ext hb) (fun _ e => e.elim) ?_, h.pb.keep hb h.pb.lt, h.xs.ext hb, h.xb.keep hb, h.ne, h.bw.trans (hb.mono h.bw.size), h.lo, ?_⟩
  · rintro k (hk | hk | hk | hk | hk | hk | hk)
    · exact .inl (.inl hk)
    · exact .inl (.inr (.inl hk))
    · exact .inl (.inr (.inr (.inl hk)))
    · exact .inl (.inr (.inr (.inr (.inl hk))))
    · exact .inl (.inr (.inr (.inr (.inr (.inl hk)))))
    · exact .inl (.inr (.inr (.inr (.inr (.inr hk)))))
    · exact .inr (hF k hk)
  · rintro k (hk | hk)
    · exact ⟨rfl, Nat.lt_of_lt_of_le (h.ro k hk).2.1 hb.size, (h.ro k hk).2.2⟩
    · have := hF k hk
      exact ⟨rfl, this.2, fun e => by have := h.pb.lt; omega, fun e => by have := h.ltd e; omega⟩
theorem SB.drop (h : SB R w0 w a d E vi vq vf cl cn T p x cs n li) (hE : ∀ k, E' k → E k) : SB R w0 w a d E' vi vq vf cl cn T p x cs n li :=
  ⟨h.ps.weaken (by
    rintro k (hk | hk | hk | hk | hk | hk)
    · exact .inl hk
    · exact .inr (.inl hk)
    · exact .inr (.inr (.inl hk))
    · exact .inr (.inr (.inr (.inl hk)))
    · exact .inr (.inr (.inr (.inr (.inl hk))))
    · exact .inr (.inr (.inr (.inr (.inr (hE k hk)))))), h.pb, h.xs, h.xb, h.ne, h.bw, h.lo, fun k hk => h.ro k (hE k hk)⟩
theorem SB.fin (h : SB R w0 w a d E vi vq vf cl cn T p x cs n li) : SB R' w0 w a d (fun _ => False) vi vq vf cl cn T p x cs n li :=
  have h2 := h.drop (E' := fun _ => False) (fun _ e => e.elim)
  ⟨h2.ps, h2.pb, h2.xs, h2.xb, h2.ne, h2.bw, h2.lo, fun _ e => e.elim⟩
theorem SB.here (h : SB R w0 w a d E vi vq vf cl cn T p x cs n li) : SB w w0 w a d E vi vq vf cl cn T p x cs n li :=
  ⟨h.ps, h.pb, h.xs, h.xb, h.ne, h.bw, h.lo, fun k hk => ⟨rfl, (h.ro k hk).2⟩⟩
/-- The program's session has turned. -/
theorem SB.prog (h : SB R w0 w a d E vi vq vf cl cn T p x cs n li) (s : Ss (fun k => AS w0 a d vi vq vf E k ∨ F k) w' a cl cn on' T' L' l' lost') (kp : Kp (AS w0 a d vi vq vf E) w w') (hF : ∀ k, F k → w.heap.size ≤ k ∧ k < w'.heap.size) :
    SB w' w0 w' a d (fun k => E k ∨ F k) vi vq vf cl cn T' ⟨on', L', l', lost'⟩ x cs n li ∧ ∀ k, E k → w'.heap[k]? = w.heap[k]? := by
  have hE : ∀ k, E k → w'.heap[k]? = w.heap[k]? := fun k hk => kp.block k (h.ro k hk).2.1 (fun e => e (.inr (.inr (.inr (.inr (.inr hk))))))
  refine ⟨⟨s.weaken ?_, ⟨(kp.block _ h.pb.lt (fun e => e (.inr (.inl rfl)))).trans h.pb.row, h.pb.len, h.pb.le⟩, h.mx.others (kp.mono fun k hk e => ⟨hk, fun o => e (.inr (.inr (.inl o)))⟩) (fun k hk => hk) (fun k e => e.elim), ⟨(kp.block _ h.xb.lt (fun e => e (.inr (.inr (.inr (.inl rfl)))))).trans h.xb.row, own_fars h.xb.its kp (fun k hk e => e (.inr (.inr (.inr (.inr (.inl hk))))))⟩, h.ne, h.bw.trans (kp.below h.bw.size (fun j hj => .inl hj)), h.lo, ?_⟩, hE⟩
  · rintro k (hk | hk | hk | hk | hk | hk | hk)
    · exact .inl (.inl hk)
    · exact .inl (.inr (.inl hk))
    · exact .inl (.inr (.inr (.inl hk)))
    · exact .inl (.inr (.inr (.inr (.inl hk))))
    · exact .inl (.inr (.inr (.inr (.inr (.inl hk)))))
    · exact .inl (.inr (.inr (.inr (.inr (.inr hk)))))
    · exact .inr hk
  · rintro k (hk | hk)
    · exact ⟨rfl, Nat.lt_of_lt_of_le (h.ro k hk).2.1 kp.size, (h.ro k hk).2.2⟩
    · have := hF k hk
      exact ⟨rfl, this.2, fun e => by have := h.pb.lt; omega, fun e => by have := h.ltd e; omega⟩
theorem SB.old (h : SB R w0 w a d E vi vq vf cl cn T p x cs n li) (s : Xs (fun k => MX w d vq vf k ∨ F k) w' d cl cn on' vq' vf' L' l' lost') {k : Nat} (hk : OX d vq' vf' k) : OX d vq vf k ∨ w.heap.size ≤ k ∧ k < w'.heap.size := by
  by_cases hlt : k < w.heap.size
  · by_cases ho : OX d vq vf k
    · exact .inl ho
    · exact absurd hk (s.off k (.inl ⟨hlt, ho⟩)).2
  · exact .inr ⟨by omega, s.lt hk⟩
/-- The document's session has turned. -/
theorem SB.doc (h : SB R w0 w a d E vi vq vf cl cn T p x cs n li) (s : Xs (fun k => MX w d vq vf k ∨ F k) w' d cl cn on' vq' vf' L' l' lost') (kp : Kp (MX w d vq vf) w w') (hF : ∀ k, F k → w.heap.size ≤ k ∧ k < w'.heap.size) :
    SB w' w0 w' a d (fun k => E k ∨ F k) vi vq' vf' cl cn T p ⟨on', L', l', lost'⟩ cs n li ∧ ∀ k, E k → w'.heap[k]? = w.heap[k]? := by
  have hE : ∀ k, E k → w'.heap[k]? = w.heap[k]? := fun k hk => kp.block k (h.ro k hk).2.1 (fun e => e ⟨(h.ro k hk).2.1, fun o => (h.ro k hk).2.2.2 (.inl o)⟩)
  have hF2 : Far (OX d vq vf) w w' := kp.mono fun k hk e => Classical.byContradiction fun o => e ⟨hk, o⟩
  have hN : ∀ k, k = a.ib ∨ k = d.i ∨ vi.ownBlock = some k → ¬ OX d vq' vf' k := fun k hk => (s.off k (.inl ⟨hk.elim (fun e => e ▸ h.pb.lt) (fun e => h.ltd (.inr e)), h.ne k hk⟩)).2
  refine ⟨⟨h.ps.others hF2 (fun k hk => .inr (.inr (.inl hk))) ?_, ⟨(hF2.block _ h.pb.lt (h.ne _ (.inl rfl))).trans h.pb.row, h.pb.len, h.pb.le⟩, s.weaken (fun k e => e.elim), ⟨(hF2.block _ h.xb.lt (h.ne _ (.inr (.inl rfl)))).trans h.xb.row, own_fars h.xb.its hF2 (fun k hk => h.ne k (.inr (.inr hk)))⟩, hN, h.bw.trans (hF2.below h.bw.size (fun k hk => h.lo k (.inr (.inl hk)))), ?_, ?_⟩, hE⟩
  · rintro k (hk | hk | hk | hk | hk | hk | hk)
    · exact .inl (.inl hk)
    · exact .inl (.inr (.inl hk))
    · exact (h.old s hk).imp (fun e => .inr (.inr (.inl e))) id
    · exact .inl (.inr (.inr (.inr (.inl hk))))
    · exact .inl (.inr (.inr (.inr (.inr (.inl hk)))))
    · exact .inl (.inr (.inr (.inr (.inr (.inr hk)))))
    · exact .inr (hF k hk)
  · rintro k (hk | hk | hk)
    · exact h.lo k (.inl hk)
    · rcases h.old s hk with e | e
      · exact h.lo k (.inr (.inl e))
      · exact Nat.le_trans h.bw.size e.1
    · exact h.lo k (.inr (.inr hk))
  · rintro k (hk | hk)
    · refine ⟨rfl, Nat.lt_of_lt_of_le (h.ro k hk).2.1 kp.size, (h.ro k hk).2.2.1, ?_⟩
      rintro (e | e)
      · exact (s.off k (.inl ⟨(h.ro k hk).2.1, fun o => (h.ro k hk).2.2.2 (.inl o)⟩)).2 e
      · exact (h.ro k hk).2.2.2 (.inr e)
    · have := hF k hk
      refine ⟨rfl, this.2, fun e => by have := h.pb.lt; omega, ?_⟩
      rintro (e | e)
      · exact (s.off k (.inr hk)).2 e
      · have := h.ltd (.inr e); omega
theorem SB.nib (h : SB R w0 w a d E vi vq vf cl cn T p x cs n li) : a.ib ≠ d.i ∧ vi.ownBlock ≠ some a.ib ∧ vi.ownBlock ≠ some d.i :=
  ⟨ne_types h.pb.row h.xb.row (by decide), fun e => (own_far h.xb.its h.pb.row (by decide)) e.symm, fun e => (own_far h.xb.its h.xb.row (by decide)) e.symm⟩
/-- The program's inbox has turned. -/
theorem SB.onBox (h : SB R w0 w a d E vi vq vf cl cn T p x cs n li) (b : Inb.Box w' a.ib cs' n') (g : w.grownBy w' (some a.ib)) : SB R w0 w' a d E vi vq vf cl cn T p x cs' n' li := by
  obtain ⟨n1, n2, n3⟩ := h.nib
  have F : Far (fun k => k = a.ib) w w' := Far.of_grown g (fun k _ e => by simpa using e.symm)
  refine ⟨h.ps.others F (fun k hk => .inr (.inl hk)) (fun k hk => .inl hk), b, h.mx.others F (fun k hk => hk ▸ ⟨h.pb.lt, h.ne _ (.inl rfl)⟩) (fun k e => e.elim), ⟨(F.block _ h.xb.lt (fun e => n1 e.symm)).trans h.xb.row, own_fars h.xb.its F (fun k hk e => n2 (e ▸ hk))⟩, h.ne, h.bw.trans (F.below h.bw.size (fun k hk => hk ▸ h.lo _ (.inl rfl))), h.lo, fun k hk => ⟨(F.block k (h.ro k hk).2.1 (h.ro k hk).2.2.1).trans (h.ro k hk).1, Nat.lt_of_lt_of_le (h.ro k hk).2.1 F.size, (h.ro k hk).2.2⟩⟩
/-- The document's inbox has turned. -/
theorem SB.onXb (h : SB R w0 w a d E vi vq vf cl cn T p x cs n li) (b : Inb.Xb w' d.i vi' li') (g : w.grownBy w' (some d.i)) (nb : ∀ k, vi'.ownBlock = some k → w.heap.size ≤ k) : SB R w0 w' a d E vi' vq vf cl cn T p x cs n li' := by
  obtain ⟨n1, n2, n3⟩ := h.nib
  have F : Far (fun k => k = d.i) w w' := Far.of_grown g (fun k _ e => by simpa using e.symm)
  refine ⟨h.ps.others F (fun k hk => .inr (.inr (.inr (.inl hk)))) ?_, ⟨(F.block _ h.pb.lt n1).trans h.pb.row, h.pb.len, h.pb.le⟩, h.mx.others F (fun k hk => hk ▸ ⟨h.xb.lt, h.ne _ (.inr (.inl rfl))⟩) (fun k e => e.elim), b, ?_, h.bw.trans (F.below h.bw.size (fun k hk => hk ▸ h.lo _ (.inr (.inr (.inl rfl))))), ?_, ?_⟩
  · rintro k (hk | hk | hk | hk | hk | hk)
    · exact .inl (.inl hk)
    · exact .inl (.inr (.inl hk))
    · exact .inl (.inr (.inr (.inl hk)))
    · exact .inl (.inr (.inr (.inr (.inl hk))))
    · exact .inr ⟨nb k hk, (b.its.lt k hk).2⟩
    · exact .inl (.inr (.inr (.inr (.inr (.inr hk)))))
  · rintro k (hk | hk | hk)
    · exact h.ne k (.inl hk)
    · exact h.ne k (.inr (.inl hk))
    · exact fun e => by have := h.xs.lt e; have := nb k hk; omega
  · rintro k (hk | hk | hk | hk)
    · exact h.lo k (.inl hk)
    · exact h.lo k (.inr (.inl hk))
    · exact h.lo k (.inr (.inr (.inl hk)))
    · exact Nat.le_trans h.bw.size (nb k hk)
  · intro k hk
    obtain ⟨r1, r2, r3, r4⟩ := h.ro k hk
    refine ⟨(F.block k r2 (fun e => r4 (.inr (.inl e)))).trans r1, Nat.lt_of_lt_of_le r2 F.size, r3, ?_⟩
    rintro (e | e | e)
    · exact r4 (.inl e)
    · exact r4 (.inr (.inl e))
    · have := nb k e; omega
end
end Go.Proofs.YtceiipcdkonnlaaGreat.Ses

/-
  LAYER 25: both sessions: the inboxes, and what only looks.
-/
namespace Go.Proofs.YtceiipcdkonnlaaGreat.Inb
open Go.RowKit
set_option linter.unusedSimpArgs false
set_option linter.unusedVariables false
section
variable {l : List Int} {t : Int}
theorem sorted_ins (hs : Sorted l) (hm : t ∉ l) : Sorted (l.take (posOf t l) ++ t :: l.drop (posOf t l)) := by
  have hp := pos_of t l hs
  have hle := hp.le
  have e : l.take (posOf t l) ++ l.drop (posOf t l) = l := List.take_append_drop _ _
  have hlen : (l.take (posOf t l)).length = posOf t l := by rw [List.length_take]; omega
  exact sorted_in (by rw [e]; exact hs) (by rw [e, hlen]; exact hp) (by rw [e]; exact hm)
theorem ins_of {A M : List Int} (h : l = A ++ M) (hA : A.length = posOf t l) : l.take (posOf t l) ++ t :: l.drop (posOf t l) = A ++ t :: M := by
  rw [← hA, h]; simp
theorem mem_lt {A M : List Int} (hs : Sorted (A ++ t :: M)) : (∀ x ∈ A, x < t) ∧ ∀ x ∈ M, t < x := by
  constructor
  · intro x hx
    obtain ⟨i, hi, rfl⟩ := List.mem_iff_getElem.1 hx
    have := hs i A.length (by omega) (by simp)
    rw [getD_append_left _ _ _ hi, getD_append_right _ _ _ (Nat.le_refl _)] at this
    simpa [List.getD, List.getElem?_eq_getElem hi] using this
  · intro x hx
    obtain ⟨i, hi, rfl⟩ := List.mem_iff_getElem.1 hx
    have := hs A.length (A.length + (i + 1)) (by omega) (by simp; omega)
    rw [getD_append_right _ _ _ (Nat.le_refl _), getD_append_right _ _ _ (by omega)] at this
    simpa [List.getD, List.getElem?_eq_getElem hi] using this
theorem out_of {A M : List Int} (hs : Sorted (A ++ t :: M)) : outOf t (A ++ t :: M) = A ++ M := by
  obtain ⟨h1, h2⟩ := mem_lt hs
  unfold outOf
  rw [List.filter_append, List.filter_cons_of_neg (by simp), List.filter_eq_self.2 (fun x hx => by have := h1 x hx; simp; omega), List.filter_eq_self.2 (fun x hx => by have := h2 x hx; simp; omega)]
theorem out_no (h : t ∉ l) : outOf t l = l := by
  unfold outOf
  exact List.filter_eq_self.2 (fun x hx => by simp; rintro rfl; exact h hx)
theorem sorted_away (hs : Sorted l) (t : Int) : Sorted (outOf t l) := by
  by_cases hm : t ∈ l
  · obtain ⟨A, M, rfl⟩ := List.append_of_mem hm
    rw [out_of hs]
    exact sorted_out hs
  · rw [out_no hm]; exact hs
end
theorem come_bad (g n : Nat) (xs : List Int) (t : Int) (w : World) (h : Box w g xs n) (ht : t < 1 ∨ 65535 < t) :
    Calls Tryz.prog 53 #[.pointer (some ⟨g, 0, none⟩), .int .i64 t] w fun e w' => e = .returned (.tuple #[.bool false, .int .i64 1]) ∧ w = w' := by
  have c0 := h.made
  clear h
  by_cases h1 : t < 1
  · clear ht
    go_enter Tryz.func53, Tryz.ntmps53
    go_wp2_with go_in
    go_ret2
    exact ⟨rfl, rfl⟩
  · have h2 : 65535 < t := by omega
    clear ht
    go_enter Tryz.func53, Tryz.ntmps53
    go_wp2_with go_in
    go_ret2
    exact ⟨rfl, rfl⟩
/-- What Come says, and what is there then. -/
def comeF (t : Int) (l : List Int) : Bool × Int × List Int :=
  if t < 1 ∨ 65535 < t then (false, 1, l) else if t ∈ l then (false, 0, l) else if 16 ≤ l.length then (false, 6, l) else (true, 0, l.take (posOf t l) ++ t :: l.drop (posOf t l))
theorem sorted_come {l : List Int} (hs : Sorted l) (t : Int) : Sorted (comeF t l).2.2 := by
  unfold comeF
  repeat' split
  · exact hs
  · exact hs
  · exact hs
  · exact sorted_ins hs ‹_›
theorem come_all (g n : Nat) (xs : List Int) (t : Int) (w : World) (h : Box w g xs n) (hs : Sorted (xs.take n)) :
    Calls Tryz.prog 53 #[.pointer (some ⟨g, 0, none⟩), .int .i64 t] w fun e w' => e = .returned (.tuple #[.bool (comeF t (xs.take n)).1, .int .i64 (comeF t (xs.take n)).2.1]) ∧ ∃ ys m, Box w' g ys m ∧ ys.take m = (comeF t (xs.take n)).2.2 ∧ w.grownBy w' (some g) := by
  have hle := h.le
  have hlen := h.len
  by_cases hb : t < 1 ∨ 65535 < t
  · refine (come_bad g n xs t w h hb).mono ?_
    rintro e w' ⟨rfl, rfl⟩
    rw [comeF, if_pos hb]
    exact ⟨rfl, xs, n, h, rfl, World.grownBy.refl _ _⟩
  rw [comeF, if_neg hb]
  have h0 : 1 ≤ t := by omega
  have h1 : t ≤ 65535 := by omega
  by_cases hm : t ∈ xs.take n
  · refine (come_there g n xs t w h hs h0 h1 ((foundIn_iff hs).2 hm)).mono ?_
    rintro e w' ⟨k, rfl, rfl⟩
    rw [if_pos hm]
    exact ⟨rfl, xs, n, h.drewN k, rfl, grown_below (ext_drewN w k) (Nat.le_refl _)⟩
  rw [if_neg hm]
  have hf : foundIn t (xs.take n) = false := by
    rw [Bool.eq_false_iff]; exact fun e => hm ((foundIn_iff hs).1 e)
  by_cases hn : n = 16
  · subst hn
    refine (come_full g xs t w h hs h0 h1 hf).mono ?_
    rintro e w' ⟨k, rfl, rfl⟩
    rw [if_pos (by rw [List.length_take]; omega)]
    exact ⟨rfl, xs, 16, h.drewN k, rfl, grown_below (ext_drewN w k) (Nat.le_refl _)⟩
  · refine (come_new g n xs t w h hs (by omega) h0 h1 hf).mono ?_
    rintro e w' ⟨rfl, A, M, R, hx, hA, b, gr⟩
    rw [if_neg (by rw [List.length_take]; omega)]
    refine ⟨rfl, _, _, b, ?_, gr⟩
    rw [ins_of hx hA]
    have e : n + 1 = (A ++ t :: M).length := by
      have : (xs.take n).length = n := by rw [List.length_take]; omega
      rw [hx] at this; simp at this ⊢; omega
    rw [e, show A ++ t :: (M ++ R) = (A ++ t :: M) ++ R by simp, List.take_left']
    rfl
theorem xcome_all {w : World} {g : Nat} {v : Value} {l : List Int} {t : Int} (h : Xb w g v l) (hs : Sorted l) (hl : l.length ≤ 16) :
    Calls Tryz.prog 25 #[.pointer (some ⟨g, 0, none⟩), .int .i64 t] w fun e w' => e = .returned (.tuple #[.bool (comeF t l).1, .int .i64 (comeF t l).2.1]) ∧ ((∃ v', Xb w' g v' (comeF t l).2.2 ∧ (∀ k, v'.ownBlock = some k → w.heap.size ≤ k) ∧ w.grownBy w' (some g)) ∨ (comeF t l).2.2 = l ∧ w = w') := by
  by_cases hb : t < 1 ∨ 65535 < t
  · refine (xcome_bad g t hb).mono ?_
    rintro e w' ⟨rfl, rfl⟩
    rw [comeF, if_pos hb]
    exact ⟨rfl, .inr ⟨rfl, rfl⟩⟩
  rw [comeF, if_neg hb]
  refine (xcome_any h hs (by omega) (by omega) hl).mono ?_
  rintro e w' (⟨hm, rfl, rfl⟩ | ⟨hm, hn, rfl, rfl⟩ | ⟨hm, hn, rfl, ⟨v', x, nb⟩, gr⟩)
  · rw [if_pos hm]
    exact ⟨rfl, .inr ⟨rfl, rfl⟩⟩
  · rw [if_neg hm, if_pos hn]
    exact ⟨rfl, .inr ⟨rfl, rfl⟩⟩
  · rw [if_neg hm, if_neg (by omega)]
    exact ⟨rfl, .inl ⟨v', x, nb, gr⟩⟩
theorem done_all (g n : Nat) (xs : List Int) (t : Int) (w : World) (h : Box w g xs n) (hs : Sorted (xs.take n)) :
    Calls Tryz.prog 54 #[.pointer (some ⟨g, 0, none⟩), .int .i64 t] w fun e w' => e = .returned (.bool (decide ((outOf t (xs.take n)).length < (xs.take n).length))) ∧ ∃ ys m, Box w' g ys m ∧ ys.take m = outOf t (xs.take n) ∧ w.grownBy w' (some g) := by
  have hle := h.le
  have hlen := h.len
  by_cases hm : t ∈ xs.take n
  · rw [decide_eq_true ((outOf_lt t (xs.take n)).2 hm)]
    refine (done_yes g n xs t w h hs ((foundIn_iff hs).2 hm)).mono ?_
    rintro e w' ⟨rfl, A, M, R, z, hx, b, gr⟩
    refine ⟨rfl, _, _, b, ?_, gr⟩
    rw [hx, out_of (by rw [← hx]; exact hs)]
    have e : n - 1 = (A ++ M).length := by
      have : (xs.take n).length = n := by rw [List.length_take]; omega
      rw [hx] at this; simp at this ⊢; omega
    rw [e, ← List.append_assoc, List.take_left']
    rfl
  · rw [decide_eq_false (fun e => hm ((outOf_lt t (xs.take n)).1 e))]
    have hf : foundIn t (xs.take n) = false := by
      rw [Bool.eq_false_iff]; exact fun e => hm ((foundIn_iff hs).1 e)
    refine (done_no g n xs t w h hs hf).mono ?_
    rintro e w' ⟨k, rfl, rfl⟩
    exact ⟨rfl, xs, n, h.drewN k, (out_no hm).symm, grown_below (ext_drewN w k) (Nat.le_refl _)⟩
end Go.Proofs.YtceiipcdkonnlaaGreat.Inb
namespace Go.Proofs.YtceiipcdkonnlaaGreat.Ses
open Go.RowKit Que Hp Ids Fli
set_option linter.unusedSimpArgs false
set_option linter.unusedVariables false
section
variable {A : Nat → Prop} {w : World} {a : Ad} {cl : ByteArray} {cn on : Bool} {T : List Bool} {L : List Se} {l : List Mg} {lost : Int}
theorem s_client (h : Ss A w a cl cn on T L l lost) : Calls Tryz.prog 32 #[.pointer (some ⟨a.s, 0, none⟩)] w fun e w' => e = .returned (.string cl) ∧ w = w' := by
  have s0 := h.s0
  have N := Lib.hid (s_none h)
  replace h := Lib.hid h
  go_enter Tryz.func32, Tryz.ntmps32
  go_wp2_with fail
  refine N.out.mono ?_
  rintro e w1 ⟨rfl, rfl⟩
  go_wp2_with fail
  go_ret
  exact ⟨rfl, rfl⟩
theorem s_clean (h : Ss A w a cl cn on T L l lost) : Calls Tryz.prog 33 #[.pointer (some ⟨a.s, 0, none⟩)] w fun e w' => e = .returned (.bool cn) ∧ w = w' := by
  have s1 := h.s1
  have N := Lib.hid (s_none h)
  replace h := Lib.hid h
  go_enter Tryz.func33, Tryz.ntmps33
  go_wp2_with fail
  refine N.out.mono ?_
  rintro e w1 ⟨rfl, rfl⟩
  go_wp2_with fail
  go_ret
  exact ⟨rfl, rfl⟩
theorem s_detach (h : Ss A w a cl cn on T L l lost) : Calls Tryz.prog 20 #[.pointer (some ⟨a.s, 0, none⟩)] w fun e w' => e = .returned (.bool on) ∧ Ss A w' a cl cn false T L l lost ∧ Kp A w w' := by
  have fz := h.fz 2
  have s2 := h.s2
  have N := Lib.hid (s_online h)
  have H := Lib.hid h
  clear h
  cases on with
  | true =>
    have S1 := Lib.hid (H.out.line false)
    go_enter Tryz.func20, Tryz.ntmps20
    go_wp2_with fail
    refine N.out.mono ?_
    rintro e w1 ⟨rfl, rfl⟩
    go_wp2_with fail
    go_ret
    exact ⟨rfl, S1.out.1, S1.out.2⟩
  | false =>
    go_enter Tryz.func20, Tryz.ntmps20
    go_wp2_with fail
    refine N.out.mono ?_
    rintro e w1 ⟨rfl, rfl⟩
    go_wp2_with fail
    go_ret
    exact ⟨rfl, H.out, Far.refl _ _⟩
theorem s_inbox (h : Ss A w a cl cn on T L l lost) {cs : List Int} {n : Nat} (b : Inb.Box w a.ib cs n) : Calls Tryz.prog 29 #[.pointer (some ⟨a.s, 0, none⟩)] w (Inb.OwnsInts w.heap.size (cs.take n) w) := by
  have p2 := h.p2
  have N := Lib.hid (s_in h)
  have F := Lib.hid (Inb.all_any _ _ _ _ b)
  replace h := Lib.hid h
  replace b := Lib.hid b
  go_enter Tryz.func29, Tryz.ntmps29
  go_wp2_with fail
  refine N.out.mono ?_
  rintro e w1 ⟨rfl, rfl⟩
  go_wp2_with fail
  refine F.out.mono ?_
  rintro e w1 ⟨v, rfl, o1, hne, b1⟩
  go_wp2_with fail
  go_ret
  exact ⟨v, rfl, o1, hne, b1⟩
theorem s_come (h : Ss A w a cl cn on T L l lost) {cs : List Int} {n : Nat} (b : Inb.Box w a.ib cs n) (hs : Inb.Sorted (cs.take n)) (t : Int) : Calls Tryz.prog 24 #[.pointer (some ⟨a.s, 0, none⟩), .int .i64 t] w fun e w' => e = .returned (.tuple #[.bool (Inb.comeF t (cs.take n)).1, .int .i64 (Inb.comeF t (cs.take n)).2.1]) ∧ ∃ ys m, Inb.Box w' a.ib ys m ∧ ys.take m = (Inb.comeF t (cs.take n)).2.2 ∧ w.grownBy w' (some a.ib) := by
  have p2 := h.p2
  have N := Lib.hid (s_in h)
  have F := Lib.hid (Inb.come_all _ _ _ t _ b hs)
  replace h := Lib.hid h
  replace b := Lib.hid b
  replace hs := Lib.hid hs
  go_enter Tryz.func24, Tryz.ntmps24
  go_wp2_with fail
  refine N.out.mono ?_
  rintro e w1 ⟨rfl, rfl⟩
  go_wp2_with fail
  refine F.out.mono ?_
  rintro e w1 ⟨rfl, hr⟩
  replace hr := Lib.hid hr
  go_wp2_with fail
  go_ret2
  exact ⟨rfl, hr.out⟩
theorem s_done (h : Ss A w a cl cn on T L l lost) {cs : List Int} {n : Nat} (b : Inb.Box w a.ib cs n) (hs : Inb.Sorted (cs.take n)) (t : Int) : Calls Tryz.prog 26 #[.pointer (some ⟨a.s, 0, none⟩), .int .i64 t] w fun e w' => e = .returned (.bool (decide ((Inb.outOf t (cs.take n)).length < (cs.take n).length))) ∧ ∃ ys m, Inb.Box w' a.ib ys m ∧ ys.take m = Inb.outOf t (cs.take n) ∧ w.grownBy w' (some a.ib) := by
  have p2 := h.p2
  have N := Lib.hid (s_in h)
  have F := Inb.done_all _ _ _ t _ b hs
  generalize decide ((Inb.outOf t (cs.take n)).length < (cs.take n).length) = bb at F ⊢
  replace F := Lib.hid F
  replace h := Lib.hid h
  replace b := Lib.hid b
  replace hs := Lib.hid hs
  go_enter Tryz.func26, Tryz.ntmps26
  go_wp2_with fail
  refine N.out.mono ?_
  rintro e w1 ⟨rfl, rfl⟩
  go_wp2_with fail
  refine F.out.mono ?_
  rintro e w1 ⟨rfl, hr⟩
  replace hr := Lib.hid hr
  go_wp2_with fail
  go_ret
  exact ⟨rfl, hr.out⟩
end
section
variable {R w0 w w' : World} {a : Ad} {d : Ax} {E : Nat → Prop} {vi vq vf : Value} {cl : ByteArray} {cn : Bool} {T : List Bool} {p x : PS} {cs : List Int} {n : Nat} {li : List Int}
theorem b_come (h : SB R w0 w a d E vi vq vf cl cn T p x cs n li) (hk : cs.take n = li) (so : Inb.Sorted li) (t : Int) : Calls Tryz.prog 24 #[.pointer (some ⟨a.s, 0, none⟩), .int .i64 t] w fun e w' => e = .returned (.tuple #[.bool (Inb.comeF t li).1, .int .i64 (Inb.comeF t li).2.1]) ∧ ∃ cs' n', SB R w0 w' a d E vi vq vf cl cn T p x cs' n' li ∧ cs'.take n' = (Inb.comeF t li).2.2 := by
  subst hk
  refine (s_come h.ps h.pb so t).mono ?_
  rintro e w' ⟨he, ys, m, b, hy, g⟩
  exact ⟨he, ys, m, h.onBox b g, hy⟩
theorem b_done (h : SB R w0 w a d E vi vq vf cl cn T p x cs n li) (hk : cs.take n = li) (so : Inb.Sorted li) (t : Int) : Calls Tryz.prog 26 #[.pointer (some ⟨a.s, 0, none⟩), .int .i64 t] w fun e w' => e = .returned (.bool (decide ((Inb.outOf t li).length < li.length))) ∧ ∃ cs' n', SB R w0 w' a d E vi vq vf cl cn T p x cs' n' li ∧ cs'.take n' = Inb.outOf t li := by
  subst hk
  refine (s_done h.ps h.pb so t).mono ?_
  rintro e w' ⟨he, ys, m, b, hy, g⟩
  exact ⟨he, ys, m, h.onBox b g, hy⟩
theorem bx_come (h : SB R w0 w a d E vi vq vf cl cn T p x cs n li) (hl : li.length ≤ 16) (so : Inb.Sorted li) (t : Int) : Calls Tryz.prog 25 #[.pointer (some ⟨d.i, 0, none⟩), .int .i64 t] w fun e w' => e = .returned (.tuple #[.bool (Inb.comeF t li).1, .int .i64 (Inb.comeF t li).2.1]) ∧ ∃ vi', SB R w0 w' a d E vi' vq vf cl cn T p x cs n (Inb.comeF t li).2.2 := by
  refine (Inb.xcome_all (t := t) h.xb so hl).mono ?_
  rintro e w' ⟨he, ⟨v', b, nb, g⟩ | ⟨hy, rfl⟩⟩
  · exact ⟨he, v', h.onXb b g nb⟩
  · rw [hy]; exact ⟨he, vi, h⟩
theorem bx_done (h : SB R w0 w a d E vi vq vf cl cn T p x cs n li) (hl : li.length ≤ 16) (t : Int) : Calls Tryz.prog 27 #[.pointer (some ⟨d.i, 0, none⟩), .int .i64 t] w fun e w' => e = .returned (.bool (decide ((Inb.outOf t li).length < li.length))) ∧ ∃ vi', SB R w0 w' a d E vi' vq vf cl cn T p x cs n (Inb.outOf t li) := by
  refine (Inb.xdone_any (t := t) h.xb hl).mono ?_
  rintro e w' ⟨he, ⟨v', b, nb⟩, g⟩
  exact ⟨he, v', h.onXb b g nb⟩
end
end Go.Proofs.YtceiipcdkonnlaaGreat.Ses
