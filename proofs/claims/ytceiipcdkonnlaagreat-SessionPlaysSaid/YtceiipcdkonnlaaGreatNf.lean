/-
  LAYER 23: both flights: each call on both.
-/
import Derived.Test.YtceiipcdkonnlaaGreatNd
namespace Go.Proofs.YtceiipcdkonnlaaGreat.Fli
set_option linter.unusedSimpArgs false
set_option linter.unusedVariables false
open Go.RowKit Que Hp Ids
section
variable {A A' S : Nat → Prop} {w w' W W' R : World} {f g x ab : Nat} {T : List Bool} {L L' : List Se} {v v' : Value}
theorem Fs.others (h : Fs A w f g T L) (F : Far S w w') (hS : ∀ k, S k → A k) (hA : ∀ k, A' k → A k ∨ w.heap.size ≤ k ∧ k < w'.heap.size) : Fs A' w' f g T L := by
  obtain ⟨v, r, d, av⟩ := h.ex
  refine ⟨⟨v, r.far F (fun e => (av f (hS f e)).2.1 rfl) (fun k hk e => (av k (hS k e)).2.2 hk), Ds.others d F (fun k hk => .inl (hS k hk)) ?_, fun k hk => ?_⟩, h.ids, h.nd, h.tr⟩
  · rintro k (hk | hk)
    · exact (hA k hk).imp .inl id
    · exact .inl (.inr hk)
  · rcases hA k hk with e | ⟨e1, e2⟩
    · exact ⟨Nat.lt_of_lt_of_le (av k e).1 F.size, (av k e).2⟩
    · have := r.lt
      exact ⟨e2, by omega, fun e => by have := (r.its.lt k e).2; omega⟩
/-- What the program's flight leaves alone. -/
def AB (w : World) (x : Nat) (v : Value) (E : Nat → Prop) (k : Nat) : Prop := k < w.heap.size ∨ k = x ∨ v.ownBlock = some k ∨ E k
/-- Both flights; the program's list and the document's may differ for a while. -/
structure FB (R w W : World) (f g x : Nat) (E : Nat → Prop) (T : List Bool) (Lc : List Se) (v : Value) (Lx : List Se) : Prop where
  fs : Fs (AB w x v E) W f g T Lc
  xf : Xf w.heap.size W x v Lx
  bw : Below w.heap.size w W
  xb : w.heap.size ≤ x
  ro : ∀ k, E k → W.heap[k]? = R.heap[k]? ∧ k ≠ x ∧ v.ownBlock ≠ some k
variable {E : Nat → Prop} {Lc Lx : List Se}
theorem FB.lt (h : FB R w W f g x E T Lc v Lx) {k : Nat} (hk : E k) : k < W.heap.size := by
  obtain ⟨v0, r, d, av⟩ := h.fs.ex
  exact (av k (.inr (.inr (.inr hk)))).1
theorem FB.ext (h : FB R w W f g x E T Lc v Lx) (hb : Below W.heap.size W W') : FB R w W' f g x E T Lc v Lx := ⟨h.fs.ext hb, h.xf.keep hb, h.bw.trans (hb.mono h.bw.size), h.xb, fun k hk => ⟨((Far.of_ext (S := fun _ => False) hb).block k (h.lt hk) id).trans (h.ro k hk).1, (h.ro k hk).2⟩⟩
theorem FB.more {E' : Nat → Prop} (h : FB R w W f g x (fun _ => False) T Lc v Lx) (hb : Below W.heap.size W W') (hE : ∀ k, E' k → W.heap.size ≤ k ∧ k < W'.heap.size) : FB W' w W' f g x E' T Lc v Lx :=
  ⟨h.fs.more hb (fun k hk => by
    rcases hk with e | e | e | e
    · exact .inl (.inl e)
    · exact .inl (.inr (.inl e))
    · exact .inl (.inr (.inr (.inl e)))
    · exact .inr (hE k e)), h.xf.keep hb, h.bw.trans (hb.mono h.bw.size), h.xb, fun k hk => ⟨rfl, fun e => by have := h.xf.lt; have := hE k hk; omega, fun e => by have := (h.xf.its.lt k e).2; have := hE k hk; omega⟩⟩
theorem FB.fin {R' : World} (h : FB R w W f g x E T Lc v Lx) : FB R' w W f g x (fun _ => False) T Lc v Lx :=
  ⟨h.fs.weaken (fun k hk => hk.imp id (fun e => e.imp id (fun e => e.imp id (fun e => e.elim)))), h.xf, h.bw, h.xb, fun k hk => hk.elim⟩
/-- The program's flight has turned. -/
theorem FB.prog {T' : List Bool} {Lc' : List Se} (h : FB R w W f g x E T Lc v Lx) (s : Fs (AB w x v E) W' f g T' Lc') (k : Kp (AB w x v E) W W') : FB R w W' f g x E T' Lc' v Lx :=
  ⟨s, h.xf.far k (fun e => e (.inr (.inl rfl))) (fun j hj e => e (.inr (.inr (.inl hj)))), h.bw.trans (k.below h.bw.size (fun j hj => .inl hj)), h.xb, fun j hj => ⟨(k.block j (h.lt hj) (fun e => e (.inr (.inr (.inr hj))))).trans (h.ro j hj).1, (h.ro j hj).2⟩⟩
/-- The document's flight has turned. -/
theorem FB.doc (h : FB R w W f g x E T Lc v Lx) (n : XN w.heap.size W W' x v L' v') : FB R w W' f g x E T Lc v' L' := by
  refine ⟨h.fs.others n.far ?_ ?_, n.r, h.bw.trans (n.far.below h.bw.size ?_), h.xb, fun j hj => ⟨(n.far.block j (h.lt hj) ?_).trans (h.ro j hj).1, (h.ro j hj).2.1, fun e => ?_⟩⟩
  · rintro k (e | e)
    · exact .inr (.inl e)
    · exact .inr (.inr (.inl e))
  · rintro k (e | e | e | e)
    · exact .inl (.inl e)
    · exact .inl (.inr (.inl e))
    · rcases n.nb k e with e2 | e2
      · exact .inl (.inr (.inr (.inl e2)))
      · exact .inr ⟨e2, (n.r.its.lt k e).2⟩
    · exact .inl (.inr (.inr (.inr e)))
  · rintro k (e | e)
    · rw [e]; exact h.xb
    · exact (h.xf.its.lt k e).1
  · rintro (e | e)
    · exact (h.ro j hj).2.1 e
    · exact (h.ro j hj).2.2 e
  · rcases n.nb j e with e2 | e2
    · exact (h.ro j hj).2.2 e2
    · have := h.lt hj; omega
theorem goneL_none {id s : Int} (h : ∀ e ∈ L, e.i ≠ id) : goneL L id s = (false, L) := by
  unfold goneL
  cases he : L[ixS L id]? with
  | none => rfl
  | some e => exact absurd (ixS_hit he) (h e (List.mem_of_getElem? he))
theorem oth_split : ∀ {L : List Se} {q : Nat} {e : Se}, (L.Pairwise fun x y => x.i ≠ y.i) → L[q]? = some e → L.take q ++ L.drop (q + 1) = oth e.i L
  | [], q, e, _, h => by simp at h
  | y :: L, 0, e, hn, h => by
    simp at h; subst h
    rw [List.pairwise_cons] at hn
    unfold oth
    rw [List.take_zero, List.nil_append, List.drop_succ_cons, List.drop_zero, List.filter_cons_of_neg (by simp)]
    exact (List.filter_eq_self.2 fun z hz => by simpa using Ne.symm (hn.1 z hz)).symm
  | y :: L, q + 1, e, hn, h => by
    rw [List.pairwise_cons] at hn
    have h' : L[q]? = some e := by simpa using h
    have hne : y.i ≠ e.i := hn.1 e (List.mem_of_getElem? h')
    have := oth_split hn.2 h'
    unfold oth at this ⊢
    rw [List.take_succ_cons, List.drop_succ_cons, List.cons_append, this, List.filter_cons_of_pos (by simpa using hne)]
theorem goneL_no {q : Nat} {e : Se} {s : Int} (hn : L.Pairwise fun x y => x.i ≠ y.i) (hq : L[q]? = some e) (hs : (e.s == s) = false) : goneL L e.i s = (false, L) := by
  unfold goneL
  rw [(fiS_some hn hq).2, hq]
  simp only
  rw [if_neg (by simpa using hs)]
theorem goneL_yes {q : Nat} {e : Se} {s : Int} (hn : L.Pairwise fun x y => x.i ≠ y.i) (hq : L[q]? = some e) (hs : (e.s == s) = true) : goneL L e.i s = (true, oth e.i L) := by
  unfold goneL
  rw [(fiS_some hn hq).2, hq]
  simp only
  rw [if_pos (by simpa using hs), oth_split hn hq]
theorem recL_none {id : Int} (h : ∀ e ∈ L, e.i ≠ id) : recL L id = (false, L) := by
  unfold recL
  cases he : L[ixS L id]? with
  | none => rfl
  | some e => exact absurd (ixS_hit he) (h e (List.mem_of_getElem? he))
theorem recL_no {q : Nat} {e : Se} (hi : Inv L) (hn : L.Pairwise fun x y => x.i ≠ y.i) (hq : L[q]? = some e) (hs : (e.s == 2 || e.s == 3) = false) : recL L e.i = (false, L) := by
  unfold recL
  rw [(fiS_some hn hq).2, hq]
  simp only
  rw [Bool.or_eq_false_iff] at hs
  have := hi e (List.mem_of_getElem? hq)
  rw [if_pos (by simp at hs; omega)]
theorem recL_yes {q : Nat} {e : Se} (hn : L.Pairwise fun x y => x.i ≠ y.i) (hq : L[q]? = some e) (hs : (e.s == 2 || e.s == 3) = true) : recL L e.i = (true, L.set q { e with s := 3 }) := by
  unfold recL
  rw [(fiS_some hn hq).2, hq]
  simp only
  rw [if_neg (by rw [Bool.or_eq_true] at hs; simp at hs; omega)]
theorem inv_oth {id : Int} (h : Inv L) : Inv (oth id L) := fun e he => h e (List.mem_filter.1 he).1
theorem inv_set {q : Nat} {e : Se} (h : Inv L) (hq : L[q]? = some e) (hs : (e.s == 2 || e.s == 3) = true) : Inv (L.set q { e with s := 3 }) := by
  intro y hy
  rcases List.mem_or_eq_of_mem_set hy with hy | rfl
  · exact h y hy
  · refine .inr ⟨.inr rfl, ?_⟩
    rcases h e (List.mem_of_getElem? hq) with ⟨h1, -⟩ | ⟨-, h2⟩
    · rw [h1] at hs; exact absurd hs (by decide)
    · exact h2
/-- What a call on both does: the program's call, then the document's. -/
def Two2 (R w W : World) (f g x : Nat) (E : Nat → Prop) (v : Value) (L : List Se) (p d : Nat) (args : List Value) (r : Value) : Prop :=
  ∃ L', Inv L' ∧ (∀ W1, Below W.heap.size W W1 → Calls Tryz.prog p (Value.pointer (some ⟨f, 0, none⟩) :: args).toArray W1 fun e w' => e = .returned r ∧ ∃ T', FB R w w' f g x E T' L' v L) ∧
    (∀ T' W1, FB R w W1 f g x E T' L' v L → Calls Tryz.prog d (Value.pointer (some ⟨x, 0, none⟩) :: args).toArray W1 fun e w' => e = .returned r ∧ ∃ v', FB R w w' f g x E T' L' v' L')
theorem two_ack (h : FB R w W f g x E T L v L) (hi : Inv L) (id : Int) : ∃ b, Two2 R w W f g x E v L 47 50 [.int .i64 id] (.bool b) := by
  have hnd := h.fs.nd
  have hl8 := h.fs.le
  rcases find_or L id with hn | ⟨q, e, hq, rfl⟩
  · refine ⟨false, L, hi, fun W1 hW => ?_, fun T' W1 h1 => ?_⟩
    · exact (ack_none' (h.ext hW).fs id hn).mono fun e w' ⟨he, s, k⟩ => ⟨he, T, (h.ext hW).prog s k⟩
    · have := xack_any h1.xf h1.bw.size hl8 id
      rw [goneL_none hn] at this
      exact this.mono fun e w' ⟨he, v', n⟩ => ⟨he, v', h1.doc n⟩
  · cases hs : e.s == 1
    · refine ⟨false, L, hi, fun W1 hW => ?_, fun T' W1 h1 => ?_⟩
      · exact (ack_no' (h.ext hW).fs hq hs).mono fun e w' ⟨he, s, k⟩ => ⟨he, T, (h.ext hW).prog s k⟩
      · have := xack_any h1.xf h1.bw.size hl8 e.i
        rw [goneL_no hnd hq hs] at this
        exact this.mono fun e w' ⟨he, v', n⟩ => ⟨he, v', h1.doc n⟩
    · refine ⟨true, oth e.i L, inv_oth hi, fun W1 hW => ?_, fun T' W1 h1 => ?_⟩
      · exact (ack_yes' (h.ext hW).fs hq hs).mono fun x w' ⟨he, T', L', hL, s, k⟩ => ⟨he, T', (h.ext hW).prog (hL ▸ s) k⟩
      · have := xack_any h1.xf h1.bw.size hl8 e.i
        rw [goneL_yes hnd hq hs] at this
        exact this.mono fun e w' ⟨he, v', n⟩ => ⟨he, v', h1.doc n⟩
theorem two_comp (h : FB R w W f g x E T L v L) (hi : Inv L) (id : Int) : ∃ b, Two2 R w W f g x E v L 48 51 [.int .i64 id] (.bool b) := by
  have hnd := h.fs.nd
  have hl8 := h.fs.le
  rcases find_or L id with hn | ⟨q, e, hq, rfl⟩
  · refine ⟨false, L, hi, fun W1 hW => ?_, fun T' W1 h1 => ?_⟩
    · exact (comp_none' (h.ext hW).fs id hn).mono fun e w' ⟨he, s, k⟩ => ⟨he, T, (h.ext hW).prog s k⟩
    · have := xcomp_any h1.xf h1.bw.size hl8 id
      rw [goneL_none hn] at this
      exact this.mono fun e w' ⟨he, v', n⟩ => ⟨he, v', h1.doc n⟩
  · cases hs : e.s == 3
    · refine ⟨false, L, hi, fun W1 hW => ?_, fun T' W1 h1 => ?_⟩
      · exact (comp_no' (h.ext hW).fs hq hs).mono fun e w' ⟨he, s, k⟩ => ⟨he, T, (h.ext hW).prog s k⟩
      · have := xcomp_any h1.xf h1.bw.size hl8 e.i
        rw [goneL_no hnd hq hs] at this
        exact this.mono fun e w' ⟨he, v', n⟩ => ⟨he, v', h1.doc n⟩
    · refine ⟨true, oth e.i L, inv_oth hi, fun W1 hW => ?_, fun T' W1 h1 => ?_⟩
      · exact (comp_yes' (h.ext hW).fs hq hs).mono fun x w' ⟨he, T', L', hL, s, k⟩ => ⟨he, T', (h.ext hW).prog (hL ▸ s) k⟩
      · have := xcomp_any h1.xf h1.bw.size hl8 e.i
        rw [goneL_yes hnd hq hs] at this
        exact this.mono fun e w' ⟨he, v', n⟩ => ⟨he, v', h1.doc n⟩
theorem two_rec (h : FB R w W f g x E T L v L) (hi : Inv L) (id : Int) : ∃ b, Two2 R w W f g x E v L 49 52 [.int .i64 id] (.bool b) := by
  have hnd := h.fs.nd
  have hl8 := h.fs.le
  rcases find_or L id with hn | ⟨q, e, hq, rfl⟩
  · refine ⟨false, L, hi, fun W1 hW => ?_, fun T' W1 h1 => ?_⟩
    · exact (rec_none' (h.ext hW).fs id hn).mono fun e w' ⟨he, s, k⟩ => ⟨he, T, (h.ext hW).prog s k⟩
    · have := xrec_any h1.xf hl8 id
      rw [recL_none hn] at this
      exact this.mono fun e w' ⟨he, v', n⟩ => ⟨he, v', h1.doc n⟩
  · cases hs : (e.s == 2 || e.s == 3)
    · refine ⟨false, L, hi, fun W1 hW => ?_, fun T' W1 h1 => ?_⟩
      · exact (rec_no' (h.ext hW).fs hq hs).mono fun e w' ⟨he, s, k⟩ => ⟨he, T, (h.ext hW).prog s k⟩
      · have := xrec_any h1.xf hl8 e.i
        rw [recL_no hi hnd hq hs] at this
        exact this.mono fun e w' ⟨he, v', n⟩ => ⟨he, v', h1.doc n⟩
    · refine ⟨true, L.set q { e with s := 3 }, inv_set hi hq hs, fun W1 hW => ?_, fun T' W1 h1 => ?_⟩
      · exact (rec_yes' (h.ext hW).fs hq hs).mono fun x w' ⟨he, T', L', hL, s, k⟩ => ⟨he, T', (h.ext hW).prog (hL ▸ s) k⟩
      · have := xrec_any h1.xf hl8 e.i
        rw [recL_yes hnd hq hs] at this
        exact this.mono fun e w' ⟨he, v', n⟩ => ⟨he, v', h1.doc n⟩
theorem FB.nothing (h : FB R w W f g x E T L v L) (hb : Below W.heap.size W W') : FB R w W' f g x E T L v L := h.ext hb
theorem two_send (h : FB R w W f g x E T L v L) (hi : Inv L) (t y : ByteArray) (q : Int) (r : Bool) : ∃ a c, Two2 R w W f g x E v L 64 68 [.agg #[.string t, .string y, .int .i64 q, .bool r]] (.tuple #[.int .i64 a, .int .i64 c]) := by
  by_cases hq : q = 1 ∨ q = 2
  · by_cases hf : L.length = 8
    · refine ⟨0, 6, L, hi, fun W1 hW => ?_, fun T' W1 h1 => ?_⟩
      · exact (send_full (h.ext hW).fs t y q r hq hf).mono fun e w' ⟨he, s, k⟩ => ⟨he, T, (h.ext hW).prog s k⟩
      · exact (xsend_full h1.xf t y q r hq hf).mono fun e w' ⟨he, b⟩ => ⟨he, v, h1.ext b⟩
    · have hl8 := h.fs.le
      have hlt : L.length < 8 := by omega
      have hT := h.fs.iff
      have hn8 : nxt T ≤ 8 := by
        obtain ⟨v0, r0, d, av⟩ := h.fs.ex
        have := d.le
        have : nxt T ≤ T.length := List.findIdx_le_length
        omega
      refine ⟨(nxt T : Int) + 1, 0, L ++ [⟨(nxt T : Int) + 1, q, t, y, q, r⟩], ?_, fun W1 hW => ?_, fun T' W1 h1 => ?_⟩
      · intro e he
        rcases List.mem_append.1 he with he | he
        · exact hi e he
        · rw [List.mem_singleton.1 he]
          rcases hq with rfl | rfl
          · exact .inl ⟨rfl, rfl⟩
          · exact .inr ⟨.inl rfl, rfl⟩
      · exact (send_ok (h.ext hW).fs t y q r hq hlt).mono fun e w' ⟨he, s, k⟩ => ⟨he, _, (h.ext hW).prog s k⟩
      · rcases hq with rfl | rfl
        · exact (xsend_ok1 h1.xf h1.bw.size t y r hlt hT hn8).mono fun e w' ⟨he, v', n⟩ => ⟨he, v', h1.doc n⟩
        · exact (xsend_ok2 h1.xf h1.bw.size t y r hlt hT hn8).mono fun e w' ⟨he, v', n⟩ => ⟨he, v', h1.doc n⟩
  · have hq' : q ≠ 1 ∧ q ≠ 2 := ⟨fun e => hq (.inl e), fun e => hq (.inr e)⟩
    refine ⟨0, 10, L, hi, fun W1 hW => ?_, fun T' W1 h1 => ?_⟩
    · exact (send_flags (h.ext hW).fs t y q r hq').mono fun e w' ⟨he, s, k⟩ => ⟨he, T, (h.ext hW).prog s k⟩
    · exact (xsend_flags h1.xf t y q r hq').mono fun e w' ⟨he, b⟩ => ⟨he, v, h1.ext b⟩
end
end Go.Proofs.YtceiipcdkonnlaaGreat.Fli
