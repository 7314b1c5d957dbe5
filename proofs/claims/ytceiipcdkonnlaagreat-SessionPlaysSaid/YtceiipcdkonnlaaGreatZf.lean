/-
  LAYER 25: both sessions: Attach, Deliver, Answer.
-/
import Derived.Test.YtceiipcdkonnlaaGreatZa
import Derived.Test.YtceiipcdkonnlaaGreatZc
namespace Go.Proofs.YtceiipcdkonnlaaGreat.Ses
open Go.RowKit Que Hp Ids Fli
set_option linter.unusedSimpArgs false
set_option linter.unusedVariables false
theorem nxt_le' {T : List Bool} {k : Nat} (h : T.getD k false = false) : nxt T ≤ k := Nat.le_of_not_lt fun e => by rw [nxt_lo e] at h; cases h
theorem nxt_same {T T2 : List Bool} (h : ∀ j : Nat, T.getD j false = T2.getD j false) : nxt T = nxt T2 :=
  Nat.le_antisymm (nxt_le' (by rw [h]; exact nxt_hi T2)) (nxt_le' (by rw [← h]; exact nxt_hi T))
theorem fl_same : ∀ (on : Bool) (l : List Mg) (T T2 : List Bool) (L : List Se), (∀ j : Nat, T.getD j false = T2.getD j false) → (fl on T L l).2 = (fl on T2 L l).2
  | on, [], T, T2, L, h => rfl
  | on, m :: r, T, T2, L, h => by
    have e := nxt_same h
    have e2 : sE T m = sE T2 m := by unfold sE; rw [e]
    have ih := fl_same on r (tk T) (tk T2) (L ++ [sE T m]) (fun j => by rw [getD_tk, getD_tk, e, h j])
    rw [e2] at ih
    simp only [fl]
    rw [e2]
    split
    · simp only [ih]
    · rfl
theorem Tk.same {T T2 : List Bool} {L : List Se} (h : Tk T L) (h2 : Tk T2 L) : ∀ j : Nat, T.getD j false = T2.getD j false := fun j => Bool.eq_iff_iff.2 ((h j).trans (h2 j).symm)
open Classical in
theorem tk_sub {T : List Bool} {L L1 : List Se} (h : Tk T L) (hs : ∀ e ∈ L1, ∃ e0 ∈ L, e0.i = e.i) : ∃ T1, Tk T1 L1 := by
  refine ⟨(List.range T.length).map fun j : Nat => decide (∃ e ∈ L1, e.i = (j : Int) + 1), fun j => ?_⟩
  by_cases hj : j < T.length
  · rw [List.getD_eq_getElem?_getD, List.getElem?_map, List.getElem?_range hj]
    simp
  · rw [List.getD_eq_getElem?_getD, List.getElem?_eq_none (by simp; omega)]
    simp only [Option.getD_none, Bool.false_eq_true, false_iff]
    rintro ⟨e, he, hi⟩
    obtain ⟨e1, h1, h2⟩ := hs e he
    have := (h j).2 ⟨e1, h1, h2.trans hi⟩
    rw [List.getD_eq_getElem?_getD, List.getElem?_eq_none (by omega)] at this
    cases this
theorem gone_ids (L : List Se) (nm s : Int) : ∀ e ∈ (goneL L nm s).2, ∃ e0 ∈ L, e0.i = e.i := by
  intro e he
  refine ⟨e, ?_, rfl⟩
  unfold goneL at he
  split at he
  · split at he
    · rcases List.mem_append.1 he with he | he
      · exact List.mem_of_mem_take he
      · exact List.mem_of_mem_drop he
    · exact he
  · exact he
theorem rec_ids (L : List Se) (nm : Int) : ∀ e ∈ (recL L nm).2, ∃ e0 ∈ L, e0.i = e.i := by
  intro e he
  unfold recL at he
  split at he
  · rename_i y hy
    split at he
    · exact ⟨e, he, rfl⟩
    · rcases List.mem_or_eq_of_mem_set he with he | rfl
      · exact ⟨e, he, rfl⟩
      · exact ⟨y, List.mem_of_getElem? hy, rfl⟩
  · exact ⟨e, he, rfl⟩
/-- What a call on both does: what is sent, and the session then; the program's call, and then the document's. -/
def TwoP (w0 : World) (a : Ad) (d : Ax) (E : Nat → Prop) (vi vq vf : Value) (cl : ByteArray) (cn : Bool) (T : List Bool) (x : PS) (cs : List Int) (n : Nat) (li : List Int) (pf df : Nat) (args : List Value) (ret : Value → Value) : Prop :=
  ∃ (l : List Pk) (p' : PS), l.length ≤ 100 ∧ Inv p'.L ∧ 0 ≤ p'.lost ∧ p'.lost ≤ x.lost + 1 ∧
    (∀ R' W1, SB R' w0 W1 a d E vi vq vf cl cn T x x cs n li → Calls Tryz.prog pf (Value.pointer (some ⟨a.s, 0, none⟩) :: args).toArray W1 fun e w' => ∃ v T', e = .returned (ret v) ∧ SB w' w0 w' a d (fun k => E k ∨ v.ownBlock = some k) vi vq vf cl cn T' p' x cs n li ∧ (∀ k, E k → w'.heap[k]? = W1.heap[k]?) ∧ w'.ownsRow 0 72 24 v l.length (pgC l)) ∧
    (∀ R' W1 F T', SB R' w0 W1 a d F vi vq vf cl cn T' p' x cs n li → Calls Tryz.prog df (Value.pointer (some ⟨d.x, 0, none⟩) :: args).toArray W1 fun e w' => ∃ v vq' vf', e = .returned (ret v) ∧ SB w' w0 w' a d (fun k => F k ∨ v.ownBlock = some k) vi vq' vf' cl cn T' p' p' cs n li ∧ (∀ k, F k → w'.heap[k]? = W1.heap[k]?) ∧ w'.ownsRow 0 72 24 v l.length (pgC l))
section
variable {R w0 W : World} {a : Ad} {d : Ax} {E : Nat → Prop} {vi vq vf : Value} {cl : ByteArray} {cn : Bool} {T : List Bool} {x : PS} {cs : List Int} {n : Nat} {li : List Int}
theorem two_attach (h : SB R w0 W a d E vi vq vf cl cn T x x cs n li) (hI : Inv x.L) (hl0 : 0 ≤ x.lost) : TwoP w0 a d E vi vq vf cl cn T x cs n li 16 19 [] id := by
  have hT : Tk T x.L := fun j => Fs.iff h.ps.fs j
  have h16 := h.ps.le
  have h8 := h.xs.l8
  have hln := fl_ln true x.l T x.L
  have hiv := inv_fl true x.l T x.L hI h.ps.ql
  obtain ⟨r1, r2, r3, r4, hr⟩ : ∃ r1 r2 r3 r4, fl true T x.L x.l = (r1, r2, r3, r4) := ⟨_, _, _, _, rfl⟩
  rw [hr] at hln hiv
  simp only at hln hiv
  refine ⟨x.L.map pkOf ++ r4.map pfOf, ⟨true, r2, r3, x.lost⟩, by simp; omega, hiv, hl0, by show x.lost ≤ x.lost + 1; omega, ?_, ?_⟩
  · intro R' W1 h1
    refine (attach h1.ps h1.hAS).mono ?_
    rintro e w' ⟨v, T', L', l', P, rfl, s, k, o, he⟩
    rw [hr] at he
    simp only [Prod.mk.injEq] at he
    obtain ⟨-, rfl, rfl, rfl⟩ := he
    obtain ⟨S, K⟩ := h1.prog s k (fun j hj => o.lt j hj)
    exact ⟨v, T', rfl, S, K, by rw [← both_pg, List.length_append, List.length_map, List.length_map]; exact own_base o (Nat.zero_le _)⟩
  · intro R' W1 F T' h1
    refine (xattach h1.mx hT SB.hMX).mono ?_
    rintro e w' ⟨v, vq', vf', T2, L', l', P, rfl, s, -, k, o, he⟩
    rw [hr] at he
    simp only [Prod.mk.injEq] at he
    obtain ⟨-, rfl, rfl, rfl⟩ := he
    obtain ⟨S, K⟩ := h1.doc s k (fun j hj => o.lt j hj)
    exact ⟨v, vq', vf', rfl, S, K, by rw [← both_pg, List.length_append, List.length_map, List.length_map]; exact own_base o (Nat.zero_le _)⟩
theorem two_deliver (h : SB R w0 W a d E vi vq vf cl cn T x x cs n li) (hI : Inv x.L) (hl0 : 0 ≤ x.lost) (hl1 : x.lost ≤ 1000000) (t y : ByteArray) (q qos : Int) (r : Bool) : ∃ kept, TwoP w0 a d E vi vq vf cl cn T x cs n li 15 21 [.agg #[.string t, .string y, .int .i64 q, .bool r], .int .i64 qos] (fun v => .tuple #[v, .bool kept]) := by
  have hT : Tk T x.L := fun j => Fs.iff h.ps.fs j
  have h16 := h.ps.le
  by_cases hR : dq q qos = 0
  · refine ⟨x.on, (if x.on = true then [e0 t y r] else []).map pfOf, x, by split <;> simp, hI, hl0, by omega, ?_, ?_⟩
    · intro R' W1 h1
      refine (deliver_g h1.ps t y q qos r hl0 hl1 h1.hAS).mono ?_
      rintro e w' ⟨v, T', L', l', P, kept, lost', rfl, s, k, o, hz, -⟩
      obtain ⟨rfl, rfl, rfl, rfl, rfl, rfl⟩ := hz hR
      obtain ⟨S, K⟩ := h1.prog s k (fun j hj => o.lt j hj)
      exact ⟨v, _, rfl, S, K, by rw [← pfC_pg]; simpa using own_base o (Nat.zero_le _)⟩
    · intro R' W1 F T' h1
      refine (xdeliver h1.mx hT t y q qos r hl0 hl1 SB.hMX).mono ?_
      rintro e w' ⟨v, vq', vf', T2, L', l', P, kept, lost', rfl, s, -, k, o, hz, -⟩
      obtain ⟨rfl, rfl, rfl, rfl, rfl, rfl⟩ := hz hR
      obtain ⟨S, K⟩ := h1.doc s k (fun j hj => o.lt j hj)
      exact ⟨v, vq', vf', rfl, S, K, by rw [← pfC_pg]; simpa using own_base o (Nat.zero_le _)⟩
  · have hq : dq q qos = 1 ∨ dq q qos = 2 := by unfold dq at hR ⊢; omega
    obtain ⟨l1, hl1d⟩ : ∃ l1, l1 = if x.l.length < 16 then x.l ++ [⟨t, y, dq q qos, r⟩] else x.l := ⟨_, rfl⟩
    obtain ⟨lo, hlo⟩ : ∃ lo, lo = if x.l.length < 16 then x.lost else x.lost + 1 := ⟨_, rfl⟩
    have hlen1 : l1.length ≤ 16 := by
      rw [hl1d]
      split
      · rw [List.length_append, List.length_singleton]; omega
      · exact h16
    have hq1 : ∀ m ∈ l1, m.a2 = 1 ∨ m.a2 = 2 := by
      intro m hm
      rw [hl1d] at hm
      split at hm
      · rcases List.mem_append.1 hm with hm | hm
        · exact h.ps.ql m hm
        · rw [List.mem_singleton.1 hm]; exact hq
      · exact h.ps.ql m hm
    have hln := fl_ln x.on l1 T x.L
    have hiv := inv_fl x.on l1 T x.L hI hq1
    obtain ⟨r1, r2, r3, r4, hr⟩ : ∃ r1 r2 r3 r4, fl x.on T x.L l1 = (r1, r2, r3, r4) := ⟨_, _, _, _, rfl⟩
    rw [hr] at hln hiv
    simp only at hln hiv
    refine ⟨decide (x.l.length < 16), r4.map pfOf, ⟨x.on, r2, r3, lo⟩, by simp; omega, hiv, by show 0 ≤ lo; rw [hlo]; split <;> omega, by show lo ≤ x.lost + 1; rw [hlo]; split <;> omega, ?_, ?_⟩
    · intro R' W1 h1
      refine (deliver_g h1.ps t y q qos r hl0 hl1 h1.hAS).mono ?_
      rintro e w' ⟨v, T', L', l', P, kept, lost', rfl, s, k, o, -, hz⟩
      obtain ⟨rfl, rfl, he⟩ := hz hR
      rw [← hl1d, hr] at he
      simp only [Prod.mk.injEq] at he
      obtain ⟨-, rfl, rfl, rfl⟩ := he
      rw [← hlo] at s
      obtain ⟨S, K⟩ := h1.prog s k (fun j hj => o.lt j hj)
      exact ⟨v, T', rfl, S, K, by rw [← pfC_pg]; simpa using own_base o (Nat.zero_le _)⟩
    · intro R' W1 F T' h1
      refine (xdeliver h1.mx hT t y q qos r hl0 hl1 SB.hMX).mono ?_
      rintro e w' ⟨v, vq', vf', T2, L', l', P, kept, lost', rfl, s, -, k, o, -, hz⟩
      obtain ⟨rfl, rfl, he⟩ := hz hR
      rw [← hl1d, hr] at he
      simp only [Prod.mk.injEq] at he
      obtain ⟨-, rfl, rfl, rfl⟩ := he
      rw [← hlo] at s
      obtain ⟨S, K⟩ := h1.doc s k (fun j hj => o.lt j hj)
      exact ⟨v, vq', vf', rfl, S, K, by rw [← pfC_pg]; simpa using own_base o (Nat.zero_le _)⟩
theorem two_ack4 (h : SB R w0 W a d E vi vq vf cl cn T x x cs n li) (hon : x.on = true) (hI : Inv x.L) (hl0 : 0 ≤ x.lost) (nm : Int) : TwoP w0 a d E vi vq vf cl cn T x cs n li 22 23 [.int .i64 4, .int .i64 nm] id := by
  have hnd := h.ps.fs.nd
  have hT : Tk T x.L := fun j => Fs.iff h.ps.fs j
  have h16 := h.ps.le
  obtain ⟨T1, hT1⟩ := tk_sub (L1 := (goneL x.L nm 1).2) hT (gone_ids x.L nm 1)
  have hln := fl_ln true x.l T1 (goneL x.L nm 1).2
  have hiv := inv_fl true x.l T1 (goneL x.L nm 1).2 (inv_gone hI nm 1) h.ps.ql
  obtain ⟨r1, r2, r3, r4, hr⟩ : ∃ r1 r2 r3 r4, fl true T1 (goneL x.L nm 1).2 x.l = (r1, r2, r3, r4) := ⟨_, _, _, _, rfl⟩
  rw [hr] at hln hiv
  simp only at hln hiv
  refine ⟨([] : List Se).map pkOf ++ r4.map pfOf, ⟨true, r2, r3, x.lost⟩, by simp; omega, hiv, hl0, by show x.lost ≤ x.lost + 1; omega, ?_, ?_⟩
  · intro R' W1 h1
    have H := ans_ackG (by have := h1.ps; rw [hon] at this; exact this) h1.hAS nm
    refine H.mono ?_
    rintro e w' ⟨v, T2, T', L', l', P, rfl, s, k, o, he, t1⟩
    have hs := fl_same true x.l T2 T1 (goneL x.L nm 1).2 (t1.same hT1)
    rw [he, hr] at hs
    simp only [Prod.mk.injEq] at hs
    obtain ⟨rfl, rfl, rfl⟩ := hs
    obtain ⟨S, K⟩ := h1.prog s k (fun j hj => o.lt j hj)
    exact ⟨v, T', rfl, S, K, by rw [← both_pg, List.length_append, List.length_map, List.length_map]; exact own_base o (Nat.zero_le _)⟩
  · intro R' W1 F T' h1
    have H := xans_ack (by have := h1.mx; rw [hon] at this; exact this) SB.hMX nm hT1
    refine H.mono ?_
    rintro e w' ⟨v, vq', vf', T2, L', l', P, rfl, s, -, k, o, he⟩
    rw [hr] at he
    simp only [Prod.mk.injEq] at he
    obtain ⟨-, rfl, rfl, rfl⟩ := he
    obtain ⟨S, K⟩ := h1.doc s k (fun j hj => o.lt j hj)
    exact ⟨v, vq', vf', rfl, S, K, by rw [← both_pg, List.length_append, List.length_map, List.length_map]; exact own_base o (Nat.zero_le _)⟩
theorem two_comp7 (h : SB R w0 W a d E vi vq vf cl cn T x x cs n li) (hon : x.on = true) (hI : Inv x.L) (hl0 : 0 ≤ x.lost) (nm : Int) : TwoP w0 a d E vi vq vf cl cn T x cs n li 22 23 [.int .i64 7, .int .i64 nm] id := by
  have hnd := h.ps.fs.nd
  have hT : Tk T x.L := fun j => Fs.iff h.ps.fs j
  have h16 := h.ps.le
  obtain ⟨T1, hT1⟩ := tk_sub (L1 := (goneL x.L nm 3).2) hT (gone_ids x.L nm 3)
  have hln := fl_ln true x.l T1 (goneL x.L nm 3).2
  have hiv := inv_fl true x.l T1 (goneL x.L nm 3).2 (inv_gone hI nm 3) h.ps.ql
  obtain ⟨r1, r2, r3, r4, hr⟩ : ∃ r1 r2 r3 r4, fl true T1 (goneL x.L nm 3).2 x.l = (r1, r2, r3, r4) := ⟨_, _, _, _, rfl⟩
  rw [hr] at hln hiv
  simp only at hln hiv
  refine ⟨([] : List Se).map pkOf ++ r4.map pfOf, ⟨true, r2, r3, x.lost⟩, by simp; omega, hiv, hl0, by show x.lost ≤ x.lost + 1; omega, ?_, ?_⟩
  · intro R' W1 h1
    have H := ans_compG (by have := h1.ps; rw [hon] at this; exact this) h1.hAS nm
    refine H.mono ?_
    rintro e w' ⟨v, T2, T', L', l', P, rfl, s, k, o, he, t1⟩
    have hs := fl_same true x.l T2 T1 (goneL x.L nm 3).2 (t1.same hT1)
    rw [he, hr] at hs
    simp only [Prod.mk.injEq] at hs
    obtain ⟨rfl, rfl, rfl⟩ := hs
    obtain ⟨S, K⟩ := h1.prog s k (fun j hj => o.lt j hj)
    exact ⟨v, T', rfl, S, K, by rw [← both_pg, List.length_append, List.length_map, List.length_map]; exact own_base o (Nat.zero_le _)⟩
  · intro R' W1 F T' h1
    have H := xans_comp (by have := h1.mx; rw [hon] at this; exact this) SB.hMX nm hT1
    refine H.mono ?_
    rintro e w' ⟨v, vq', vf', T2, L', l', P, rfl, s, -, k, o, he⟩
    rw [hr] at he
    simp only [Prod.mk.injEq] at he
    obtain ⟨-, rfl, rfl, rfl⟩ := he
    obtain ⟨S, K⟩ := h1.doc s k (fun j hj => o.lt j hj)
    exact ⟨v, vq', vf', rfl, S, K, by rw [← both_pg, List.length_append, List.length_map, List.length_map]; exact own_base o (Nat.zero_le _)⟩
theorem two_rec5 (h : SB R w0 W a d E vi vq vf cl cn T x x cs n li) (hon : x.on = true) (hI : Inv x.L) (hl0 : 0 ≤ x.lost) (nm : Int) (hr1 : (recL x.L nm).1 = true) : TwoP w0 a d E vi vq vf cl cn T x cs n li 22 23 [.int .i64 5, .int .i64 nm] id := by
  have hnd := h.ps.fs.nd
  have hT : Tk T x.L := fun j => Fs.iff h.ps.fs j
  have h16 := h.ps.le
  obtain ⟨T1, hT1⟩ := tk_sub (L1 := (recL x.L nm).2) hT (rec_ids x.L nm)
  have hln := fl_ln true x.l T1 (recL x.L nm).2
  have hiv := inv_fl true x.l T1 (recL x.L nm).2 (inv_rec hI hnd nm) h.ps.ql
  obtain ⟨r1, r2, r3, r4, hr⟩ : ∃ r1 r2 r3 r4, fl true T1 (recL x.L nm).2 x.l = (r1, r2, r3, r4) := ⟨_, _, _, _, rfl⟩
  rw [hr] at hln hiv
  simp only at hln hiv
  refine ⟨[rl nm].map pkOf ++ r4.map pfOf, ⟨true, r2, r3, x.lost⟩, by simp; omega, hiv, hl0, by show x.lost ≤ x.lost + 1; omega, ?_, ?_⟩
  · intro R' W1 h1
    have H := ans_recG (by have := h1.ps; rw [hon] at this; exact this) h1.hAS hI nm hr1
    refine H.mono ?_
    rintro e w' ⟨v, T2, T', L', l', P, rfl, s, k, o, he, t1⟩
    have hs := fl_same true x.l T2 T1 (recL x.L nm).2 (t1.same hT1)
    rw [he, hr] at hs
    simp only [Prod.mk.injEq] at hs
    obtain ⟨rfl, rfl, rfl⟩ := hs
    obtain ⟨S, K⟩ := h1.prog s k (fun j hj => o.lt j hj)
    exact ⟨v, T', rfl, S, K, by rw [← both_pg, List.length_append, List.length_map, List.length_map]; exact own_base o (Nat.zero_le _)⟩
  · intro R' W1 F T' h1
    have H := xans_rec (by have := h1.mx; rw [hon] at this; exact this) SB.hMX nm hT1 hr1
    refine H.mono ?_
    rintro e w' ⟨v, vq', vf', T2, L', l', P, rfl, s, -, k, o, he⟩
    rw [hr] at he
    simp only [Prod.mk.injEq] at he
    obtain ⟨-, rfl, rfl, rfl⟩ := he
    obtain ⟨S, K⟩ := h1.doc s k (fun j hj => o.lt j hj)
    exact ⟨v, vq', vf', rfl, S, K, by rw [← both_pg, List.length_append, List.length_map, List.length_map]; exact own_base o (Nat.zero_le _)⟩
theorem two_rec5n (h : SB R w0 W a d E vi vq vf cl cn T x x cs n li) (hon : x.on = true) (hI : Inv x.L) (hl0 : 0 ≤ x.lost) (nm : Int) (hr1 : (recL x.L nm).1 = false) : TwoP w0 a d E vi vq vf cl cn T x cs n li 22 23 [.int .i64 5, .int .i64 nm] id := by
  have hnd := h.ps.fs.nd
  have hT : Tk T x.L := fun j => Fs.iff h.ps.fs j
  have h16 := h.ps.le
  obtain ⟨T1, hT1⟩ := tk_sub (L1 := (recL x.L nm).2) hT (rec_ids x.L nm)
  have hln := fl_ln true x.l T1 (recL x.L nm).2
  have hiv := inv_fl true x.l T1 (recL x.L nm).2 (inv_rec hI hnd nm) h.ps.ql
  obtain ⟨r1, r2, r3, r4, hr⟩ : ∃ r1 r2 r3 r4, fl true T1 (recL x.L nm).2 x.l = (r1, r2, r3, r4) := ⟨_, _, _, _, rfl⟩
  rw [hr] at hln hiv
  simp only at hln hiv
  refine ⟨([] : List Se).map pkOf ++ r4.map pfOf, ⟨true, r2, r3, x.lost⟩, by simp; omega, hiv, hl0, by show x.lost ≤ x.lost + 1; omega, ?_, ?_⟩
  · intro R' W1 h1
    have H := ans_recN (by have := h1.ps; rw [hon] at this; exact this) h1.hAS hI nm hr1
    refine H.mono ?_
    rintro e w' ⟨v, T2, T', L', l', P, rfl, s, k, o, he, t1⟩
    have hs := fl_same true x.l T2 T1 (recL x.L nm).2 (t1.same hT1)
    rw [he, hr] at hs
    simp only [Prod.mk.injEq] at hs
    obtain ⟨rfl, rfl, rfl⟩ := hs
    obtain ⟨S, K⟩ := h1.prog s k (fun j hj => o.lt j hj)
    exact ⟨v, T', rfl, S, K, by rw [← both_pg, List.length_append, List.length_map, List.length_map]; exact own_base o (Nat.zero_le _)⟩
  · intro R' W1 F T' h1
    have H := xans_recN (by have := h1.mx; rw [hon] at this; exact this) SB.hMX nm hT1 hr1
    refine H.mono ?_
    rintro e w' ⟨v, vq', vf', T2, L', l', P, rfl, s, -, k, o, he⟩
    rw [hr] at he
    simp only [Prod.mk.injEq] at he
    obtain ⟨-, rfl, rfl, rfl⟩ := he
    obtain ⟨S, K⟩ := h1.doc s k (fun j hj => o.lt j hj)
    exact ⟨v, vq', vf', rfl, S, K, by rw [← both_pg, List.length_append, List.length_map, List.length_map]; exact own_base o (Nat.zero_le _)⟩
theorem two_still (h : SB R w0 W a d E vi vq vf cl cn T x x cs n li) (hI : Inv x.L) (hl0 : 0 ≤ x.lost) (K nm : Int) (hp : ∀ R' W1, SB R' w0 W1 a d E vi vq vf cl cn T x x cs n li → Calls Tryz.prog 22 #[.pointer (some ⟨a.s, 0, none⟩), .int .i64 K, .int .i64 nm] W1 fun e w' => e = .returned (.slice none 0 0) ∧ W1 = w')
    (hx : ∀ R' W1 F T', SB R' w0 W1 a d F vi vq vf cl cn T' x x cs n li → Calls Tryz.prog 23 #[.pointer (some ⟨d.x, 0, none⟩), .int .i64 K, .int .i64 nm] W1 fun e w' => e = .returned (.slice none 0 0) ∧ W1 = w') : TwoP w0 a d E vi vq vf cl cn T x cs n li 22 23 [.int .i64 K, .int .i64 nm] id := by
  refine ⟨[], x, by simp, hI, hl0, by omega, ?_, ?_⟩
  · intro R' W1 h1
    refine (hp R' W1 h1).mono ?_
    rintro e w' ⟨rfl, rfl⟩
    exact ⟨_, T, rfl, (h1.here.more (F := fun k => (Value.slice none 0 0).ownBlock = some k) (Below.refl _ _) (fun k e => by cases e)), fun _ _ => rfl, World.ownsRow_nil _ _ _ _⟩
  · intro R' W1 F T' h1
    refine (hx R' W1 F T' h1).mono ?_
    rintro e w' ⟨rfl, rfl⟩
    exact ⟨_, vq, vf, rfl, (h1.here.more (F := fun k => (Value.slice none 0 0).ownBlock = some k) (Below.refl _ _) (fun k e => by cases e)), fun _ _ => rfl, World.ownsRow_nil _ _ _ _⟩
theorem two_answer (h : SB R w0 W a d E vi vq vf cl cn T x x cs n li) (hI : Inv x.L) (hl0 : 0 ≤ x.lost) (K nm : Int) : TwoP w0 a d E vi vq vf cl cn T x cs n li 22 23 [.int .i64 K, .int .i64 nm] id := by
  cases hon : x.on with
  | false =>
    refine two_still h hI hl0 K nm (fun R' W1 h1 => ?_) (fun R' W1 F T' h1 => ?_)
    · have := h1.ps; rw [hon] at this; exact ans_off this K nm
    · have := h1.xs; rw [hon] at this; exact xans_off this K nm
  | true =>
    by_cases h4 : K = 4
    · subst h4; exact two_ack4 h hon hI hl0 nm
    by_cases h7 : K = 7
    · subst h7; exact two_comp7 h hon hI hl0 nm
    by_cases h5 : K = 5
    · subst h5
      cases hr : (recL x.L nm).1 with
      | true => exact two_rec5 h hon hI hl0 nm hr
      | false => exact two_rec5n h hon hI hl0 nm hr
    refine two_still h hI hl0 K nm (fun R' W1 h1 => ?_) (fun R' W1 F T' h1 => ?_)
    · have := h1.ps; rw [hon] at this; exact ans_other this h1.hAS K nm ⟨h4, h7, h5⟩
    · have := h1.xs; rw [hon] at this; exact xans_other this K nm ⟨h4, h7, h5⟩
end
end Go.Proofs.YtceiipcdkonnlaaGreat.Ses
