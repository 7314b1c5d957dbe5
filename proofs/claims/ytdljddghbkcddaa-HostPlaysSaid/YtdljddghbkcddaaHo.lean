/-
  LAYER 34: both hosts: each takes what the other takes.
-/
import Derived.Test.YtdljddghbkcddaaHn
import Derived.Test.YtdljddghbkcddaaStr
namespace Go.Proofs.Ytdljddghbkcddaa.Hst
open Go.RowKit Go.Maps Go.WideMaps
theorem toList_inj {a b : ByteArray} (h : a.toList = b.toList) : a = b := by
  rw [ByteArray.toList_eq, ByteArray.toList_eq] at h
  cases a; cases b; simp only [Array.toList_inj] at h; rw [h]
theorem idx_none {k : ByteArray} : ∀ {l : List Host}, idx k l = none → Not l k
  | [], _ => fun e he => by cases he
  | x :: r, h => by
    unfold idx at h
    split at h
    · cases h
    · rename_i hne
      have := idx_none (l := r) (by simpa using h)
      intro e he
      rcases List.mem_cons.1 he with rfl | he
      · exact fun e2 => hne (by rw [e2])
      · exact this e he
theorem RiseS.px {L : List Host} (hs : RiseS L) {j : Nat} {e : Host} (he : L[j]? = some e) : px L e.1 = j := by
  have hj := (List.getElem?_eq_some_iff.1 he).1
  have hpw := List.pairwise_iff_getElem.1 hs
  rcases Nat.lt_trichotomy (Hst.px L e.1) j with h | h | h
  · obtain ⟨y, hy⟩ : ∃ y, L[Hst.px L e.1]? = some y := ⟨_, List.getElem?_eq_getElem (by omega)⟩
    have h1 := px_hit hy
    have h2 := hpw _ _ (by omega) hj h
    rw [(List.getElem?_eq_some_iff.1 hy).2, (List.getElem?_eq_some_iff.1 he).2] at h2
    rw [lt_list, decide_eq_false_iff_not] at h1
    exact absurd h2 h1
  · exact h
  · have h1 := px_lo h he
    rw [lt_list, decide_eq_true_eq] at h1
    exact absurd h1 (List.lt_irrefl _)
theorem RiseS.nd {L : List Host} (hs : RiseS L) : L.Pairwise fun a b => a.1 ≠ b.1 :=
  List.Pairwise.imp (R := fun a b : Host => a.1.toList < b.1.toList) (S := fun a b : Host => a.1 ≠ b.1) (fun {a b} hab e => by rw [e] at hab; exact List.lt_irrefl _ hab) hs
def upd (L : List Host) (k : ByteArray) (on : Bool) : List Host := L.map fun y => if y.1 = k then (k, on) else y
theorem upd_set : ∀ {L : List Host}, (L.Pairwise fun a b => a.1 ≠ b.1) → ∀ {i : Nat} {e : Host} (on : Bool), L[i]? = some e → L.set i (e.1, on) = upd L e.1 on
  | [], _, i, e, on, h => by simp at h
  | y :: L, hn, i, e, on, h => by
    rw [List.pairwise_cons] at hn
    cases i with
    | zero =>
      simp at h; subst h
      have : L.map (fun z => if z.1 = y.1 then (y.1, on) else z) = L := by
        have e2 : L.map (fun z => if z.1 = y.1 then (y.1, on) else z) = L.map id := List.map_congr_left fun z hz => by
          have hzy : ¬ z.1 = y.1 := fun e => hn.1 z hz e.symm
          rw [if_neg hzy]; rfl
        rw [e2, List.map_id]
      unfold upd
      rw [List.set_cons_zero, List.map_cons, if_pos rfl, this]
    | succ i =>
      have h' : L[i]? = some e := by simpa using h
      have hne : y.1 ≠ e.1 := hn.1 e (List.mem_of_getElem? h')
      unfold upd
      rw [List.set_cons_succ, List.map_cons, if_neg hne]
      rw [upd_set hn.2 on h']
      rfl
theorem rise_set {L : List Host} (hs : RiseS L) {i : Nat} {e : Host} (he : L[i]? = some e) (on : Bool) : RiseS (L.set i (e.1, on)) := by
  have hk : (L.set i (e.1, on)).map Prod.fst = L.map Prod.fst := by
    rw [List.map_set]
    apply List.ext_getElem?
    intro j
    by_cases h : i = j
    · subst h
      rw [List.getElem?_set_self (by simpa using (List.getElem?_eq_some_iff.1 he).1), List.getElem?_map, he]; rfl
    · rw [List.getElem?_set_ne h]
  have h1 : (L.map Prod.fst).Pairwise (fun a b : ByteArray => a.toList < b.toList) := List.pairwise_map.2 hs
  rw [← hk] at h1
  exact (List.pairwise_map (f := Prod.fst) (R := fun a b : ByteArray => a.toList < b.toList)).1 h1
theorem lt_tri {a b : List UInt8} (h : ¬ a < b) (hne : a ≠ b) : b < a := by
  apply Classical.byContradiction
  intro h2
  exact hne (List.le_antisymm (List.not_lt.1 h2) (List.not_lt.1 h))
theorem rise_ins {L : List Host} (hs : RiseS L) {k : ByteArray} (hno : Not L k) (on : Bool) : RiseS (ins L k on) := by
  have hpw := List.pairwise_iff_getElem.1 hs
  have hpl : px L k ≤ L.length := List.findIdx_le_length
  have A : ∀ a ∈ L.take (px L k), a.1.toList < k.toList := by
    intro a ha
    obtain ⟨j, hj⟩ := List.mem_iff_getElem?.1 ha
    have hjp : j < px L k := by have := (List.getElem?_eq_some_iff.1 hj).1; rw [List.length_take] at this; omega
    rw [List.getElem?_take, if_pos hjp] at hj
    have := px_lo hjp hj
    rw [lt_list, decide_eq_true_eq] at this
    exact this
  have C : ∀ b ∈ L.drop (px L k), k.toList < b.1.toList := by
    intro b hb
    obtain ⟨j, hj⟩ := List.mem_iff_getElem?.1 hb
    rw [List.getElem?_drop] at hj
    have hlt := (List.getElem?_eq_some_iff.1 hj).1
    obtain ⟨y, hy⟩ : ∃ y, L[px L k]? = some y := ⟨_, List.getElem?_eq_getElem (by omega)⟩
    have h1 := px_hit hy
    rw [lt_list, decide_eq_false_iff_not] at h1
    have h2 : k.toList < y.1.toList := lt_tri h1 (fun e => hno y (List.mem_of_getElem? hy) (toList_inj e))
    cases j with
    | zero =>
      rw [Nat.add_zero] at hj
      rw [hy] at hj
      cases hj
      exact h2
    | succ j =>
      have h3 := hpw (px L k) (px L k + (j + 1)) (by omega) hlt (by omega)
      rw [(List.getElem?_eq_some_iff.1 hy).2, (List.getElem?_eq_some_iff.1 hj).2] at h3
      exact List.lt_trans h2 h3
  unfold RiseS ins
  rw [List.append_assoc, List.pairwise_append]
  refine ⟨List.Pairwise.sublist (List.take_sublist _ _) hs, ?_, ?_⟩
  · rw [List.singleton_append, List.pairwise_cons]
    exact ⟨C, List.Pairwise.sublist (List.drop_sublist _ _) hs⟩
  · intro a ha b hb
    rcases List.mem_append.1 hb with hb | hb
    · rw [List.mem_singleton.1 hb]; exact A a ha
    · exact List.lt_trans (A a ha) (C b hb)
theorem ins_perm (L : List Host) (k : ByteArray) (on : Bool) : (ins L k on).Perm (L ++ [(k, on)]) := by
  unfold ins
  have h1 : (L.take (px L k) ++ [(k, on)] ++ L.drop (px L k)).Perm (L.take (px L k) ++ L.drop (px L k) ++ [(k, on)]) := by
    rw [List.append_assoc, List.append_assoc]
    exact List.Perm.append_left _ List.perm_append_comm
  rwa [List.take_append_drop] at h1
/-- Sorted, there is but one order. -/
theorem rise_uniq {l L : List Host} (hl : Rise l) (hs : RiseS L) (p : l.Perm L) : l = L := by
  refine List.Perm.eq_of_pairwise (le := fun x y : Host => ¬ y.1.toList < x.1.toList) (fun a b ha hb h1 h2 => ?_) hl ?_ p
  · have ha' := p.mem_iff.1 ha
    obtain ⟨i, hi⟩ := List.mem_iff_getElem?.1 ha'
    obtain ⟨j, hj⟩ := List.mem_iff_getElem?.1 hb
    have e : a.1 = b.1 := toList_inj (List.le_antisymm (List.not_lt.1 h1) (List.not_lt.1 h2))
    have e1 := hs.px hi
    have e2 := hs.px hj
    rw [e] at e1
    rw [e1] at e2
    subst e2
    rw [hi] at hj
    exact Option.some.inj hj
  · exact List.Pairwise.imp (R := fun a b : Host => a.1.toList < b.1.toList) (S := fun x y : Host => ¬ y.1.toList < x.1.toList) (fun {a b} hab h => List.lt_irrefl _ (List.lt_trans hab h)) hs
/-- Both hosts. -/
structure HR (w W : World) (g m n : Nat) (kn : List Host) (D : DataW Unit) (x : Nat) (v : Value) (L : List Host) : Prop where
  hs : Hs W g m n kn D
  xh : Xh w.heap.size W x v L
  bw : Below w.heap.size w W
  p : L.Perm (kn.take n)
  s : RiseS L
  bg : w.heap.size ≤ g
  bm : w.heap.size ≤ m
  bx : w.heap.size ≤ x
  nl : L = [] → v = .slice none 0 0
section
variable {w W W' : World} {g m n : Nat} {kn : List Host} {D : DataW Unit} {x : Nat} {v : Value} {L : List Host}
theorem HR.len (h : HR w W g m n kn D x v L) : L.length = n ∧ n ≤ 4 := by
  have h1 := h.p.length_eq
  have h2 := h.hs.len
  have h3 := h.hs.le
  rw [List.length_take] at h1
  omega
theorem HR.ext (h : HR w W g m n kn D x v L) (hb : Below W.heap.size W W') : HR w W' g m n kn D x v L :=
  ⟨h.hs.keep hb, h.xh.keep hb, h.bw.trans (hb.mono h.bw.size), h.p, h.s, h.bg, h.bm, h.bx, h.nl⟩
/-- The program has taken; the document has not yet. -/
structure HM (w W : World) (g m n : Nat) (kn : List Host) (D : DataW Unit) (x : Nat) (v : Value) (L : List Host) : Prop where
  hs : Hs W g m n kn D
  xh : Xh w.heap.size W x v L
  bw : Below w.heap.size w W
theorem HM.ext (h : HM w W g m n kn D x v L) (hb : Below W.heap.size W W') : HM w W' g m n kn D x v L := ⟨h.hs.keep hb, h.xh.keep hb, h.bw.trans (hb.mono h.bw.size)⟩
theorem Xh.kg {B : Nat} (h : Xh B W x v L) (hs : Hs W g m n kn D) (k : Kg g m W W') : Xh B W' x v L := by
  have hx1 : x ≠ g := fun e => by have := h.row; rw [e, hs.row] at this; simp at this
  have hx2 : x ≠ m := by
    rintro rfl
    obtain ⟨es, clock, hm, -⟩ := hs.map
    have := h.row
    rw [hm] at this
    cases this
  refine ⟨(k.2 x h.lt hx1 hx2).trans h.row, h.its.1, h.its.2.imp id ?_⟩
  rintro ⟨g', cap, cur, hv, hB, hcur, rest⟩
  have h1 : g' ≠ g := fun e => by rw [e, hs.row] at hcur; simp at hcur
  have h2 : g' ≠ m := by
    rintro rfl
    obtain ⟨es, clock, hm, -⟩ := hs.map
    rw [hm] at hcur
    cases hcur
  exact ⟨g', cap, cur, hv, hB, (k.2 g' (Array.getElem?_eq_some_iff.1 hcur).1 h1 h2).trans hcur, rest⟩
theorem Hs.nw {B : Nat} {v' : Value} {L' : List Host} (hs : Hs W g m n kn D) (h : Xh B W x v L) (k : XNw B W W' x v L' v') : Hs W' g m n kn D := by
  have hx1 : g ≠ x := fun e => by have := h.row; rw [← e, hs.row] at this; simp at this
  have hx2 : m ≠ x := by
    rintro rfl
    obtain ⟨es, clock, hm, -⟩ := hs.map
    have := h.row
    rw [hm] at this
    cases this
  have ho : ∀ q, (∃ o, W.heap[q]? = some o ∧ ∀ cs, o ≠ .cells cs 63 (0, 0)) → v.ownBlock ≠ some q := by
    rintro q ⟨o, ho, hne⟩ e
    rcases h.its.2 with ⟨rfl, -⟩ | ⟨g', cap, cur, rfl, _, hcur, _⟩
    · simp [Value.ownBlock] at e
    · obtain rfl : g' = q := by simpa [Value.ownBlock] using e
      rw [ho] at hcur
      exact hne _ (Option.some.inj hcur)
  have hm1 := hs.map
  obtain ⟨es, clock, hm, rest⟩ := hm1
  refine ⟨(k.blk g hs.lt hx1 (ho g ⟨_, hs.row, fun cs e => by simp at e⟩)).trans hs.row, hs.len, hs.le, ⟨es, clock, (k.blk m (Array.getElem?_eq_some_iff.1 hm).1 hx2 (ho m ⟨_, hm, fun cs e => by cases e⟩)).trans hm, rest⟩, hs.size, hs.ne, hs.rd⟩
theorem HM.nw {v' : Value} {L' : List Host} (h : HM w W g m n kn D x v L) (bx : w.heap.size ≤ x) (k : XNw w.heap.size W W' x v L' v') : HM w W' g m n kn D x v' L' := by
  refine ⟨h.hs.nw h.xh k, k.r, ⟨k.io.1.trans h.bw.os, k.io.2.1.trans h.bw.tape, k.io.2.2.trans h.bw.output, Nat.le_trans h.bw.size k.size, fun q hq => ?_⟩⟩
  have := h.bw.size
  refine (k.blk q (by omega) (by omega) (fun e => ?_)).trans (h.bw.block q hq)
  have := (h.xh.its.lt q e).1
  omega
end
end Go.Proofs.Ytdljddghbkcddaa.Hst
