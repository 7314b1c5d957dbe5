/-
  LAYER 27: what a store holds, and what is picked of it, plain.
-/
import Derived.Test.YtfdaooaooalknaaPa
import Derived.Test.YtfdaooaooalknaaRe
namespace Go.Proofs.Ytfdaooaooalknaa
set_option linter.unusedVariables false
set_option linter.unusedSimpArgs false
open Go.RowKit Go.Maps Go.WideMaps
theorem kS_inj {a b : ByteArray} (h : kS a = kS b) : a = b := by
  by_cases e : a = b
  · exact e
  · exact absurd h (kS_ne e)
theorem name_small {t : ByteArray} (h : nameB t = true) : t.size ≤ 96 := by
  unfold nameB fitsB at h
  simp at h
  omega
/-- Each entry is a message that was let stay, and there are so many. -/
structure Good (D : DataW Value) : Prop where
  ent : ∀ k, has D k = true → ∃ t x q, k = kS t ∧ nameB t = true ∧ x.size ≠ 0 ∧ ∀ z, D.atKey k z = .held (mV t x q true)
  le : size D ≤ 32
theorem good_start : Good (.map []) := ⟨fun k hk => by simp [has] at hk, by simp [size]⟩
theorem good_keep {D : DataW Value} (h : Good D) (ht : Tidy D) (t x : ByteArray) (q : Int) : Good (kD D t x q) := by
  unfold kD
  by_cases h1 : nameB t = false
  · rw [if_pos h1]; exact h
  rw [if_neg h1]
  by_cases h2 : x.size = 0
  · rw [if_pos h2]
    refine ⟨fun k hk => ?_, ?_⟩
    · by_cases e : k = kS t
      · subst e
        rw [has_del_same] at hk; cases hk
      · rw [has_del_other e] at hk
        obtain ⟨a, b, c, e1, e2, e3, e4⟩ := h.ent k hk
        exact ⟨a, b, c, e1, e2, e3, fun z => by rw [atKey_del_other e]; exact e4 z⟩
    · have := size_del (k := kS t) ht
      have := h.le
      omega
  rw [if_neg h2]
  by_cases h3 : has D (kS t) = false ∧ 32 ≤ size D
  · rw [if_pos h3]; exact h
  rw [if_neg h3]
  refine ⟨fun k hk => ?_, ?_⟩
  · by_cases e : k = kS t
    · subst e
      exact ⟨t, x, q, rfl, by simpa using h1, h2, fun z => atKey_put_same ht.isMap (kS_key t) _ z⟩
    · rw [has_put_other e] at hk
      obtain ⟨a, b, c, e1, e2, e3, e4⟩ := h.ent k hk
      exact ⟨a, b, c, e1, e2, e3, fun z => by rw [atKey_put_other e]; exact e4 z⟩
  · rw [size_put ht]
    have := h.le
    split
    · exact this
    · rename_i hh
      have hf : has D (kS t) = false := by simpa using hh
      have : ¬ 32 ≤ size D := fun h32 => h3 ⟨hf, h32⟩
      omega
/-- What a message in the map is. -/
def InD (D : DataW Value) (f : Mg) : Prop := f.a1.size ≠ 0 ∧ f.a3 = true ∧ nameB f.a0 = true ∧ ∀ z, D.atKey (kS f.a0) z = .held (mV f.a0 f.a1 f.a2 f.a3)
theorem mV_inj {t x t' x' : ByteArray} {q q' : Int} {r r' : Bool} (h : (DataW.held (mV t x q r) : DataW Value) = .held (mV t' x' q' r')) : t = t' ∧ x = x' ∧ q = q' ∧ r = r' := by
  simpa [mV] using h
/-- What was collected so far. -/
structure Col (D : DataW Value) (P : ByteArray → Bool) (left : Lit → Bool) (cnt : Nat) (L : List Mg) : Prop where
  inn : ∀ f ∈ L, left (kS f.a0) = false ∧ P f.a0 = true ∧ InD D f
  all : ∀ f, left (kS f.a0) = false → P f.a0 = true → InD D f → f ∈ L
  nd : L.Pairwise fun f g => f.a0 ≠ g.a0
  len : L.length + cnt ≤ size D
theorem col_start (D : DataW Value) (P : ByteArray → Bool) : Col D P (has D) (size D) [] :=
  ⟨(fun f hf => by cases hf), fun f hl _ hi => absurd (has_true_of_atKey hi.2.2.2) (by rw [hl]; decide), List.Pairwise.nil, by simp⟩
theorem strike_t {left : Lit → Bool} {t s : ByteArray} : (left (kS s) && !(kS s).sameKey (kS t)) = false ↔ left (kS s) = false ∨ s = t := by
  by_cases e : s = t
  · subst e
    simp [WideAt.sameKey_self (kS_key s)]
  · rw [sameKey_ne (kS_ne e)]
    simp [e]
theorem Col.yes {D : DataW Value} {P : ByteArray → Bool} {left : Lit → Bool} {cnt cnt' : Nat} {L : List Mg} (h : Col D P left cnt L) {f : Mg} (hl : left (kS f.a0) = true) (hc : cnt' < cnt) (hp : P f.a0 = true) (hi : InD D f) :
    Col D P (fun z => left z && !z.sameKey (kS f.a0)) cnt' (L ++ [f]) := by
  refine ⟨fun g hg => ?_, fun g h1 h2 h3 => ?_, ?_, ?_⟩
  · rcases List.mem_append.1 hg with hg | hg
    · obtain ⟨a, b, c⟩ := h.inn g hg
      exact ⟨strike_t.2 (.inl a), b, c⟩
    · obtain rfl := List.mem_singleton.1 hg
      exact ⟨strike_t.2 (.inr rfl), hp, hi⟩
  · rcases strike_t.1 h1 with a | a
    · exact List.mem_append_left _ (h.all g a h2 h3)
    · have e := h3.2.2.2 (.nil)
      rw [a, hi.2.2.2] at e
      obtain ⟨e0, e1, e2, e3⟩ := mV_inj e
      have : g = f := by
        cases g; cases f
        simp only at e0 e1 e2 e3 a
        subst a e1 e2 e3
        rfl
      rw [this]
      exact List.mem_append_right _ (List.mem_singleton.2 rfl)
  · refine List.pairwise_append.2 ⟨h.nd, List.pairwise_singleton _ _, fun a ha b hb => ?_⟩
    obtain rfl := List.mem_singleton.1 hb
    intro e
    have := (h.inn a ha).1
    rw [e, hl] at this
    cases this
  · have := h.len
    simp; omega
theorem Col.no {D : DataW Value} {P : ByteArray → Bool} {left : Lit → Bool} {cnt cnt' : Nat} {L : List Mg} (h : Col D P left cnt L) {t : ByteArray} (hc : cnt' < cnt) (hp : P t = false) :
    Col D P (fun z => left z && !z.sameKey (kS t)) cnt' L := by
  refine ⟨fun g hg => ?_, fun g h1 h2 h3 => ?_, h.nd, by have := h.len; omega⟩
  · obtain ⟨a, b, c⟩ := h.inn g hg
    exact ⟨strike_t.2 (.inl a), b, c⟩
  · rcases strike_t.1 h1 with a | a
    · exact h.all g a h2 h3
    · rw [a, hp] at h2; cases h2
/-- What is picked: all that is wanted, rising. -/
structure Lst (D : DataW Value) (P : ByteArray → Bool) (L : List Mg) : Prop where
  inn : ∀ f ∈ L, P f.a0 = true ∧ InD D f
  all : ∀ f, P f.a0 = true → InD D f → f ∈ L
  up : L.Pairwise fun f g => f.a0.toList < g.a0.toList
  len : L.length ≤ size D
theorem Lst.of {D : DataW Value} {P : ByteArray → Bool} {left : Lit → Bool} {cnt : Nat} {L L2 : List Mg} (h : Col D P left cnt L) (h0 : ∀ kl, left kl = false) (hp : L2.Perm L) (hr : Rise L2) : Lst D P L2 := by
  refine ⟨fun f hf => (h.inn f (hp.mem_iff.1 hf)).2, fun f h1 h2 => hp.mem_iff.2 (h.all f (h0 _) h1 h2), ?_, by rw [hp.length_eq]; have := h.len; omega⟩
  have nd : L2.Pairwise fun f g => f.a0 ≠ g.a0 := (hp.pairwise_iff (fun {a b} hab => fun e => hab e.symm)).2 h.nd
  exact (hr.and nd).imp (fun {a b} ⟨h1, h2⟩ => by
    by_cases x : a.a0.toList < b.a0.toList
    · exact x
    · have y := List.le_antisymm (List.not_lt.1 h1) (List.not_lt.1 x)
      exact absurd (by rw [ByteArray.toList_eq, ByteArray.toList_eq] at y; exact ba_ext y) h2)
theorem sorted_ext : ∀ (l l' : List Mg), (l.Pairwise fun f g => f.a0.toList < g.a0.toList) → (l'.Pairwise fun f g => f.a0.toList < g.a0.toList) → (∀ x, x ∈ l ↔ x ∈ l') → l = l'
  | [], [], _, _, _ => rfl
  | [], b :: l', _, _, h => by have := (h b).2 (List.mem_cons_self ..); cases this
  | a :: l, [], _, _, h => by have := (h a).1 (List.mem_cons_self ..); cases this
  | a :: l, b :: l', h1, h2, h => by
    obtain ⟨p1, p2⟩ := List.pairwise_cons.1 h1
    obtain ⟨q1, q2⟩ := List.pairwise_cons.1 h2
    have e : a = b := by
      rcases List.mem_cons.1 ((h a).1 (List.mem_cons_self ..)) with x | x
      · exact x
      · rcases List.mem_cons.1 ((h b).2 (List.mem_cons_self ..)) with y | y
        · exact y.symm
        · exact absurd (List.lt_trans (p1 b y) (q1 a x)) (List.lt_irrefl _)
    subst e
    rw [sorted_ext l l' p2 q2 (fun x => ⟨fun hx => ?_, fun hx => ?_⟩)]
    · rcases List.mem_cons.1 ((h x).1 (List.mem_cons_of_mem _ hx)) with y | y
      · subst y; exact absurd (p1 x hx) (List.lt_irrefl _)
      · exact y
    · rcases List.mem_cons.1 ((h x).2 (List.mem_cons_of_mem _ hx)) with y | y
      · subst y; exact absurd (q1 x hx) (List.lt_irrefl _)
      · exact y
theorem Lst.one {D : DataW Value} {P : ByteArray → Bool} {L L' : List Mg} (h : Lst D P L) (k : Lst D P L') : L = L' :=
  sorted_ext L L' h.up k.up (fun x => ⟨fun hx => k.all x (h.inn x hx).1 (h.inn x hx).2, fun hx => h.all x (k.inn x hx).1 (k.inn x hx).2⟩)
theorem Lst.filter {D : DataW Value} {P : ByteArray → Bool} {L : List Mg} (h : Lst D (fun _ => true) L) : Lst D P (L.filter fun f => P f.a0) := by
  refine ⟨fun f hf => ?_, fun f h1 h2 => ?_, h.up.filter _, Nat.le_trans (List.length_filter_le _ _) h.len⟩
  · obtain ⟨a, b⟩ := List.mem_filter.1 hf
    exact ⟨b, (h.inn f a).2⟩
  · exact List.mem_filter.2 ⟨h.all f rfl h2, h1⟩
theorem nodup_le {α : Type} [DecidableEq α] : ∀ (l m : List α), l.Nodup → (∀ x ∈ l, x ∈ m) → l.length ≤ m.length
  | [], m, _, _ => Nat.zero_le _
  | a :: l, m, hn, hs => by
    obtain ⟨n1, n2⟩ := List.nodup_cons.1 hn
    have ha := hs a (List.mem_cons_self ..)
    have := nodup_le l (m.erase a) n2 (fun x hx => (List.mem_erase_of_ne (fun e => n1 (by rw [← e]; exact hx))).2 (hs x (List.mem_cons_of_mem _ hx)))
    rw [List.length_erase_of_mem ha] at this
    have := List.length_pos_of_mem ha
    simp; omega
theorem Lst.full {D : DataW Value} {L : List Mg} (h : Lst D (fun _ => true) L) (hg : Good D) (ht : ∃ es, D = .map es ∧ es.Pairwise (fun p q => p.1 ≠ q.1) ∧ ∀ p ∈ es, WideAt.IsKeyLit p.1) : L.length = size D := by
  refine Nat.le_antisymm h.len ?_
  obtain ⟨es, rfl, hes, hkl⟩ := ht
  haveI : DecidableEq Lit := fun a b => Classical.propDecidable _
  have hk : ∀ p ∈ es, p.1 ∈ L.map fun f => kS f.a0 := fun p hp => by
    have hh : has (.map es) p.1 = true := by
      rw [has_eq, List.any_eq_true]
      refine ⟨p, hp, ?_⟩
      exact WideAt.sameKey_self (hkl p hp)
    obtain ⟨t, x, q, e1, e2, e3, e4⟩ := hg.ent _ hh
    rw [e1] at e4
    exact List.mem_map.2 ⟨⟨t, x, q, true⟩, h.all _ rfl ⟨e3, rfl, e2, e4⟩, e1.symm⟩
  have := nodup_le (es.map (·.1)) (L.map fun f => kS f.a0) (List.pairwise_map.2 hes) (fun x hx => by
    obtain ⟨p, hp, rfl⟩ := List.mem_map.1 hx
    exact hk p hp)
  simpa [size_eq] using this
end Go.Proofs.Ytfdaooaooalknaa
