/-
  LAYER 26: clocks beside a block of eight numbers.
-/
import Derived.Test.YtcjoemejoeekiaaCq
namespace Go.Proofs.Ytcjoemejoeekiaa.Cl
open Go.RowKit Go.Maps Que Hp Hg
theorem alen39 : Try.prog.arrayLen 39 = 8 := by kernel_rfl
theorem alen50 : Try.prog.arrayLen 50 = 8 := by kernel_rfl
/-- Clocks, and beside them a block of type tt that holds xs. -/
structure Ocs (b : Nat) (w : World) (c n : Nat) (L : List Tm) (tt : TypeId) (p : Nat) (xs : Array Value) (t m : Nat) (v : Value) : Prop where
  x : Cbs b w c n L t m v
  pr : w.heap[p]? = some (.cells xs tt (0, 0))
  bp : b ≤ p
  ty : tt ≠ 92 ∧ tt ≠ 95 ∧ tt ≠ 54 ∧ tt ≠ 3
def Oc (b : Nat) (w : World) (c n : Nat) (L : List Tm) (tt : TypeId) (p : Nat) (xs : Array Value) : Prop := ∃ t m v, Ocs b w c n L tt p xs t m v
section
variable {b : Nat} {w w' : World} {c n : Nat} {L : List Tm} {tt : TypeId} {p : Nat} {xs : Array Value}
theorem Ocs.far {t m : Nat} {v : Value} (h : Ocs b w c n L tt p xs t m v) : ¬ SI t m v p ∧ p ≠ c := by
  obtain ⟨L', a, -, -⟩ := h.x.r.ex
  refine ⟨?_, ?_⟩
  · rintro (e | e | e)
    · subst e
      have := h.pr
      rw [a.row] at this
      simp only [Option.some.injEq, Obj.cells.injEq] at this
      exact h.ty.1 this.2.1.symm
    · exact map_ne a.mp.choose_spec.1 h.pr e.symm
    · exact own_far a.its h.pr h.ty.2.1 e.symm
  · rintro rfl
    have := h.pr
    rw [h.x.r.row] at this
    simp only [Option.some.injEq, Obj.cells.injEq] at this
    exact h.ty.2.2.1 this.2.1.symm
theorem Ocs.step {t m n' : Nat} {v v' : Value} {L' : List Tm} (h : Ocs b w c n L tt p xs t m v) (g : Cx w w' c t m n' v L' v') : Oc b w' c n' L' tt p xs ∧ Below b w w' := by
  obtain ⟨⟨t2, m2, v2, hx⟩, hb⟩ := h.x.next g
  exact ⟨⟨t, m, v', ⟨g.r, h.x.bt, h.x.bm, h.x.bc, g.nb2 h.x.bw h.x.bv, Nat.le_trans h.x.bw g.far.size⟩, (g.far.block p (Array.getElem?_eq_some_iff.1 h.pr).1 h.far.1).trans h.pr, h.bp, h.ty⟩, hb⟩
theorem Oc.of (h : Cds b w c n L) {w2 : World} (hb : Below w.heap.size w w2) (hp : w2.heap[p]? = some (.cells xs tt (0, 0))) (bp : b ≤ p) (ty : tt ≠ 92 ∧ tt ≠ 95 ∧ tt ≠ 54 ∧ tt ≠ 3) : Oc b w2 c n L tt p xs := by
  obtain ⟨t, m, v, h⟩ := h.keep hb
  exact ⟨t, m, v, h, hp, bp, ty⟩
theorem Oc.keep (h : Oc b w c n L tt p xs) (hb : Below w.heap.size w w') : Oc b w' c n L tt p xs := by
  obtain ⟨t, m, v, h⟩ := h
  exact ⟨t, m, v, ⟨h.x.r.keep hb, h.x.bt, h.x.bm, h.x.bc, h.x.bv, Nat.le_trans h.x.bw hb.size⟩, (hb.block p (Array.getElem?_eq_some_iff.1 h.pr).1).trans h.pr, h.bp, h.ty⟩
theorem Oc.store (h : Oc b w c n L tt p xs) (j : Nat) (u : Value) : Oc b (w.setCell ⟨p, j, none⟩ u) c n L tt p (xs.setIfInBounds j u) ∧ Below b w (w.setCell ⟨p, j, none⟩ u) := by
  obtain ⟨t, m, v, h⟩ := h
  obtain ⟨f1, f2⟩ := h.far
  have F : Far (fun k => k = p) w (w.setCell ⟨p, j, none⟩ u) := ⟨rfl, rfl, rfl, by simp [World.setCell], fun q _ hq => Below.heap_setCell _ _ _ _ hq⟩
  have hv := h.x.r
  refine ⟨⟨t, m, v, ⟨h.x.r.fars F (fun e => f2 e.symm) (fun e => f1 (.inl e.symm)) (fun e => f1 (.inr (.inl e.symm))) (fun k hk e => f1 (.inr (.inr (e ▸ hk)))), h.x.bt, h.x.bm, h.x.bc, h.x.bv, Nat.le_trans h.x.bw F.size⟩, heap_setCell_same w p j _ tt u h.pr, h.bp, h.ty⟩, F.below h.x.bw (fun k e => e ▸ h.bp)⟩
theorem Oc.cell (h : Oc b w c n L tt p xs) (j : Nat) : w.cell? ⟨p, j, none⟩ = xs[j]? := by
  obtain ⟨t, m, v, h⟩ := h
  exact cell_of_row w p j _ tt (0, 0) h.pr
theorem Oc.free (h : Oc b w c n L tt p xs) (j : Nat) : w.frozen? ⟨p, j, none⟩ = false := by
  obtain ⟨t, m, v, h⟩ := h
  exact frozen_of_row w p j _ tt h.pr
theorem Oc.lt (h : Oc b w c n L tt p xs) : p < w.heap.size := by
  obtain ⟨t, m, v, h⟩ := h
  exact (Array.getElem?_eq_some_iff.1 h.pr).1
theorem Oc.bw (h : Oc b w c n L tt p xs) : b ≤ w.heap.size := by
  obtain ⟨t, m, v, h⟩ := h
  exact h.x.bw
theorem Oc.nd (h : Oc b w c n L tt p xs) : (L.map Tm.k).Nodup := by obtain ⟨t, m, v, h⟩ := h; exact h.x.r.nd
theorem Oc.rg (h : Oc b w c n L tt p xs) : ∀ x ∈ L, 0 ≤ x.k ∧ x.k < 8 ∧ 0 ≤ x.d ∧ x.d ≤ 9223372036854775807 := by obtain ⟨t, m, v, h⟩ := h; exact h.x.r.rg
theorem Oc.le8 (h : Oc b w c n L tt p xs) : L.length ≤ 8 := by obtain ⟨t, m, v, h⟩ := h; exact h.x.r.le8
theorem Oc.perm {L2 : List Tm} (h : Oc b w c n L tt p xs) (q : L.Perm L2) : Oc b w c n L2 tt p xs := by
  obtain ⟨t, m, v, h⟩ := h
  exact ⟨t, m, v, ⟨h.x.r.perm q, h.x.bt, h.x.bm, h.x.bc, h.x.bv, h.x.bw⟩, h.pr, h.bp, h.ty⟩
theorem oset (h : Oc b w c n L tt p xs) (hn : n ≤ 80000) {who due : Int} (hd : due ≤ 9223372036854775807) :
    Calls Try.prog 14 #[.pointer (some ⟨c, 0, none⟩), .int .i64 who, .int .i64 due] w fun e w' => e = .returned (.int .i64 (setE who due)) ∧ Oc b w' c (n + 1) (if setE who due = 0 then putL L who due else L) tt p xs ∧ Below b w w' := by
  obtain ⟨t, m, v, h⟩ := h
  refine (set_any h.x.r hn (who := who) hd).mono ?_
  rintro e w1 ⟨rfl, v2, g⟩
  exact ⟨rfl, h.step g⟩
theorem oset0 (h : Oc b w c n L tt p xs) (hn : n ≤ 80000) {who due : Int} (h1 : 0 ≤ who) (h2 : who < 8) (h3 : 0 ≤ due) (hd : due ≤ 9223372036854775807) :
    Calls Try.prog 14 #[.pointer (some ⟨c, 0, none⟩), .int .i64 who, .int .i64 due] w fun e w' => e = .returned (.int .i64 0) ∧ Oc b w' c (n + 1) (putL L who due) tt p xs ∧ Below b w w' := by
  have := oset h hn (who := who) hd
  rw [setE_in h1 h2 h3, if_pos rfl] at this
  exact this
theorem odrop (h : Oc b w c n L tt p xs) (hn : n ≤ 80000) {who : Int} (hw : (Lit.int .i64 who).wf = true) :
    Calls Try.prog 16 #[.pointer (some ⟨c, 0, none⟩), .int .i64 who] w fun e w' => e = .returned (.bool (dueL L who).isSome) ∧ Oc b w' c n (delL L who) tt p xs ∧ Below b w w' := by
  obtain ⟨t, m, v, h⟩ := h
  refine (drop_any h.x.r hn hw).mono ?_
  rintro e w1 ⟨rfl, v2, g⟩
  exact ⟨rfl, h.step g⟩
def FireO (b : Nat) (w : World) (c n : Nat) (L : List Tm) (tt : TypeId) (p : Nat) (xs : Array Value) (now : Int) (e : Ending) (w' : World) : Prop :=
  ∃ (o : Value) (l : List Int) (R : List Tm), e = .returned o ∧ w'.ownsRow w.heap.size 3 1 o l.length (il l) ∧ Fired now l L R ∧ Oc b w' c n R tt p xs ∧ Below b w w'
theorem ofire (h : Oc b w c n L tt p xs) (hn : n ≤ 80000) (now : Int) : Calls Try.prog 19 #[.pointer (some ⟨c, 0, none⟩), .int .i64 now] w (FireO b w c n L tt p xs now) := by
  obtain ⟨t, m, v, h⟩ := h
  refine (fire_any h.x.r hn now).mono ?_
  rintro e w1 ⟨o, l, R, v', rfl, ho, hf, g⟩
  exact ⟨o, l, R, rfl, ho, hf, h.step g⟩
theorem odue (h : Oc b w c n L tt p xs) {who : Int} (hw : (Lit.int .i64 who).wf = true) :
    Calls Try.prog 23 #[.pointer (some ⟨c, 0, none⟩), .int .i64 who] w fun e w' => e = .returned (.tuple #[.int .i64 ((dueL L who).getD 0), .bool (dueL L who).isSome]) ∧ w = w' := by
  obtain ⟨t, m, v, h⟩ := h
  exact due_any h.x.r hw
theorem olen (h : Oc b w c n L tt p xs) : Calls Try.prog 24 #[.pointer (some ⟨c, 0, none⟩)] w fun e w' => e = .returned (.int .i64 (L.length : Nat)) ∧ w = w' := by
  obtain ⟨t, m, v, h⟩ := h
  exact clen_any h.x.r
/-- A list of numbers that came out is not the block beside. -/
theorem Oc.row (h : Oc b w c n L tt p xs) {B q : Nat} {o : Value} {ys : List Value} (ho : w.ownsRow B 3 1 o q ys) (j : Nat) (u : Value) : (w.setCell ⟨p, j, none⟩ u).ownsRow B 3 1 o q ys := by
  obtain ⟨t, m, v, h⟩ := h
  have F : Far (fun k => k = p) w (w.setCell ⟨p, j, none⟩ u) := ⟨rfl, rfl, rfl, by simp [World.setCell], fun q _ hq => Below.heap_setCell _ _ _ _ hq⟩
  exact own_fars ho F (fun k hk e => own_far ho h.pr h.ty.2.2.2 (by rw [hk, e]))
end
/-- What eight numbers tell of the clocks, by a function of what is told of one. -/
def row8 (f : Option Int → Int) (L : List Tm) : Array Value := ((List.range 8).map fun (k : Nat) => Value.int .i64 (f (dueL L (k : Int)))).toArray
theorem row8_at (f : Option Int → Int) (L : List Tm) {k : Nat} (hk : k < 8) : (row8 f L)[k]? = some (.int .i64 (f (dueL L (k : Int)))) := by
  unfold row8
  simp [hk]
theorem row8_size (f : Option Int → Int) (L : List Tm) : (row8 f L).size = 8 := by unfold row8; simp
theorem row8_set (f : Option Int → Int) {L L2 : List Tm} {k : Nat} {x : Option Int} (h : ∀ a : Int, dueL L2 a = if a = (k : Int) then x else dueL L a) : (row8 f L).setIfInBounds k (.int .i64 (f x)) = row8 f L2 := by
  apply Array.ext_getElem?
  intro j
  rw [Array.getElem?_setIfInBounds]
  by_cases hj : j < 8
  · rw [row8_at f L2 hj, h]
    by_cases e : k = j
    · subst e
      rw [if_pos rfl, if_pos (by rw [row8_size]; exact hj), if_pos rfl]
    · rw [if_neg e, if_neg (by omega), row8_at f L hj]
  · have e1 : (row8 f L2)[j]? = none := Array.getElem?_eq_none (by rw [row8_size]; omega)
    have e2 : (row8 f L)[j]? = none := Array.getElem?_eq_none (by rw [row8_size]; omega)
    rw [e1, e2]
    split
    · rw [row8_size, if_neg (by omega)]
    · rfl
theorem row8_put (f : Option Int → Int) (L : List Tm) (k : Nat) (d : Int) : (row8 f L).setIfInBounds k (.int .i64 (f (some d))) = row8 f (putL L k d) := row8_set f fun a => dueL_put L k d a
theorem row8_del (f : Option Int → Int) (L : List Tm) (k : Nat) : (row8 f L).setIfInBounds k (.int .i64 (f none)) = row8 f (delL L k) := row8_set f fun a => dueL_del L k a
theorem row8_perm (f : Option Int → Int) {L L2 : List Tm} (hn : (L.map Tm.k).Nodup) (p : L.Perm L2) : row8 f L = row8 f L2 := by
  unfold row8
  congr 1
  exact List.map_congr_left fun k _ => by rw [dueL_perm hn p]
/-- One that fires is told of no more. -/
theorem dueL_pop {L S : List Tm} {x : Tm} (hn : (L.map Tm.k).Nodup) (p : L.Perm (x :: S)) (a : Int) : dueL S a = if a = x.k then none else dueL L a := by
  have hn2 := (p.map Tm.k).nodup_iff.1 hn
  rw [dueL_perm hn p]
  rw [List.map_cons, List.nodup_cons] at hn2
  by_cases e : a = x.k
  · subst e
    rw [if_pos rfl]
    exact dueL_no fun y hy e => hn2.1 (e ▸ List.mem_map_of_mem hy)
  · rw [if_neg e]
    unfold dueL
    rw [List.find?_cons_of_neg (by simpa using fun h => e h.symm)]
theorem dueL_mem {L : List Tm} (hn : (L.map Tm.k).Nodup) {x : Tm} (hx : x ∈ L) : dueL L x.k = some x.d := dueL_of hn hx
end Go.Proofs.Ytcjoemejoeekiaa.Cl
