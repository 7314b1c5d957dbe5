/-
  LAYER 26: both clocks beside an act: each call of ClocksPlays.
-/
import Derived.Test.YtcjoemejoeekiaaCy
import Derived.Test.YtcjoemejoeekiaaAr
namespace Go.Proofs.Ytcjoemejoeekiaa.Cl
open Go.RowKit Go.Maps Que Hp Hg
/-- Both clocks, and an act beside them. -/
structure PM (w W : World) (c n : Nat) (Lc Lx : List Tm) (p ab : Nat) (f : Ak) : Prop where
  o : Oc w.heap.size W c n Lc 41 p (row8 ft Lx)
  bw : Below w.heap.size w W
  act : W.heap[ab]? = some (.cells f.cells.toArray 28 (0, 0))
  nx : (Lx.map Tm.k).Nodup
  rx : ∀ x ∈ Lx, 0 ≤ x.k ∧ x.k < 8 ∧ 0 ≤ x.d
section
variable {w W W' : World} {c n p ab : Nat} {Lc Lx : List Tm} {f : Ak}
theorem PM.ext (h : PM w W c n Lc Lx p ab f) (hb : Below W.heap.size W W') : PM w W' c n Lc Lx p ab f :=
  ⟨h.o.keep hb, h.bw.trans (hb.mono h.bw.size), (hb.block ab (Array.getElem?_eq_some_iff.1 h.act).1).trans h.act, h.nx, h.rx⟩
theorem PM.cells (h : PM w W c n Lc Lx p ab f) : W.cell? ⟨ab, 0, none⟩ = some (.int .i64 f.a0) ∧ W.cell? ⟨ab, 1, none⟩ = some (.int .i64 f.a1) ∧ W.cell? ⟨ab, 2, none⟩ = some (.int .i64 f.a2) :=
  ⟨cell_of_row W ab 0 _ 28 (0, 0) h.act, cell_of_row W ab 1 _ 28 (0, 0) h.act, cell_of_row W ab 2 _ 28 (0, 0) h.act⟩
theorem PM.xd (h : PM w W c n Lc Lx p ab f) : Xd W p Lx := by
  obtain ⟨t, m, v, h⟩ := h.o
  exact h.pr
theorem act_far {t m : Nat} {v : Value} {cs : Array Value} (h : Cr W c t m n v Lc) (ha : W.heap[ab]? = some (.cells cs 28 (0, 0))) : ¬ SI t m v ab := by
  obtain ⟨L', a, -, -⟩ := h.ex
  rintro (e | e | e)
  · subst e
    rw [a.row] at ha
    simp at ha
  · exact map_ne a.mp.choose_spec.1 ha e.symm
  · exact own_far a.its ha (by decide) e.symm
/-- The program's clocks have turned. -/
theorem PM.prog {t m n' : Nat} {v v' : Value} {L' : List Tm} (h : PM w W c n Lc Lx p ab f) (hx : Ocs w.heap.size W c n Lc 41 p (row8 ft Lx) t m v) (g : Cx W W' c t m n' v L' v') : PM w W' c n' L' Lx p ab f := by
  obtain ⟨h1, h2⟩ := hx.step g
  exact ⟨h1, h.bw.trans h2, (g.far.block ab (Array.getElem?_eq_some_iff.1 h.act).1 (act_far hx.x.r h.act)).trans h.act, h.nx, h.rx⟩
/-- The document's clocks have turned. -/
theorem PM.doc {L' : List Tm} (h : PM w W c n Lc Lx p ab f) (hx : Xd W' p L') (F : Far (fun k => k = p) W W') (hn : (L'.map Tm.k).Nodup) (hr : ∀ x ∈ L', 0 ≤ x.k ∧ x.k < 8 ∧ 0 ≤ x.d) : PM w W' c n Lc L' p ab f := by
  obtain ⟨t, m, v, o⟩ := h.o
  obtain ⟨f1, f2⟩ := o.far
  have hpa : ab ≠ p := by
    rintro rfl
    have := o.pr
    rw [h.act] at this
    simp at this
  refine ⟨⟨t, m, v, ⟨o.x.r.fars F (fun e => f2 e.symm) (fun e => f1 (.inl e.symm)) (fun e => f1 (.inr (.inl e.symm))) (fun k hk e => f1 (.inr (.inr (e ▸ hk)))), o.x.bt, o.x.bm, o.x.bc, o.x.bv, Nat.le_trans o.x.bw F.size⟩, hx, o.bp, o.ty⟩, h.bw.trans (F.below o.x.bw (fun k e => e ▸ o.bp)), (F.block ab (Array.getElem?_eq_some_iff.1 h.act).1 hpa).trans h.act, hn, hr⟩
theorem nd_put {L : List Tm} (hn : (L.map Tm.k).Nodup) (k d : Int) : ((putL L k d).map Tm.k).Nodup := by
  unfold putL
  rw [List.map_append, List.nodup_append]
  refine ⟨nd_del hn k, by simp, ?_⟩
  intro a ha b hb e
  obtain ⟨y, hy, rfl⟩ := List.mem_map.1 ha
  simp only [List.map_cons, List.map_nil, List.mem_singleton] at hb
  have := (List.mem_filter.1 hy).2
  simp only [decide_eq_true_eq] at this
  exact this (e.trans hb)
theorem pset (h : PM w W c n Lc Lx p ab f) (hn : n ≤ 80000) (hf : f.ok) : Calls Try.prog 14 #[.pointer (some ⟨c, 0, none⟩), .int .i64 f.a1, .int .i64 f.a2] W fun e w' => e = .returned (.int .i64 (setE f.a1 f.a2)) ∧ PM w w' c (n + 1) (if setE f.a1 f.a2 = 0 then putL Lc f.a1 f.a2 else Lc) Lx p ab f := by
  obtain ⟨t, m, v, o⟩ := h.o
  refine (set_any o.x.r hn (who := f.a1) (wf_i64 hf.2.2).2).mono ?_
  rintro e w1 ⟨rfl, v2, g⟩
  exact ⟨rfl, h.prog o g⟩
theorem pxset (h : PM w W c n Lc Lx p ab f) : Calls Try.prog 15 #[.pointer (some ⟨p, 0, none⟩), .int .i64 f.a1, .int .i64 f.a2] W fun e w' => e = .returned (.int .i64 (setE f.a1 f.a2)) ∧ PM w w' c n Lc (if setE f.a1 f.a2 = 0 then putL Lx f.a1 f.a2 else Lx) p ab f := by
  refine (xset h.xd f.a1 f.a2).mono ?_
  rintro e w1 ⟨rfl, hx, F⟩
  refine ⟨rfl, h.doc hx F ?_ ?_⟩
  · split
    · exact nd_put h.nx _ _
    · exact h.nx
  · intro x hx
    split at hx
    · rename_i he
      unfold setE at he
      unfold putL at hx
      rcases List.mem_append.1 hx with hx | hx
      · exact h.rx x (List.mem_filter.1 hx).1
      · rw [List.mem_singleton.1 hx]
        split at he
        · cases he
        · split at he
          · cases he
          · simp only; omega
    · exact h.rx x hx
theorem pdrop (h : PM w W c n Lc Lx p ab f) (hn : n ≤ 80000) (hf : f.ok) : Calls Try.prog 16 #[.pointer (some ⟨c, 0, none⟩), .int .i64 f.a1] W fun e w' => e = .returned (.bool (dueL Lc f.a1).isSome) ∧ PM w w' c n (delL Lc f.a1) Lx p ab f := by
  obtain ⟨t, m, v, o⟩ := h.o
  refine (drop_any o.x.r hn hf.2.1).mono ?_
  rintro e w1 ⟨rfl, v2, g⟩
  exact ⟨rfl, h.prog o g⟩
theorem pxdrop (h : PM w W c n Lc Lx p ab f) : Calls Try.prog 17 #[.pointer (some ⟨p, 0, none⟩), .int .i64 f.a1] W fun e w' => e = .returned (.bool (dueL Lx f.a1).isSome) ∧ PM w w' c n Lc (delL Lx f.a1) p ab f := by
  refine (xdrop h.xd h.rx f.a1).mono ?_
  rintro e w1 ⟨rfl, hx, F⟩
  exact ⟨rfl, h.doc hx F (nd_del h.nx _) (fun x hx => h.rx x (List.mem_filter.1 hx).1)⟩
theorem fired_nd {now : Int} : ∀ {l : List Int} {L R : List Tm}, (L.map Tm.k).Nodup → Fired now l L R → (R.map Tm.k).Nodup := by
  intro l
  induction l with
  | nil => intro L R hn h; exact (h.1.map Tm.k).nodup_iff.2 hn
  | cons k l ih =>
    intro L R hn h
    obtain ⟨x, S, -, -, hp, -, hf⟩ := h
    have := (hp.map Tm.k).nodup_iff.1 hn
    rw [List.map_cons, List.nodup_cons] at this
    exact ih this.2 hf
def PFire (w W : World) (c n : Nat) (Lc Lx : List Tm) (p ab : Nat) (f : Ak) (e : Ending) (w' : World) : Prop :=
  ∃ (o : Value) (l : List Int) (R : List Tm), e = .returned o ∧ (∃ B, w'.ownsRow B 3 1 o l.length (il l)) ∧ Fired f.a2 l Lc R ∧ l.length ≤ 8 ∧ PM w w' c n R Lx p ab f
theorem pfire (h : PM w W c n Lc Lx p ab f) (hn : n ≤ 80000) : Calls Try.prog 19 #[.pointer (some ⟨c, 0, none⟩), .int .i64 f.a2] W (PFire w W c n Lc Lx p ab f) := by
  obtain ⟨t, m, v, o⟩ := h.o
  refine (fire_any o.x.r hn f.a2).mono ?_
  rintro e w1 ⟨o2, l, R, v', rfl, ho, hf, g⟩
  have h8 := o.x.r.le8
  have := fired_len hf
  exact ⟨o2, l, R, rfl, ⟨_, ho⟩, hf, by omega, h.prog o g⟩
def PXFire (w W : World) (c n : Nat) (Lc : List Tm) (p ab : Nat) (f : Ak) (o : Value) (l : List Int) (e : Ending) (w' : World) : Prop :=
  ∃ (o2 : Value) (B : Nat), e = .returned o2 ∧ w'.ownsRow B 3 1 o2 l.length (il l) ∧ (∃ B, w'.ownsRow B 3 1 o l.length (il l)) ∧ PM w w' c n Lc Lc p ab f
/-- The document fires the same. -/
theorem pxfire {L0 : List Tm} {o : Value} {l : List Int} (h : PM w W c n Lc L0 p ab f) (hf : Fired f.a2 l L0 Lc) {B : Nat} (ho : W.ownsRow B 3 1 o l.length (il l)) : Calls Try.prog 20 #[.pointer (some ⟨p, 0, none⟩), .int .i64 f.a2] W (PXFire w W c n Lc p ab f o l) := by
  refine (xfire h.xd h.nx h.rx f.a2).mono ?_
  rintro e w1 ⟨o2, l2, R2, rfl, ho2, hf2, hx, F⟩
  obtain ⟨rfl, pR⟩ := fired_det h.nx (fun x hx => ⟨(h.rx x hx).1, (h.rx x hx).2.1⟩) (List.Perm.refl _) hf hf2
  have h1 := h.doc hx F (fired_nd h.nx hf2) (fun x hx => h.rx x (fired_mem hf2 x hx).1)
  have hne : ∀ k, o.ownBlock = some k → ¬ k = p := fun k hk e => own_far ho h.xd (by decide) (by rw [hk, e])
  refine ⟨o2, _, rfl, ho2, ⟨B, own_fars ho F hne⟩, ?_⟩
  have e : row8 ft R2 = row8 ft Lc := row8_perm ft (fired_nd h.nx hf2) pR.symm
  exact ⟨by rw [← e]; exact h1.o, h1.bw, h1.act, fired_nd h.nx hf, fun x hx => h.rx x (fired_mem hf x hx).1⟩
/-- Both tell the same of the next. -/
def NxP (L : List Tm) (d : Int) (b : Bool) : Prop := ∀ e, XNext L e → e = .returned (.tuple #[.int .i64 d, .bool b])
theorem nxp {L : List Tm} (hr : ∀ x ∈ L, 0 ≤ x.k ∧ x.k < 8 ∧ 0 ≤ x.d) : ∃ d b, NxP L d b := by
  by_cases h : L = []
  · refine ⟨0, false, fun e he => ?_⟩
    rcases he with ⟨-, rfl⟩ | ⟨x, hx, -⟩
    · rfl
    · subst h; cases hx.1
  · by_cases hm : ∃ x, IsMin x L
    · obtain ⟨x, hx⟩ := hm
      refine ⟨x.d, true, fun e he => ?_⟩
      rcases he with ⟨h2, -⟩ | ⟨y, hy, rfl⟩
      · exact absurd h2 h
      · rw [min_uniq hr hy hx]
    · refine ⟨0, false, fun e he => ?_⟩
      rcases he with ⟨h2, -⟩ | ⟨y, hy, rfl⟩
      · exact absurd h2 h
      · exact absurd ⟨y, hy⟩ hm
theorem pnext {L : List Tm} (h : PM w W c n L L p ab f) {d : Int} {b : Bool} (hb : NxP L d b) : Calls Try.prog 21 #[.pointer (some ⟨c, 0, none⟩)] W fun e w' => e = .returned (.tuple #[.int .i64 d, .bool b]) ∧ W = w' := by
  obtain ⟨t, m, v, o⟩ := h.o
  by_cases hL : L = []
  · subst hL
    exact (cnext_nil o.x.r).mono fun e w' ⟨he, hw⟩ => ⟨hb e (.inl ⟨rfl, he⟩), hw⟩
  · obtain ⟨x, hx, hc⟩ := cnext_any o.x.r hL
    exact hc.mono fun e w' ⟨he, hw⟩ => ⟨hb e (.inr ⟨x, hx, he⟩), hw⟩
theorem pxnext {L : List Tm} (h : PM w W c n L L p ab f) {d : Int} {b : Bool} (hb : NxP L d b) : Calls Try.prog 22 #[.pointer (some ⟨p, 0, none⟩)] W fun e w' => e = .returned (.tuple #[.int .i64 d, .bool b]) ∧ Below W.heap.size W w' :=
  (xnext h.xd h.nx h.rx).mono fun e w' ⟨he, hw⟩ => ⟨hb e he, hw⟩
theorem pdue {L : List Tm} (h : PM w W c n L L p ab f) {k : Nat} (hk : k < 8) : Calls Try.prog 23 #[.pointer (some ⟨c, 0, none⟩), .int .i64 (k : Int)] W fun e w' => e = .returned (.tuple #[.int .i64 ((dueL L (k : Int)).getD 0), .bool (dueL L (k : Int)).isSome]) ∧ W = w' :=
  odue h.o (wfI (by omega) (by omega))
theorem plen {L : List Tm} (h : PM w W c n L L p ab f) : Calls Try.prog 24 #[.pointer (some ⟨c, 0, none⟩)] W fun e w' => e = .returned (.int .i64 (L.length : Nat)) ∧ W = w' := olen h.o
/-- How many of the first k come due. -/
def cnt (L : List Tm) (k : Nat) : Nat := ((List.range k).filter fun j : Nat => (dueL L (j : Int)).isSome).length
theorem cnt_next (L : List Tm) (k : Nat) : cnt L (k + 1) = cnt L k + if (dueL L (k : Int)).isSome then 1 else 0 := by
  unfold cnt
  rw [List.range_succ, List.filter_append, List.length_append]
  congr 1
  by_cases h : (dueL L (k : Int)).isSome
  · simp [h]
  · simp [h]
theorem cnt_le (L : List Tm) (k : Nat) : cnt L k ≤ k := by
  unfold cnt
  exact Nat.le_trans (List.length_filter_le _ _) (by simp)
theorem cnt_all {L : List Tm} (hn : (L.map Tm.k).Nodup) (hr : ∀ x ∈ L, 0 ≤ x.k ∧ x.k < 8 ∧ 0 ≤ x.d) : cnt L 8 = L.length := by
  have hp : List.Perm (((List.range 8).filter fun j : Nat => (dueL L (j : Int)).isSome).map fun j : Nat => (j : Int)) (L.map Tm.k) := by
    rw [List.perm_ext_iff_of_nodup]
    · intro a
      simp only [List.mem_map, List.mem_filter, List.mem_range]
      constructor
      · rintro ⟨j, ⟨hj, hs⟩, rfl⟩
        obtain ⟨d, hd⟩ := Option.isSome_iff_exists.1 hs
        exact ⟨_, dueL_some hd, rfl⟩
      · rintro ⟨x, hx, rfl⟩
        have := hr x hx
        refine ⟨x.k.toNat, ⟨by omega, ?_⟩, by omega⟩
        rw [show ((x.k.toNat : Nat) : Int) = x.k by omega, dueL_of hn hx]; rfl
    · rw [List.nodup_iff_pairwise_ne, List.pairwise_map]
      exact (List.nodup_range.filter _).imp fun h e => h (by omega)
    · exact hn
  have := hp.length_eq
  simpa [cnt] using this
end
end Go.Proofs.Ytcjoemejoeekiaa.Cl
