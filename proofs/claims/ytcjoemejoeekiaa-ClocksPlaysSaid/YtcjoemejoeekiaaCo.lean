/-
  LAYER 26: New, Late, awake.
-/
import Derived.Test.YtcjoemejoeekiaaCn
namespace Go.Proofs.Ytcjoemejoeekiaa.Cl
open Go.RowKit Go.Maps Que Hp Hg
set_option maxRecDepth 100000 in
theorem cnew_any (w : World) : Calls Try.prog 12 #[] w fun e w' => e = .returned (.pointer (some ⟨w.heap.size + 2, 0, none⟩)) ∧ Cr w' (w.heap.size + 2) (w.heap.size + 1) w.heap.size 0 (.slice none 0 0) [] ∧ Below w.heap.size w w' ∧ w'.heap.size = w.heap.size + 3 := by
  have hmm := @run_makeMap Try.prog
  go_enter Try.func12, Try.ntmps12
  go_wp2
  go_ret
  refine ⟨rfl, ⟨?_, [], ⟨?_, ⟨rfl, .inl ⟨rfl, rfl⟩⟩, ⟨.map [], ((World.ownsMap_made w Try.prog 3 (plainElem (H := Unit) Try.prog 3)).alloc _).alloc _, fun i x hx => by simp at hx, fun a _ => rfl⟩, by simp, by simp⟩, List.Perm.refl _, fun i h0 hi => by simp at hi⟩, (((Below.refl _ _).alloc (Nat.le_refl _) _).alloc (by simp) _).alloc (by simp; omega) _, by simp⟩
  · have := heap_alloc_new ((w.alloc (.map #[] 0)).alloc (.cells #[.slice none 0 0, .map (some w.heap.size)] 92)) (.cells #[.pointer (some ⟨w.heap.size + 1, 0, none⟩)] 54)
    simpa using this
  · have h1 := heap_alloc_new (w.alloc (.map #[] 0)) (.cells #[.slice none 0 0, .map (some w.heap.size)] 92)
    have h2 := Que.heap_alloc_old (c := w.heap.size + 1) ((w.alloc (.map #[] 0)).alloc (.cells #[.slice none 0 0, .map (some w.heap.size)] 92)) (.cells #[.pointer (some ⟨w.heap.size + 1, 0, none⟩)] 54) (by simp)
    rw [show (w.alloc (.map #[] 0)).heap.size = w.heap.size + 1 by simp] at h1
    exact h2.trans h1
set_option maxHeartbeats 1000000 in
set_option maxRecDepth 100000 in
theorem late_any (a k : Int) (w : World) (ha : 0 ≤ a) (hk : 0 ≤ k) (ha1 : a ≤ 4294967295) (hk1 : k ≤ 4294967295) : Calls Try.prog 26 #[.int .i64 a, .int .i64 k] w fun e w' => e = .returned (.int .i64 (a + k + (k / 2 + 1))) ∧ w = w' := by
  have P1 : Hid (Calls Try.prog 46 #[.int .i64 a, .int .i64 k] w fun e w' => e = .returned (.int .i64 (a + k)) ∧ w = w') := Lib.hid (by
    have := plus_any a k w (by omega) (by omega) (by omega) (by omega)
    rwa [show min (a + k) 9223372036854775807 = a + k by omega] at this)
  have P2 : Hid (Calls Try.prog 46 #[.int .i64 (k / 2), .int .i64 1] w fun e w' => e = .returned (.int .i64 (k / 2 + 1)) ∧ w = w') := Lib.hid (by
    have := plus_any (k / 2) 1 w (by omega) (by omega) (by omega) (by omega)
    rwa [show min (k / 2 + 1) 9223372036854775807 = k / 2 + 1 by omega] at this)
  have P3 : Hid (Calls Try.prog 46 #[.int .i64 (a + k), .int .i64 (k / 2 + 1)] w fun e w' => e = .returned (.int .i64 (a + k + (k / 2 + 1))) ∧ w = w') := Lib.hid (by
    have := plus_any (a + k) (k / 2 + 1) w (by omega) (by omega) (by omega) (by omega)
    rwa [show min (a + k + (k / 2 + 1)) 9223372036854775807 = a + k + (k / 2 + 1) by omega] at this)
  have na : ¬ (a < 0) := by omega
  have nk : ¬ (k < 0) := by omega
  go_enter Try.func26, Try.ntmps26
  go_wp2_with fail
  refine P1.out.mono ?_
  rintro e w1 ⟨rfl, rfl⟩
  go_wp2_with fail
  refine P2.out.mono ?_
  rintro e w1 ⟨rfl, rfl⟩
  go_wp2_with fail
  refine P3.out.mono ?_
  rintro e w1 ⟨rfl, rfl⟩
  go_wp2
  go_ret
  exact ⟨rfl, rfl⟩
set_option maxHeartbeats 1000000 in
set_option maxRecDepth 100000 in
theorem late_neg (w : World) : Calls Try.prog 26 #[.int .i64 (-1), .int .i64 (-5)] w fun e w' => e = .returned (.int .i64 1) ∧ w = w' := by
  have P1 := Lib.hid (plus_any 0 0 w (by omega) (by omega) (by omega) (by omega))
  have P2 := Lib.hid (plus_any 0 1 w (by omega) (by omega) (by omega) (by omega))
  go_enter Try.func26, Try.ntmps26
  go_wp2_with fail
  refine P1.out.mono ?_
  rintro e w1 ⟨rfl, rfl⟩
  go_wp2_with fail
  refine P2.out.mono ?_
  rintro e w1 ⟨rfl, rfl⟩
  go_wp2_with fail
  refine P2.out.mono ?_
  rintro e w1 ⟨rfl, rfl⟩
  go_wp2
  go_ret
  exact ⟨rfl, rfl⟩
theorem fired_det {now : Int} : ∀ {l l2 : List Int} {L L2 R R2 : List Tm}, (L.map Tm.k).Nodup → (∀ x ∈ L, 0 ≤ x.k ∧ x.k < 8) → L.Perm L2 → Fired now l L R → Fired now l2 L2 R2 → l = l2 ∧ R.Perm R2 := by
  intro l
  induction l with
  | nil =>
    intro l2 L L2 R R2 hn hr p h h2
    cases l2 with
    | nil => exact ⟨rfl, (h.1.trans p).trans h2.1.symm⟩
    | cons k l2 =>
      obtain ⟨x, S, -, hd, hp, hm, -⟩ := h2
      have := h.2 x (p.mem_iff.2 hm.1)
      omega
  | cons k l ih =>
    intro l2 L L2 R R2 hn hr p h h2
    obtain ⟨x, S, rfl, hd, hp, hm, hf⟩ := h
    cases l2 with
    | nil =>
      have := h2.2 x (p.mem_iff.1 hm.1)
      omega
    | cons k2 l2 =>
      obtain ⟨y, S2, rfl, hd2, hp2, hm2, hf2⟩ := h2
      have e1 := hm.2 y (p.mem_iff.2 hm2.1)
      have e2 := hm2.2 x (p.mem_iff.1 hm.1)
      have r1 := hr x hm.1
      have r2 := hr y (p.mem_iff.2 hm2.1)
      have hk : x = y := by
        obtain ⟨xd, xk⟩ := x
        obtain ⟨yd, yk⟩ := y
        unfold key at e1 e2
        simp only at *
        have : xd = yd := by omega
        have : xk = yk := by omega
        subst xd; subst xk; rfl
      subst hk
      have hn2 := (hp.map Tm.k).nodup_iff.1 hn
      rw [List.map_cons, List.nodup_cons] at hn2
      have pS : S.Perm S2 := (List.perm_cons x).1 ((hp.symm.trans p).trans hp2)
      obtain ⟨h1, h2⟩ := ih hn2.2 (fun y hy => hr y (hp.mem_iff.2 (List.mem_cons_of_mem _ hy))) pS hf hf2
      exact ⟨by rw [h1], h2⟩
theorem setE_in {who due : Int} (h1 : 0 ≤ who) (h2 : who < 8) (h3 : 0 ≤ due) : setE who due = 0 := by unfold setE; rw [if_neg (by omega), if_neg (by omega)]
instance : DecidableEq Tm := fun a b => if h : a.d = b.d ∧ a.k = b.k then isTrue (by cases a; cases b; simp_all) else isFalse (by rintro rfl; exact h ⟨rfl, rfl⟩)
def La : List Tm := putL (putL (putL [] 2 5) 0 5) 1 3
theorem fired_a : Fired 5 [1, 0, 2] La [] := by
  refine ⟨⟨3, 1⟩, [⟨5, 2⟩, ⟨5, 0⟩], rfl, by decide, by decide, ⟨by decide, by decide⟩, ⟨5, 0⟩, [⟨5, 2⟩], rfl, by decide, by decide, ⟨by decide, by decide⟩, ⟨5, 2⟩, [], rfl, by decide, by decide, ⟨by decide, by decide⟩, by decide, by decide⟩
theorem La_nd : (La.map Tm.k).Nodup := by decide
theorem La_rg : ∀ x ∈ La, 0 ≤ x.k ∧ x.k < 8 := by decide
theorem Cx.below {w w' : World} {c t m n : Nat} {v v' : Value} {L : List Tm} {b : Nat} (h : Cx w w' c t m n v L v') (hb : b ≤ w.heap.size) (ht : b ≤ t) (hm : b ≤ m) (hv : ∀ k, v.ownBlock = some k → b ≤ k) : Below b w w' :=
  h.far.below hb (fun k e => e.elim (fun e => e ▸ ht) (fun e => e.elim (fun e => e ▸ hm) (fun e => hv k e)))
theorem Cx.nb2 {w w' : World} {c t m n : Nat} {v v' : Value} {L : List Tm} {b : Nat} (h : Cx w w' c t m n v L v') (hb : b ≤ w.heap.size) (hv : ∀ k, v.ownBlock = some k → b ≤ k) : ∀ k, v'.ownBlock = some k → b ≤ k := fun k hk => (h.nb k hk).elim (hv k) (fun e => Nat.le_trans hb e)
/-- Clocks that stand in blocks of their own, from b on. -/
structure Cbs (b : Nat) (w : World) (c n : Nat) (L : List Tm) (t m : Nat) (v : Value) : Prop where
  r : Cr w c t m n v L
  bt : b ≤ t
  bm : b ≤ m
  bc : b ≤ c
  bv : ∀ k, v.ownBlock = some k → b ≤ k
  bw : b ≤ w.heap.size
def Cds (b : Nat) (w : World) (c n : Nat) (L : List Tm) : Prop := ∃ t m v, Cbs b w c n L t m v
section
variable {b : Nat} {w w' : World} {c n : Nat} {L : List Tm}
theorem Cbs.next {n2 t m : Nat} {v v2 : Value} {L2 : List Tm} (h : Cbs b w c n L t m v) (g : Cx w w' c t m n2 v L2 v2) : Cds b w' c n2 L2 ∧ Below b w w' :=
  ⟨⟨t, m, v2, g.r, h.bt, h.bm, h.bc, g.nb2 h.bw h.bv, Nat.le_trans h.bw g.far.size⟩, g.below h.bw h.bt h.bm h.bv⟩
theorem dset (h : Cds b w c n L) (hn : n ≤ 80000) {who due : Int} (hd : due ≤ 9223372036854775807) :
    Calls Try.prog 14 #[.pointer (some ⟨c, 0, none⟩), .int .i64 who, .int .i64 due] w fun e w' => e = .returned (.int .i64 (setE who due)) ∧ Cds b w' c (n + 1) (if setE who due = 0 then putL L who due else L) ∧ Below b w w' := by
  obtain ⟨t, m, v, h⟩ := h
  refine (set_any h.r hn hd).mono ?_
  rintro e w1 ⟨rfl, v2, g⟩
  exact ⟨rfl, (h.next g).1, (h.next g).2⟩
theorem dset0 (h : Cds b w c n L) (hn : n ≤ 80000) {who due : Int} (h1 : 0 ≤ who) (h2 : who < 8) (h3 : 0 ≤ due) (hd : due ≤ 9223372036854775807) :
    Calls Try.prog 14 #[.pointer (some ⟨c, 0, none⟩), .int .i64 who, .int .i64 due] w fun e w' => e = .returned (.int .i64 0) ∧ Cds b w' c (n + 1) (putL L who due) ∧ Below b w w' := by
  have := dset h hn (who := who) hd
  rw [setE_in h1 h2 h3, if_pos rfl] at this
  exact this
theorem ddrop (h : Cds b w c n L) (hn : n ≤ 80000) {who : Int} (hw : (Lit.int .i64 who).wf = true) :
    Calls Try.prog 16 #[.pointer (some ⟨c, 0, none⟩), .int .i64 who] w fun e w' => e = .returned (.bool (dueL L who).isSome) ∧ Cds b w' c n (delL L who) ∧ Below b w w' := by
  obtain ⟨t, m, v, h⟩ := h
  refine (drop_any h.r hn hw).mono ?_
  rintro e w1 ⟨rfl, v2, g⟩
  exact ⟨rfl, (h.next g).1, (h.next g).2⟩
def FireD (b : Nat) (w : World) (c n : Nat) (L : List Tm) (now : Int) (e : Ending) (w' : World) : Prop :=
  ∃ (o : Value) (l : List Int) (R : List Tm), e = .returned o ∧ w'.ownsRow w.heap.size 3 1 o l.length (il l) ∧ Fired now l L R ∧ Cds b w' c n R ∧ Below b w w'
theorem dfire (h : Cds b w c n L) (hn : n ≤ 80000) (now : Int) : Calls Try.prog 19 #[.pointer (some ⟨c, 0, none⟩), .int .i64 now] w (FireD b w c n L now) := by
  obtain ⟨t, m, v, h⟩ := h
  refine (fire_any h.r hn now).mono ?_
  rintro e w1 ⟨o, l, R, v2, rfl, ho, hf, g⟩
  exact ⟨o, l, R, rfl, ho, hf, (h.next g).1, (h.next g).2⟩
theorem ddue (h : Cds b w c n L) {who : Int} (hw : (Lit.int .i64 who).wf = true) :
    Calls Try.prog 23 #[.pointer (some ⟨c, 0, none⟩), .int .i64 who] w fun e w' => e = .returned (.tuple #[.int .i64 ((dueL L who).getD 0), .bool (dueL L who).isSome]) ∧ w = w' := by
  obtain ⟨t, m, v, h⟩ := h
  exact due_any h.r hw
theorem dlen (h : Cds b w c n L) : Calls Try.prog 24 #[.pointer (some ⟨c, 0, none⟩)] w fun e w' => e = .returned (.int .i64 (L.length : Nat)) ∧ w = w' := by
  obtain ⟨t, m, v, h⟩ := h
  exact clen_any h.r
theorem dnew (w : World) : Calls Try.prog 12 #[] w fun e w' => e = .returned (.pointer (some ⟨w.heap.size + 2, 0, none⟩)) ∧ Cds w.heap.size w' (w.heap.size + 2) 0 [] ∧ Below w.heap.size w w' :=
  (cnew_any w).mono fun e w' ⟨he, r, hb, hs⟩ => ⟨he, ⟨_, _, _, r, by omega, by omega, by omega, by simp [Value.ownBlock], by omega⟩, hb⟩
theorem Cds.keep (h : Cds b w c n L) (hb : Below w.heap.size w w') : Cds b w' c n L := by
  obtain ⟨t, m, v, h⟩ := h
  exact ⟨t, m, v, h.r.keep hb, h.bt, h.bm, h.bc, h.bv, Nat.le_trans h.bw hb.size⟩
theorem Cds.nd (h : Cds b w c n L) : (L.map Tm.k).Nodup := by obtain ⟨t, m, v, h⟩ := h; exact h.r.nd
theorem Cds.rg (h : Cds b w c n L) : ∀ x ∈ L, 0 ≤ x.k ∧ x.k < 8 ∧ 0 ≤ x.d ∧ x.d ≤ 9223372036854775807 := by obtain ⟨t, m, v, h⟩ := h; exact h.r.rg
theorem Cds.le8 (h : Cds b w c n L) : L.length ≤ 8 := by obtain ⟨t, m, v, h⟩ := h; exact h.r.le8
theorem Cds.bw (h : Cds b w c n L) : b ≤ w.heap.size := by obtain ⟨t, m, v, h⟩ := h; exact h.bw
theorem Cds.perm {L2 : List Tm} (h : Cds b w c n L) (p : L.Perm L2) : Cds b w c n L2 := by obtain ⟨t, m, v, h⟩ := h; exact ⟨t, m, v, h.r.perm p, h.bt, h.bm, h.bc, h.bv, h.bw⟩
/-- A list of numbers that came out, cell by cell. -/
theorem row_get {B q : Nat} {o : Value} {l : List Int} (h : w.ownsRow B 3 1 o l.length (il l)) {g cc : Nat} (hv : o = .slice (some ⟨g, 0, none⟩) q cc) {i : Nat} {x : Int} (hi : l[i]? = some x) : w.cell? ⟨g, i, none⟩ = some (.int .i64 x) := by
  subst hv
  exact own_get h (by unfold il; rw [List.getElem?_map, hi]; rfl)
end
set_option maxHeartbeats 4000000 in
set_option maxRecDepth 100000 in
theorem awake26_any (w : World) : Calls Try.prog 25 #[] w (Yes w) := by
  have N := Lib.hid (dnew w)
  go_enter Try.func25, Try.ntmps25
  go_wp2_with fail
  refine N.out.mono ?_
  rintro e w1 ⟨rfl, d1, b1⟩
  have S1 := Lib.hid (dset0 d1 (by omega) (who := 2) (due := 5) (by omega) (by omega) (by omega) (by omega))
  have sz := d1.bw
  replace b1 := Lib.hid b1
  clear d1 N
  go_wp2_with fail
  refine S1.out.mono ?_
  rintro e w2 ⟨rfl, d2, b2⟩
  have S2 := Lib.hid (dset0 d2 (by omega) (who := 0) (due := 5) (by omega) (by omega) (by omega) (by omega))
  replace b2 := Lib.hid (b1.out.trans b2)
  clear d2 S1
  go_wp2_with fail
  refine S2.out.mono ?_
  rintro e w3 ⟨rfl, d3, b3⟩
  have S3 := Lib.hid (dset0 d3 (by omega) (who := 1) (due := 3) (by omega) (by omega) (by omega) (by omega))
  replace b3 := Lib.hid (b2.out.trans b3)
  clear d3 S2
  go_wp2_with fail
  refine S3.out.mono ?_
  rintro e w4 ⟨rfl, d4, b4⟩
  have S4 := Lib.hid (dfire d4 (by omega) 5)
  replace b4 := Lib.hid (b3.out.trans b4)
  clear d4 S3
  go_wp2_with fail
  refine S4.out.mono ?_
  rintro e w5 ⟨o, l, R, rfl, ho, hf, -, b5⟩
  obtain ⟨rfl, -⟩ := fired_det La_nd La_rg (List.Perm.refl _) fired_a hf
  obtain ⟨g, cc, hv⟩ := own_slice' ho (by decide)
  have z0 := row_get ho hv (i := 0) (x := 1) rfl
  have z1 := row_get ho hv (i := 1) (x := 0) rfl
  have z2 := row_get ho hv (i := 2) (x := 2) rfl
  have LT := Lib.hid (late_any 10 3 w5 (by omega) (by omega) (by omega) (by omega))
  subst hv
  replace b5 := Lib.hid (b4.out.trans b5)
  clear ho hf S4
  go_wp2_with fail
  refine LT.out.mono ?_
  rintro e w6 ⟨rfl, rfl⟩
  go_wp2
  go_ret
  exact ⟨rfl, b5.out⟩
end Go.Proofs.Ytcjoemejoeekiaa.Cl
