/-
  LAYER 26: two clocks; what fires, in order; two lists of numbers; an array of eight that came in.
-/
import Derived.Test.YtcjoemejoeekiaaCo
import Derived.OpenShut
namespace Go.Proofs.Ytcjoemejoeekiaa.Cl
open Go.RowKit Go.Maps Que Hp Hg
theorem fired_mem {now : Int} : ∀ {l : List Int} {L R : List Tm}, Fired now l L R → ∀ x ∈ R, x ∈ L ∧ now < x.d := by
  intro l
  induction l with
  | nil => intro L R h x hx; have := h.1.mem_iff.1 hx; exact ⟨this, h.2 x this⟩
  | cons k l ih =>
    intro L R h x hx
    obtain ⟨y, S, rfl, hd, hp, hm, hf⟩ := h
    obtain ⟨h1, h2⟩ := ih hf x hx
    exact ⟨hp.mem_iff.2 (List.mem_cons_of_mem _ h1), h2⟩
theorem fired_len {now : Int} : ∀ {l : List Int} {L R : List Tm}, Fired now l L R → L.length = l.length + R.length := by
  intro l
  induction l with
  | nil => intro L R h; have := h.1.length_eq; simp; omega
  | cons k l ih =>
    intro L R h
    obtain ⟨y, S, rfl, hd, hp, hm, hf⟩ := h
    have := ih hf
    have := hp.length_eq
    simp at *; omega
theorem fired_sorted {now : Int} : ∀ {l : List Int} {L R : List Tm}, Fired now l L R → ∀ {i : Nat} {a b : Int}, l[i]? = some a → l[i + 1]? = some b → ∃ x y, x ∈ L ∧ y ∈ L ∧ x.k = a ∧ y.k = b ∧ key x ≤ key y := by
  intro l
  induction l with
  | nil => intro L R h i a b ha; simp at ha
  | cons k l ih =>
    intro L R h i a b ha hb
    obtain ⟨x, S, rfl, hd, hp, hm, hf⟩ := h
    cases i with
    | zero =>
      cases l with
      | nil => simp at hb
      | cons k2 l =>
        obtain ⟨y, S2, rfl, hd2, hp2, hm2, hf2⟩ := hf
        simp at ha hb
        have hy : y ∈ L := hp.mem_iff.2 (List.mem_cons_of_mem _ hm2.1)
        exact ⟨x, y, hm.1, hy, ha, hb, hm.2 y hy⟩
    | succ i =>
      obtain ⟨y, z, h1, h2, h3, h4, h5⟩ := ih hf (by simpa using ha) (by simpa using hb)
      exact ⟨y, z, hp.mem_iff.2 (List.mem_cons_of_mem _ h1), hp.mem_iff.2 (List.mem_cons_of_mem _ h2), h3, h4, h5⟩
section
variable {w w' : World} {b : Nat}
theorem Cr.apart {c1 t1 m1 n1 c2 t2 m2 n2 : Nat} {v1 v2 : Value} {L1 L2 : List Tm} (h1 : Cr w c1 t1 m1 n1 v1 L1) (h2 : Cr w c2 t2 m2 n2 v2 L2) (ht : t2 ≠ t1) (hm : m2 ≠ m1) (hv : ∀ k, v2.ownBlock = some k → v1.ownBlock ≠ some k) :
    ¬ SI t1 m1 v1 c2 ∧ ¬ SI t1 m1 v1 t2 ∧ ¬ SI t1 m1 v1 m2 ∧ ∀ k, v2.ownBlock = some k → ¬ SI t1 m1 v1 k := by
  obtain ⟨L1', a1, -, -⟩ := h1.ex
  obtain ⟨L2', a2, -, -⟩ := h2.ex
  obtain ⟨D1, o1, -⟩ := a1.mp
  obtain ⟨D2, o2, -⟩ := a2.mp
  refine ⟨?_, ?_, ?_, ?_⟩
  · rintro (e | e | e)
    · subst e
      have := h2.row
      rw [a1.row] at this
      simp at this
    · exact map_ne o1 h2.row e.symm
    · exact own_far a1.its h2.row (by decide) e.symm
  · rintro (e | e | e)
    · exact ht e
    · exact map_ne o1 a2.row e.symm
    · exact own_far a1.its a2.row (by decide) e.symm
  · rintro (e | e | e)
    · exact map_ne o2 a1.row e
    · exact hm e
    · exact map_own (t2 := 95) o2 a1.its e
  · intro k hk
    rintro (e | e | e)
    · subst e
      exact own_far a2.its a1.row (by decide) hk.symm
    · subst e
      exact map_own (t2 := 95) o1 a2.its hk
    · exact hv k hk e
theorem Cr.fars {S : Nat → Prop} {c t m n : Nat} {v : Value} {L : List Tm} (h : Cr w c t m n v L) (F : Far S w w') (hc : ¬ S c) (ht : ¬ S t) (hm : ¬ S m) (hv : ∀ k, v.ownBlock = some k → ¬ S k) : Cr w' c t m n v L := by
  obtain ⟨L', a, p, hp⟩ := h.ex
  exact ⟨(F.block c h.lt hc).trans h.row, L', a.fars F ht hm hv, p, hp⟩
theorem Cr.vb {c t m n : Nat} {v : Value} {L : List Tm} (h : Cr w c t m n v L) : (∀ k, v.ownBlock = some k → k < w.heap.size) ∧ t < w.heap.size ∧ m < w.heap.size := by
  obtain ⟨L', a, p, hp⟩ := h.ex
  exact ⟨a.vb, a.lt, a.mp.choose_spec.1.lt⟩
/-- Two clocks. -/
structure Twos (b : Nat) (w : World) (c1 n1 : Nat) (L1 : List Tm) (c2 n2 : Nat) (L2 : List Tm) (t1 m1 : Nat) (v1 : Value) (t2 m2 : Nat) (v2 : Value) : Prop where
  x : Cbs b w c1 n1 L1 t1 m1 v1
  y : Cbs b w c2 n2 L2 t2 m2 v2
  nt : t2 ≠ t1
  nm : m2 ≠ m1
  nv : ∀ k, v2.ownBlock = some k → v1.ownBlock ≠ some k
def Two (b : Nat) (w : World) (c1 n1 : Nat) (L1 : List Tm) (c2 n2 : Nat) (L2 : List Tm) : Prop := ∃ t1 m1 v1 t2 m2 v2, Twos b w c1 n1 L1 c2 n2 L2 t1 m1 v1 t2 m2 v2
variable {c1 n1 c2 n2 : Nat} {L1 L2 : List Tm}
theorem Two.symm (h : Two b w c1 n1 L1 c2 n2 L2) : Two b w c2 n2 L2 c1 n1 L1 := by
  obtain ⟨t1, m1, v1, t2, m2, v2, h⟩ := h
  exact ⟨t2, m2, v2, t1, m1, v1, h.y, h.x, h.nt.symm, h.nm.symm, fun k hk e => h.nv k e hk⟩
theorem Twos.step {t1 m1 t2 m2 n' : Nat} {v1 v2 v' : Value} {L' : List Tm} (h : Twos b w c1 n1 L1 c2 n2 L2 t1 m1 v1 t2 m2 v2) (g : Cx w w' c1 t1 m1 n' v1 L' v') : Two b w' c1 n' L' c2 n2 L2 ∧ Below b w w' := by
  obtain ⟨q1, q2, q3, q4⟩ := h.x.r.apart h.y.r h.nt h.nm h.nv
  have N := h.x.next g
  refine ⟨⟨t1, m1, v', t2, m2, v2, ⟨g.r, h.x.bt, h.x.bm, h.x.bc, g.nb2 h.x.bw h.x.bv, Nat.le_trans h.x.bw g.far.size⟩, ⟨h.y.r.fars g.far q1 q2 q3 q4, h.y.bt, h.y.bm, h.y.bc, h.y.bv, Nat.le_trans h.y.bw g.far.size⟩, h.nt, h.nm, fun k hk e => ?_⟩, N.2⟩
  rcases g.nb k e with e | e
  · exact h.nv k hk e
  · have := h.y.r.vb.1 k hk; omega
theorem Two.of (h : Cds b w c1 n1 L1) {t2 m2 : Nat} {v2 : Value} {w2 : World} (hb : Below w.heap.size w w2) (h2 : Cbs w.heap.size w2 c2 n2 L2 t2 m2 v2) : Two b w2 c1 n1 L1 c2 n2 L2 := by
  obtain ⟨t1, m1, v1, h⟩ := h
  have q := h.r.vb
  refine ⟨t1, m1, v1, t2, m2, v2, ⟨h.r.keep hb, h.bt, h.bm, h.bc, h.bv, Nat.le_trans h.bw hb.size⟩, ⟨h2.r, Nat.le_trans h.bw h2.bt, Nat.le_trans h.bw h2.bm, Nat.le_trans h.bw h2.bc, fun k hk => Nat.le_trans h.bw (h2.bv k hk), Nat.le_trans h.bw hb.size⟩, ?_, ?_, fun k hk e => ?_⟩
  · have := h2.bt; omega
  · have := h2.bm; omega
  · have := h2.bv k hk; have := q.1 k e; omega
theorem tset (h : Two b w c1 n1 L1 c2 n2 L2) (hn : n1 ≤ 80000) {who due : Int} (h1 : 0 ≤ who) (h2 : who < 8) (h3 : 0 ≤ due) (hd : due ≤ 9223372036854775807) :
    Calls Try.prog 14 #[.pointer (some ⟨c1, 0, none⟩), .int .i64 who, .int .i64 due] w fun e w' => e = .returned (.int .i64 0) ∧ Two b w' c1 (n1 + 1) (putL L1 who due) c2 n2 L2 ∧ Below b w w' := by
  obtain ⟨t1, m1, v1, t2, m2, v2, h⟩ := h
  refine (set_any h.x.r hn (who := who) hd).mono ?_
  rintro e w1 ⟨rfl, v2, g⟩
  rw [setE_in h1 h2 h3, if_pos rfl] at g
  exact ⟨by rw [setE_in h1 h2 h3], h.step g⟩
def FireT (b : Nat) (w : World) (c1 n1 : Nat) (L1 : List Tm) (c2 n2 : Nat) (L2 : List Tm) (now : Int) (e : Ending) (w' : World) : Prop :=
  ∃ (o : Value) (l : List Int) (R : List Tm), e = .returned o ∧ w'.ownsRow w.heap.size 3 1 o l.length (il l) ∧ Fired now l L1 R ∧ Two b w' c1 n1 R c2 n2 L2 ∧ Below b w w'
theorem tfire (h : Two b w c1 n1 L1 c2 n2 L2) (hn : n1 ≤ 80000) (now : Int) : Calls Try.prog 19 #[.pointer (some ⟨c1, 0, none⟩), .int .i64 now] w (FireT b w c1 n1 L1 c2 n2 L2 now) := by
  obtain ⟨t1, m1, v1, t2, m2, v2, h⟩ := h
  refine (fire_any h.x.r hn now).mono ?_
  rintro e w1 ⟨o, l, R, v', rfl, ho, hf, g⟩
  exact ⟨o, l, R, rfl, ho, hf, h.step g⟩
theorem Two.keep (h : Two b w c1 n1 L1 c2 n2 L2) (hb : Below w.heap.size w w') : Two b w' c1 n1 L1 c2 n2 L2 := by
  obtain ⟨t1, m1, v1, t2, m2, v2, x, y, h1, h2, h3⟩ := h
  exact ⟨t1, m1, v1, t2, m2, v2, ⟨x.r.keep hb, x.bt, x.bm, x.bc, x.bv, Nat.le_trans x.bw hb.size⟩, ⟨y.r.keep hb, y.bt, y.bm, y.bc, y.bv, Nat.le_trans y.bw hb.size⟩, h1, h2, h3⟩
theorem Two.len1 (h : Two b w c1 n1 L1 c2 n2 L2) : Calls Try.prog 24 #[.pointer (some ⟨c1, 0, none⟩)] w fun e w' => e = .returned (.int .i64 (L1.length : Nat)) ∧ w = w' := by
  obtain ⟨t1, m1, v1, t2, m2, v2, h⟩ := h
  exact clen_any h.x.r
theorem Two.bw (h : Two b w c1 n1 L1 c2 n2 L2) : b ≤ w.heap.size := by
  obtain ⟨t1, m1, v1, t2, m2, v2, h⟩ := h
  exact h.x.bw
/-- A list of numbers that came out is untouched by the clocks. -/
theorem fired_row {t1 m1 n1 n' : Nat} {v1 v' : Value} {L' : List Tm} {o : Value} {xs : List Value} {q B : Nat} (h : Cr w c1 t1 m1 n1 v1 L1) (g : Cx w w' c1 t1 m1 n' v1 L' v') (ho : w.ownsRow B 3 1 o q xs) : w'.ownsRow B 3 1 o q xs :=
  own_fars ho g.far (fun k hk => (h.not_own ho k hk).1)
theorem tfire2 (h : Two b w c1 n1 L1 c2 n2 L2) (hn : n1 ≤ 80000) (now : Int) {o : Value} {xs : List Value} {q B : Nat} (ho : w.ownsRow B 3 1 o q xs) : Calls Try.prog 19 #[.pointer (some ⟨c1, 0, none⟩), .int .i64 now] w (fun e w' => FireT b w c1 n1 L1 c2 n2 L2 now e w' ∧ w'.ownsRow B 3 1 o q xs) := by
  obtain ⟨t1, m1, v1, t2, m2, v2, h⟩ := h
  refine (fire_any h.x.r hn now).mono ?_
  rintro e w1 ⟨o2, l, R, v', rfl, ho2, hf, g⟩
  exact ⟨⟨o2, l, R, rfl, ho2, hf, h.step g⟩, fired_row h.x.r g ho⟩
end
section
variable {w : World}
set_option maxRecDepth 100000 in
theorem ints_any {B1 B2 : Nat} {v1 v2 : Value} {L : List Int} (o1 : w.ownsRow B1 3 1 v1 L.length (il L)) (o2 : w.ownsRow B2 3 1 v2 L.length (il L)) (hL : L.length ≤ 400) : Calls Try.prog 18 #[v1, v2] w (Yes w) := by
  obtain ⟨a1, c1, rfl⟩ := own_slice o1
  obtain ⟨a2, c2, rfl⟩ := own_slice o2
  have hL' : (L.length : Int) ≤ 400 := by omega
  replace o1 := Lib.hid o1
  replace o2 := Lib.hid o2
  go_enter Try.func18, Try.ntmps18
  go_wp2_with fail
  go_loopw [5] (fun iv wr => ∃ k : Nat, iv = .int .i64 (k : Int) ∧ k ≤ L.length ∧ Below w.heap.size w wr) (fun iv _ => L.length - (intOf iv).toNat)
  case atStart => exact ⟨0, rfl, by omega, Below.refl _ _⟩
  case round =>
    obtain ⟨k, rfl, hk, hb⟩ := hrel
    have HB := Lib.hid hb
    by_cases hlt : k < L.length
    · have hlt' : (k : Int) < (L.length : Int) := by omega
      obtain ⟨y, hy⟩ : ∃ y, L[k]? = some y := ⟨_, List.getElem?_eq_getElem hlt⟩
      obtain ⟨g1, d1, e1⟩ := own_slice' o1.out (by omega)
      obtain ⟨g2, d2, e2⟩ := own_slice' o2.out (by omega)
      have k1 : wr.cell? ⟨g1, k, none⟩ = some (.int .i64 y) := by
        have := own_keep o1.out hb
        rw [e1] at this
        exact own_get this (by simp [il, hy])
      have k2 : wr.cell? ⟨g2, k, none⟩ = some (.int .i64 y) := by
        have := own_keep o2.out hb
        rw [e2] at this
        exact own_get this (by simp [il, hy])
      simp only [Value.slice.injEq] at e1 e2
      obtain ⟨rfl, -, rfl⟩ := e1
      obtain ⟨rfl, -, rfl⟩ := e2
      clear hb hy hk
      go_wp2_with fail
      go_quiet (fail)
      go_wp2_with fail
      go_roundw
      case rel => exact ⟨k + 1, by simp, by omega, below_drewN HB.out _⟩
      case measure => simp [intOf]; omega
    · obtain rfl : k = L.length := by omega
      clear hb hk
      go_wp2_with fail
      go_ret
      exact ⟨rfl, HB.out⟩
end
end Go.Proofs.Ytcjoemejoeekiaa.Cl
