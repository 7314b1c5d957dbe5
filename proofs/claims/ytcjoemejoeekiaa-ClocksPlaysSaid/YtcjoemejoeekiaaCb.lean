/-
  LAYER 26: the heap of times: its block, its map; Len, Less, Swap.
-/
import Derived.Test.YtcjoemejoeekiaaCa
import Derived.Test.YtcjoemejoeekiaaHc
import Derived.Test.YtcjoemejoeekiaaFr
namespace Go.Proofs.Ytcjoemejoeekiaa.Cl
open Go.RowKit Go.Maps Que Hp Hg
structure Tm where
  d : Int
  k : Int
def Tm.cells (e : Tm) : List Value := [.int .i64 e.d, .int .i64 e.k]
def tmC (l : List Tm) : List Value := l.flatMap Tm.cells
theorem tmC_len (l : List Tm) : (tmC l).length = l.length * 2 := by
  induction l with
  | nil => rfl
  | cons f l ih => simp only [tmC, List.flatMap_cons, List.length_append] at ih ⊢; rw [ih]; simp [Tm.cells]; omega
theorem tmC_get (l : List Tm) : ∀ (i : Nat) (f : Tm), l[i]? = some f → ∀ j, j < 2 → (tmC l)[i * 2 + j]? = f.cells[j]? := by
  induction l with
  | nil => intro i f h; simp at h
  | cons g l ih =>
    intro i f h j hj
    have e : tmC (g :: l) = g.cells ++ tmC l := by simp [tmC]
    rw [e]
    cases i with
    | zero =>
      simp at h; subst h
      rw [Nat.zero_mul, Nat.zero_add, List.getElem?_append_left (by simp [Tm.cells]; exact hj)]
    | succ i =>
      rw [List.getElem?_append_right (by simp [Tm.cells]; omega)]
      rw [show (i + 1) * 2 + j - g.cells.length = i * 2 + j by simp [Tm.cells]; omega]
      exact ih i f (by simpa using h) j hj
theorem tmC_snoc (l : List Tm) (f : Tm) : tmC (l ++ [f]) = tmC l ++ f.cells := by simp [tmC]
theorem tmC_set (l : List Tm) : ∀ (i : Nat) (f : Tm), (tmC l |>.set (i * 2) (.int .i64 f.d) |>.set (i * 2 + 1) (.int .i64 f.k)) = tmC (l.set i f) := by
  induction l with
  | nil => intro i f; simp [tmC]
  | cons g l ih =>
    intro i f
    have e : ∀ (g : Tm) (l : List Tm), tmC (g :: l) = .int .i64 g.d :: .int .i64 g.k :: tmC l := fun g l => by simp [tmC, Tm.cells]
    cases i with
    | zero => simp [e]
    | succ i =>
      rw [e, show (i + 1) * 2 = i * 2 + 1 + 1 by omega, List.set_cons_succ, List.set_cons_succ, List.set_cons_succ, List.set_cons_succ, List.set_cons_succ, e, ih]
def ky (a : Int) : Lit := .int .i64 a
theorem ky_ne {a b : Int} (h : a ≠ b) : ky a ≠ ky b := fun e => h (by unfold ky at e; injection e)
theorem ky_key (a : Int) : WideAt.IsKeyLit (ky a) := trivial
theorem wfI {a : Int} (h0 : 0 ≤ a) (h1 : a ≤ 9223372036854775807) : (Lit.int .i64 a).wf = true := by
  have : (-9223372036854775808 : Int) ≤ a ∧ a ≤ 9223372036854775807 := ⟨by omega, h1⟩
  simpa [Lit.wf, IntKind.min, IntKind.max, IntKind.signed, IntKind.bits] using this
theorem law3 : Keyed Try.prog 3 := int_keyed Try.underlying3
theorem key_of {a : Int} (h0 : 0 ≤ a) (h1 : a < 8) : keyOf Try.prog 3 (.int .i64 a) = some (ky a) := keyOf_int_mk Try.underlying3 (wfI h0 (by omega))
/-- The map tells where each stands. -/
def Pos (D : DataW Unit) (L : List Tm) : Prop :=
  (∀ (i : Nat) (x : Tm), L[i]? = some x → has D (ky x.k) = true ∧ ∀ z, D.atKey (ky x.k) z = .lit (.int .i64 i)) ∧ (∀ a, (∀ x ∈ L, x.k ≠ a) → has D (ky a) = false)
theorem nd_eq {L : List Tm} (h : (L.map Tm.k).Nodup) {i j : Nat} {a b : Tm} (hi : L[i]? = some a) (hj : L[j]? = some b) (e : a.k = b.k) : i = j := nodup_idx h hi hj e
theorem Pos.swap {D : DataW Unit} {L : List Tm} (h : Pos D L) (hD : IsMap D) (hn : (L.map Tm.k).Nodup) {i j : Nat} {a b : Tm} (hi : L[i]? = some a) (hj : L[j]? = some b) :
    Pos ((D.put (ky b.k) (.lit (.int .i64 i))).put (ky a.k) (.lit (.int .i64 j))) (sx L i j) := by
  have hD1 : IsMap (D.put (ky b.k) (.lit (.int .i64 i))) := hD.put _ _
  have li := (List.getElem?_eq_some_iff.1 hi).1
  have lj := (List.getElem?_eq_some_iff.1 hj).1
  constructor
  · intro p x hp
    rw [sx_eq hi hj] at hp
    by_cases e1 : j = p
    · subst e1
      rw [List.getElem?_set_self (by simpa using lj)] at hp
      cases hp
      exact ⟨has_put_same hD1 (ky_key _) _, fun z => atKey_put_same hD1 (ky_key _) _ _⟩
    · rw [List.getElem?_set_ne e1] at hp
      by_cases e2 : i = p
      · subst e2
        rw [List.getElem?_set_self li] at hp
        cases hp
        have hne : ky b.k ≠ ky a.k := ky_ne fun e => e1 (nd_eq hn hj hi e)
        rw [has_put_other hne]
        exact ⟨has_put_same hD (ky_key _) _, fun z => by rw [atKey_put_other hne]; exact atKey_put_same hD (ky_key _) _ _⟩
      · rw [List.getElem?_set_ne e2] at hp
        have h1 : ky x.k ≠ ky a.k := ky_ne fun e => e2 (nd_eq hn hi hp e.symm)
        have h2 : ky x.k ≠ ky b.k := ky_ne fun e => e1 (nd_eq hn hj hp e.symm)
        rw [has_put_other h1, has_put_other h2]
        exact ⟨(h.1 p x hp).1, fun z => by rw [atKey_put_other h1, atKey_put_other h2]; exact (h.1 p x hp).2 z⟩
  · intro q hq
    have hq' : ∀ x ∈ L, x.k ≠ q := fun x hx => hq x ((sx_perm L i j).mem_iff.2 hx)
    rw [has_put_other (ky_ne fun e => hq' a (List.mem_of_getElem? hi) e.symm), has_put_other (ky_ne fun e => hq' b (List.mem_of_getElem? hj) e.symm)]
    exact h.2 q hq'
/-- The times in block t, whose map is in block m. -/
structure Ct (B : Nat) (w : World) (t m n : Nat) (v : Value) (L : List Tm) : Prop where
  row : w.heap[t]? = some (.cells #[v, .map (some m)] 92 (0, 0))
  its : w.ownsRow B 95 2 v L.length (tmC L)
  mp : ∃ D, w.ownsMap Try.prog 3 (plainElem (H := Unit) Try.prog 3) m n D ∧ Pos D L
  nd : (L.map Tm.k).Nodup
  rg : ∀ x ∈ L, 0 ≤ x.k ∧ x.k < 8 ∧ 0 ≤ x.d ∧ x.d ≤ 9223372036854775807
section
variable {B : Nat} {w w' : World} {t m n : Nat} {v : Value} {L : List Tm}
theorem Ct.lt (h : Ct B w t m n v L) : t < w.heap.size := (Array.getElem?_eq_some_iff.1 h.row).1
theorem Ct.c0 (h : Ct B w t m n v L) : w.cell? ⟨t, 0, none⟩ = some v := cell_of_row w t 0 _ 92 (0, 0) h.row
theorem Ct.c1 (h : Ct B w t m n v L) : w.cell? ⟨t, 1, none⟩ = some (.map (some m)) := cell_of_row w t 1 _ 92 (0, 0) h.row
theorem Ct.fz (h : Ct B w t m n v L) (j : Nat) : w.frozen? ⟨t, j, none⟩ = false := frozen_of_row w t j _ 92 h.row
theorem map_keep {D : DataW Unit} {R : Value → Option (DataW Unit × List MemPlace)} (h : w.ownsMap Try.prog 3 R m n D) (hb : Below w.heap.size w w') : w'.ownsMap Try.prog 3 R m n D := by
  obtain ⟨es, clock, hm, rest⟩ := h
  exact ⟨es, clock, (hb.block m (Array.getElem?_eq_some_iff.1 hm).1).trans hm, rest⟩
theorem Ct.keep (h : Ct B w t m n v L) (hb : Below w.heap.size w w') : Ct B w' t m n v L := by
  obtain ⟨D, o, p⟩ := h.mp
  exact ⟨(hb.block t h.lt).trans h.row, own_keep h.its hb, ⟨D, map_keep o hb, p⟩, h.nd, h.rg⟩
theorem Ct.at (h : Ct B w t m n v L) {gb q cb : Nat} (hv : v = .slice (some ⟨gb, 0, none⟩) q cb) {k : Nat} {e : Tm} (hk : L[k]? = some e) : w.cell? ⟨gb, k * 2, none⟩ = some (.int .i64 e.d) ∧ w.cell? ⟨gb, k * 2 + 1, none⟩ = some (.int .i64 e.k) := by
  subst hv
  exact ⟨own_get h.its (by have := tmC_get L k e hk 0 (by omega); simpa [Tm.cells] using this), own_get h.its (by have := tmC_get L k e hk 1 (by omega); simpa [Tm.cells] using this)⟩
theorem Ct.fzr (h : Ct B w t m n v L) {gb cb q : Nat} (hv : v = .slice (some ⟨gb, 0, none⟩) q cb) (j : Nat) : w.frozen? ⟨gb, j, none⟩ = false := by
  have := h.its
  subst hv
  rcases this.2 with ⟨h, -⟩ | ⟨g', cap, cur, hv, hB, hcur, hn, hm, hs, ht⟩
  · cases h
  · simp only [Value.slice.injEq, Option.some.injEq, Addr.mk.injEq, and_true] at hv
    obtain ⟨rfl, -, -⟩ := hv
    exact frozen_of_row w gb j _ 95 hcur
def key (e : Tm) : Int := e.d * 8 + e.k
theorem key_at {G : List Tm} {i : Nat} {e : Tm} (h : G[i]? = some e) : at' (G.map key) i = e.d * 8 + e.k := by
  unfold at'; rw [List.getD_eq_getElem?_getD, List.getElem?_map, h]; rfl
set_option maxRecDepth 100000 in
theorem hlen_any (h : Ct B w t m n v L) : Calls Try.prog 86 #[.pointer (some ⟨t, 0, none⟩)] w fun e w' => e = .returned (.int .i64 (L.length : Nat)) ∧ w = w' := by
  have c0 := h.c0
  obtain ⟨a, c, rfl⟩ := own_slice h.its
  clear h
  go_enter Try.func86, Try.ntmps86
  go_wp2
  go_ret
  exact ⟨rfl, rfl⟩
set_option maxHeartbeats 2000000 in
set_option maxRecDepth 100000 in
theorem less_any (h : Ct B w t m n v L) {i j : Nat} (hi : i < L.length) (hj : j < L.length) (hG : L.length ≤ 1000) :
    Calls Try.prog 87 #[.pointer (some ⟨t, 0, none⟩), .int .i64 i, .int .i64 j] w fun e w' => e = .returned (.bool (decide (at' (L.map key) i < at' (L.map key) j))) ∧ Below w.heap.size w w' := by
  obtain ⟨ei, hei⟩ : ∃ e, L[i]? = some e := ⟨_, List.getElem?_eq_getElem hi⟩
  obtain ⟨ej, hej⟩ : ∃ e, L[j]? = some e := ⟨_, List.getElem?_eq_getElem hj⟩
  obtain ⟨gb, cb, hv⟩ := own_slice' h.its (by omega)
  have c0 := h.c0
  obtain ⟨ci0, ci1⟩ := h.at hv hei
  obtain ⟨cj0, cj1⟩ := h.at hv hej
  obtain ⟨r1, r2, -, -⟩ := h.rg ei (List.mem_of_getElem? hei)
  obtain ⟨q1, q2, -, -⟩ := h.rg ej (List.mem_of_getElem? hej)
  rw [key_at hei, key_at hej]
  subst hv
  have hi0 : (i : Int) < (L.length : Int) := by omega
  have hj0 : (j : Int) < (L.length : Int) := by omega
  have hl' : (L.length : Int) ≤ 1000 := by omega
  obtain ⟨di, ki⟩ := ei
  obtain ⟨dj, kj⟩ := ej
  simp only at *
  have lt := h.lt
  have lg : gb < w.heap.size := World.block_lt_of_cell? w _ ci0
  have X : Hid (∀ W, Below w.heap.size w W → W.cell? ⟨t, 0, none⟩ = some (.slice (some ⟨gb, 0, none⟩) L.length cb) ∧ (W.cell? ⟨gb, i * 2, none⟩ = some (.int .i64 di) ∧ W.cell? ⟨gb, i * 2 + 1, none⟩ = some (.int .i64 ki)) ∧ W.cell? ⟨gb, j * 2, none⟩ = some (.int .i64 dj) ∧ W.cell? ⟨gb, j * 2 + 1, none⟩ = some (.int .i64 kj)) := Lib.hid fun W hW => ⟨(hW.cell lt).trans c0, ⟨(hW.cell lg).trans ci0, (hW.cell lg).trans ci1⟩, (hW.cell lg).trans cj0, (hW.cell lg).trans cj1⟩
  obtain ⟨a0, ⟨a1, a2⟩, a3, a4⟩ := X.out _ (ext_alloc w (.cells #[.int .i64 0, .int .i64 0] 95))
  obtain ⟨b0, ⟨b1, b2⟩, b3, b4⟩ := X.out _ (ext_two w (.cells #[.int .i64 0, .int .i64 0] 95) (.cells #[.int .i64 0, .int .i64 0] 95))
  clear h hei hej X
  by_cases hd : di = dj
  · subst hd
    rw [show decide (di * 8 + ki < di * 8 + kj) = decide (ki < kj) from decide_eq_decide.2 (by omega)]
    go_enter Try.func87, Try.ntmps87
    go_wp2
    go_region
    go_wp2
    all_goals go_ret
    all_goals refine ⟨rfl, ?_⟩
    all_goals repeat' first | exact ext_two _ _ _ | exact ext_trans (ext_two _ _ _) (ext_drew _) | refine Below.setCell ?_ (by simp <;> omega) _ | refine below_drewN ?_ 1
  · rw [show decide (di * 8 + ki < dj * 8 + kj) = decide (di < dj) from decide_eq_decide.2 (by omega)]
    have hdd : (di == dj) = false := by simp [hd]
    go_enter Try.func87, Try.ntmps87
    go_wp2
    go_region
    go_wp2
    all_goals go_ret
    all_goals refine ⟨rfl, ?_⟩
    all_goals repeat' first | exact ext_two _ _ _ | exact ext_trans (ext_two _ _ _) (ext_drew _) | refine Below.setCell ?_ (by simp <;> omega) _ | refine below_drewN ?_ 1
def SV (v : Value) (m k : Nat) : Prop := v.ownBlock = some k ∨ k = m
theorem Ct.store (h : w.ownsRow B 95 2 v L.length (tmC L)) {gb cb : Nat} (hv : v = .slice (some ⟨gb, 0, none⟩) L.length cb) {k : Nat} (e : Tm) : ((w.setCell ⟨gb, k * 2, none⟩ (.int .i64 e.d)).setCell ⟨gb, k * 2 + 1, none⟩ (.int .i64 e.k)).ownsRow B 95 2 v (L.set k e).length (tmC (L.set k e)) := by
  subst hv
  have := (((h.stored (k * 2) (.int .i64 e.d)).1).stored (k * 2 + 1) (.int .i64 e.k)).1
  rw [tmC_set] at this
  simpa using this
end
end Go.Proofs.Ytcjoemejoeekiaa.Cl
