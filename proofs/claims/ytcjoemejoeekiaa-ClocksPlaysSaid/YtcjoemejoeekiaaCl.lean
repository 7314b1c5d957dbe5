/-
  LAYER 26: heap.Pop, first, heap.Remove.
-/
import Derived.Test.YtcjoemejoeekiaaCk
import Derived.Test.YtcjoemejoeekiaaCd
namespace Go.Proofs.Ytcjoemejoeekiaa.Cl
open Go.RowKit Go.Maps Que Hp Hg
section
variable {B : Nat} {w w' : World} {t m n : Nat} {v : Value} {L : List Tm}
def HPop (B : Nat) (w : World) (t m n : Nat) (v : Value) (L : List Tm) (x : Tm) (w' : World) : Prop :=
  ∃ v' R, List.Perm (R ++ [x]) L ∧ HeapP (R.map key) R.length ∧ CNew B w w' t m n v R v'
theorem take_last {G : List Tm} {q : Nat} {x : Tm} (hl : G.length = q + 1) (hx : G[q]? = some x) (hp : G.Perm L) (hh : HeapP (G.map key) q) : ∃ R : List Tm, G = R ++ [x] ∧ R.length = q ∧ HeapP (R.map key) R.length ∧ List.Perm (R ++ [x]) L := by
  have e : G = G.take q ++ [x] := by
    have h1 := List.take_append_drop q G
    have h2 : G.drop q = [x] := by
      rw [List.drop_eq_getElem_cons (by omega), List.drop_eq_nil_of_le (by omega)]
      have := List.getElem?_eq_getElem (l := G) (i := q) (by omega)
      rw [this] at hx
      rw [Option.some.inj hx]
    rw [h2] at h1
    exact h1.symm
  have hr : (G.take q).length = q := by simp; omega
  refine ⟨G.take q, e, hr, ?_, e ▸ hp⟩
  rw [hr, List.map_take]
  intro i hi0 hin
  rw [at_take (by omega), at_take hin]
  exact hh i hi0 hin
theorem CNew.aft {v' : Value} {w1 : World} (f : Far (SV v m) w w1) (c : CNew B w1 w' t m n v L v') : CNew B w w' t m n v L v' :=
  ⟨c.r, (f.mono (S' := SI t m v) (fun k _ e => e.elim (fun e => .inr (.inr e)) (fun e => .inr (.inl e)))).trans c.far (fun _ _ h => h), fun k hk => (c.nb k hk).imp id (fun h => Nat.le_trans f.size h)⟩
theorem sx_at {G : List Tm} {i j : Nat} {a : Tm} (hi : G[i]? = some a) (hj : j < G.length) : (sx G i j)[j]? = some a := by
  rw [sx_eq hi (List.getElem?_eq_getElem hj), List.getElem?_set_self (by simpa using hj)]
theorem fx_swap {i q : Nat} (hp : HeapP (L.map key) L.length) (hq : L.length = q + 1) : Fx ((sx L i q).map key) q i := by
  refine fx_of hp (by omega) (fun k hk hne => ?_)
  unfold at'
  rw [List.getD_eq_getElem?_getD, List.getD_eq_getElem?_getD, List.getElem?_map, List.getElem?_map, sx_far L hne (by omega)]
/-- One and the last one have changed places, and what is ahead of the last is put right. -/
def Sunk (B : Nat) (w : World) (t m n : Nat) (v : Value) (L : List Tm) (x : Tm) (q : Nat) (w' : World) : Prop :=
  ∃ R : List Tm, R.length = q ∧ HeapP (R.map key) R.length ∧ List.Perm (R ++ [x]) L ∧ Ct B w' t m n v (R ++ [x]) ∧ Far (SV v m) w w'
theorem sunk_of {w1 : World} {G0 G : List Tm} {q : Nat} {x : Tm} (hl : L.length = q + 1) (h0 : G0.Perm L) (hx : G0[q]? = some x) (f0 : Far (SV v m) w w1) (hp : G.Perm G0) (hh : HeapP (G.map key) q) (hk : G[q]? = G0[q]?) (r : Ct B w' t m n v G) (f : Far (SV v m) w1 w') : Sunk B w t m n v L x q w' := by
  obtain ⟨R, rfl, h1, h2, h3⟩ := take_last (L := L) (by rw [hp.length_eq, h0.length_eq, hl]) (hk.trans hx) (hp.trans h0) hh
  exact ⟨R, h1, h2, h3, r, f0.trans f (fun _ _ h => h)⟩
set_option maxHeartbeats 4000000 in
set_option maxRecDepth 100000 in
theorem hpop_any (h : Ct B w t m n v L) (hp : HeapP (L.map key) L.length) {x : Tm} (hx : L[0]? = some x) (hl : L.length ≤ 500) (hn : n ≤ 90000) :
    Calls Try.prog 61 #[.iface 52 (.pointer (some ⟨t, 0, none⟩))] w fun e w' => e = .returned (.iface 95 (.agg #[.int .i64 x.d, .int .i64 x.k])) ∧ HPop B w t m n v L x w' := by
  have km := m_pop
  have kl := m_len
  have ks := m_swap
  have h0 := (List.getElem?_eq_some_iff.1 hx).1
  obtain ⟨q, hq⟩ : ∃ q, L.length = q + 1 := ⟨L.length - 1, by omega⟩
  have LL : Hid (Calls Try.prog 86 #[.pointer (some ⟨t, 0, none⟩)] w fun e w' => e = .returned (.int .i64 ((q : Int) + 1)) ∧ w = w') := Lib.hid (by
    have := hlen_any h
    rwa [show ((L.length : Nat) : Int) = (q : Int) + 1 by omega] at this)
  have SD : Hid (Calls Try.prog 90 #[.pointer (some ⟨t, 0, none⟩), .int .i64 0, .int .i64 q] w fun e w' => e = .returned (.tuple #[]) ∧ Ct B w' t m n v (sx L 0 q) ∧ Far (SV v m) w w') := Lib.hid (by
    by_cases h0 : q = 0
    · subst h0
      exact swap_same h (i := 0) (by omega) (by omega) (by omega)
    · exact swap_any h (i := 0) (j := q) (by omega) (by omega) (by omega) (by omega) (by omega))
  have hFX := Lib.hid (fx_swap (i := 0) hp hq)
  have hX := Lib.hid (sx_at hx (j := q) (by omega))
  have hP := Lib.hid (sx_perm L 0 q)
  have hq2 : (q : Int) ≤ 500 := by omega
  replace hq := Lib.hid hq
  clear h hp hx
  go_enter Try.func61, Try.ntmps61
  go_wp2_with fail
  refine LL.out.mono ?_
  rintro e w1 ⟨rfl, rfl⟩
  go_wp2_with fail
  refine SD.out.mono ?_
  rintro e w1 ⟨rfl, c1, f1⟩
  have DD : Hid (Calls Try.prog 60 #[.iface 52 (.pointer (some ⟨t, 0, none⟩)), .int .i64 0, .int .i64 q] w1 fun e w' => (∃ b, e = .returned (.bool b)) ∧ Sunk B w t m n v L x q w') := Lib.hid (by
    refine (down_any (hs_any B t m n v (sx L 0 q).length (by rw [sx_len]; omega) (by omega)) ⟨c1, rfl⟩ (n := q) (i0 := 0) (by rw [sx_len]; have := hq.out; omega) hFX.out (by rw [sx_len]; omega) (by omega)).mono ?_
    rintro e w2 ⟨b, G, rfl, p, hk, i, f, h1, h2⟩
    refine ⟨⟨b, rfl⟩, sunk_of hq.out hP.out hX.out f1 p ?_ (hk q (Nat.le_refl _)) i.1 f⟩
    cases b
    · obtain ⟨rfl, hu⟩ := h2 rfl
      by_cases h0 : 0 < q
      · exact (hu h0).done (.inl rfl)
      · intro i hi hiq; omega
    · exact h1 rfl)
  clear c1 f1 SD LL kl ks hFX hX hP
  go_wp2_with fail
  refine DD.out.mono ?_
  rintro e w2 ⟨⟨b, rfl⟩, R, hR, hh, hp, c2, f2⟩
  have PP := Lib.hid (lpop_any c2 (by omega))
  replace hh := Lib.hid hh
  replace hp := Lib.hid hp
  replace f2 := Lib.hid f2
  clear c2 DD
  go_wp2_with fail
  refine PP.out.mono ?_
  rintro e w3 ⟨rfl, v3, n3⟩
  have Z : Hid (HPop B w t m n v L x w3) := Lib.hid ⟨v3, R, hp.out, hh.out, n3.aft f2.out⟩
  clear n3 PP
  go_wp2
  go_ret
  exact ⟨rfl, Z.out⟩
theorem size95 : (Try.prog.info? 95).map (fun i => i.size) = some 2 := by kernel_rfl
theorem Ct.fars {S : Nat → Prop} (h : Ct B w t m n v L) (F : Far S w w') (ht : ¬ S t) (hm : ¬ S m) (hv : ∀ k, v.ownBlock = some k → ¬ S k) : Ct B w' t m n v L := by
  obtain ⟨D, o, p⟩ := h.mp
  refine ⟨(F.block t h.lt ht).trans h.row, own_fars h.its F hv, ⟨D, ?_, p⟩, h.nd, h.rg⟩
  obtain ⟨es, clock, hmm, rest⟩ := o
  exact ⟨es, clock, (F.block m (Array.getElem?_eq_some_iff.1 hmm).1 hm).trans hmm, rest⟩
theorem Ct.vb (h : Ct B w t m n v L) : ∀ k, v.ownBlock = some k → k < w.heap.size := by
  intro k hk
  rcases h.its.2 with ⟨rfl, -⟩ | ⟨g', cap, cur, rfl, _, hcur, _⟩
  · simp [Value.ownBlock] at hk
  · obtain rfl : g' = k := by simpa [Value.ownBlock] using hk
    exact (Array.getElem?_eq_some_iff.1 hcur).1
set_option maxHeartbeats 4000000 in
set_option maxRecDepth 100000 in
theorem first_any (h : Ct B w t m n v L) (hp : HeapP (L.map key) L.length) {x : Tm} (hx : L[0]? = some x) (hl : L.length ≤ 500) (hn : n ≤ 90000) :
    Calls Try.prog 44 #[.pointer (some ⟨t, 0, none⟩)] w fun e w' => e = .returned (.agg #[.int .i64 x.d, .int .i64 x.k]) ∧ HPop B w t m n v L x w' := by
  have ka := as_tm
  have hW : Below w.heap.size w (w.alloc (.cells #[.int .i64 0, .int .i64 0] 95)) := ext_alloc w _
  have P : Hid (Calls Try.prog 61 #[.iface 52 (.pointer (some ⟨t, 0, none⟩))] (w.alloc (.cells #[.int .i64 0, .int .i64 0] 95)) fun e w' => e = .returned (.iface 95 (.agg #[.int .i64 x.d, .int .i64 x.k])) ∧ HPop B (w.alloc (.cells #[.int .i64 0, .int .i64 0] 95)) t m n v L x w') := Lib.hid (hpop_any (h.keep hW) hp hx hl hn)
  have lt := h.lt
  have hm := h.mp.choose_spec.1.lt
  have hvb : ∀ k, v.ownBlock = some k → k < w.heap.size := h.vb
  clear h hp hx
  go_enter Try.func44, Try.ntmps44
  go_wp2_with fail
  refine P.out.mono ?_
  rintro e w1 ⟨rfl, v', R, p, hh, c⟩
  have hblk : w1.heap[w.heap.size]? = some (.cells #[.int .i64 0, .int .i64 0] 95 (0, 0)) :=
    (c.far.block _ (by simp) (fun e => by
      rcases e with e | e | e
      · omega
      · omega
      · have := hvb _ e; omega)).trans (heap_alloc_new w _)
  have y0 : w1.cell? ⟨w.heap.size, 0, none⟩ = some (.int .i64 0) := cell_of_row w1 _ 0 _ 95 (0, 0) hblk
  have y1 : w1.cell? ⟨w.heap.size, 1, none⟩ = some (.int .i64 0) := cell_of_row w1 _ 1 _ 95 (0, 0) hblk
  have yf0 : w1.frozen? ⟨w.heap.size, 0, none⟩ = false := frozen_of_row w1 _ 0 _ 95 hblk
  have yf1 : w1.frozen? ⟨w.heap.size, 1, none⟩ = false := frozen_of_row w1 _ 1 _ 95 hblk
  have Z : Hid (HPop B w t m n v L x ((w1.setCell ⟨w.heap.size, 0, none⟩ (.int .i64 x.d)).setCell ⟨w.heap.size, 1, none⟩ (.int .i64 x.k))) := Lib.hid (by
    have F1 : ∀ (W : World) (j : Nat) (u : Value), Far (fun k => k = w.heap.size) W (W.setCell ⟨w.heap.size, j, none⟩ u) := fun W j u => ⟨rfl, rfl, rfl, by simp [World.setCell], fun q _ hq => Below.heap_setCell _ _ _ _ hq⟩
    have F2 := (F1 w1 0 (.int .i64 x.d)).trans (F1 _ 1 (.int .i64 x.k)) (fun _ _ h => h)
    refine ⟨v', R, p, hh, c.r.fars F2 (by omega) (by omega) (fun k hk e => ?_), ?_, fun k hk => (c.nb k hk).imp id (fun h => Nat.le_trans hW.size h)⟩
    · rcases c.nb k hk with e2 | e2
      · have := hvb _ e2; omega
      · simp at e2; omega
    · have F3 := ((Far.of_ext (S := SI t m v) hW).trans c.far (fun _ _ h => h))
      exact F3.trans F2 (fun k hk e => by omega))
  have hg2 : Hid (((w1.setCell ⟨w.heap.size, 0, none⟩ (.int .i64 x.d)).setCell ⟨w.heap.size, 1, none⟩ (.int .i64 x.k)).heap[w.heap.size]? = some (.cells #[.int .i64 x.d, .int .i64 x.k] 95 (0, 0))) := Lib.hid (by
    have := heap_setCell_same _ w.heap.size 1 _ 95 (.int .i64 x.k) (heap_setCell_same w1 w.heap.size 0 _ 95 (.int .i64 x.d) hblk)
    simpa using this)
  clear hblk p hh c P
  go_wp2
  (try simp only [Exit.inBlock, Exit.then])
  exact bodyPost_ret_by (results_cell_row rfl _ _ w.heap.size 95 #[.int .i64 x.d, .int .i64 x.k] (0, 0) _ rfl hg2.out Try.underlying95 rfl size95) rfl ⟨rfl, Z.out⟩
set_option maxHeartbeats 8000000 in
set_option maxRecDepth 100000 in
theorem hrem_any (h : Ct B w t m n v L) (hp : HeapP (L.map key) L.length) {i : Nat} {x : Tm} (hx : L[i]? = some x) (hl : L.length ≤ 500) (hn : n ≤ 90000) :
    Calls Try.prog 43 #[.iface 52 (.pointer (some ⟨t, 0, none⟩)), .int .i64 i] w fun e w' => e = .returned (.iface 95 (.agg #[.int .i64 x.d, .int .i64 x.k])) ∧ HPop B w t m n v L x w' := by
  have km := m_pop
  have kl := m_len
  have ks := m_swap
  have h0 := (List.getElem?_eq_some_iff.1 hx).1
  obtain ⟨q, hq⟩ : ∃ q, L.length = q + 1 := ⟨L.length - 1, by omega⟩
  have LL : Hid (Calls Try.prog 86 #[.pointer (some ⟨t, 0, none⟩)] w fun e w' => e = .returned (.int .i64 ((q : Int) + 1)) ∧ w = w') := Lib.hid (by
    have := hlen_any h
    rwa [show ((L.length : Nat) : Int) = (q : Int) + 1 by omega] at this)
  have hq2 : (q : Int) ≤ 500 := by omega
  have hi2 : (i : Int) ≤ 500 := by omega
  -- what the own Pop makes of it
  have FIN : Hid (∀ W, Sunk B w t m n v L x q W → Calls Try.prog 88 #[.pointer (some ⟨t, 0, none⟩)] W fun e w' => e = .returned (.iface 95 (.agg #[.int .i64 x.d, .int .i64 x.k])) ∧ HPop B w t m n v L x w') := Lib.hid (by
    rintro W ⟨R, hR, hh, hp, c2, f2⟩
    exact (lpop_any c2 (by omega)).mono fun e w' ⟨he, v3, n3⟩ => ⟨he, v3, R, hp, hh, n3.aft f2⟩)
  by_cases hqi : q = i
  · subst hqi
    have PP := Lib.hid (FIN.out w (sunk_of hq (List.Perm.refl _) hx (Far.refl _ w) (List.Perm.refl _) (fun i h0 hi => hp i h0 (by omega)) rfl h (Far.refl _ w)))
    clear h hp hx FIN
    go_enter Try.func43, Try.ntmps43
    go_wp2_with fail
    refine LL.out.mono ?_
    rintro e w1 ⟨rfl, rfl⟩
    go_wp2_with fail
    refine PP.out.mono ?_
    rintro e w3 ⟨rfl, z⟩
    replace z := Lib.hid z
    clear PP
    go_wp2
    go_ret
    exact ⟨rfl, z.out⟩
  · have hqb : ((q : Int) == (i : Int)) = false := by rw [beq_eq_false_iff_ne]; omega
    have hiq : i < q := by omega
    have SD := Lib.hid (swap_any h (i := i) (j := q) (by omega) (by omega) (by omega) (by omega) (by omega))
    have hFX := Lib.hid (fx_swap (i := i) hp hq)
    have hX := Lib.hid (sx_at hx (j := q) (by omega))
    have hP := Lib.hid (sx_perm L i q)
    replace hq := Lib.hid hq
    clear h hp hx
    go_enter Try.func43, Try.ntmps43
    go_wp2_with fail
    refine LL.out.mono ?_
    rintro e w1 ⟨rfl, rfl⟩
    go_wp2_with fail
    refine SD.out.mono ?_
    rintro e w1 ⟨rfl, c1, f1⟩
    have DD : Hid (Calls Try.prog 60 #[.iface 52 (.pointer (some ⟨t, 0, none⟩)), .int .i64 i, .int .i64 q] w1 fun e w' => ∃ b, e = .returned (.bool b) ∧ (b = true → Sunk B w t m n v L x q w') ∧ (b = false → Calls Try.prog 59 #[.iface 52 (.pointer (some ⟨t, 0, none⟩)), .int .i64 i] w' fun e w' => e = .returned (.tuple #[]) ∧ Sunk B w t m n v L x q w')) := Lib.hid (by
      refine (down_any (hs_any B t m n v (sx L i q).length (by rw [sx_len]; omega) (by omega)) ⟨c1, rfl⟩ (n := q) (i0 := i) (by rw [sx_len]; have := hq.out; omega) hFX.out (by rw [sx_len]; omega) (by omega)).mono ?_
      rintro e w2 ⟨b, G, rfl, p, hk, i2, f, h1, h2⟩
      refine ⟨b, rfl, fun e => sunk_of hq.out hP.out hX.out f1 p (h1 e) (hk q (Nat.le_refl _)) i2.1 f, fun e => ?_⟩
      obtain ⟨rfl, hu⟩ := h2 e
      refine (up_any (hs_any B t m n v (sx L i q).length (by rw [sx_len]; omega) (by omega)) i2 (n := q) (by rw [sx_len]; have := hq.out; omega) (hu hiq) (by rw [sx_len]; omega)).mono ?_
      rintro e w3 ⟨rfl, G3, p3, hh3, hk3, i3, f3⟩
      exact ⟨rfl, sunk_of hq.out hP.out hX.out f1 p3 hh3 (hk3 q (Nat.le_refl _)) i3.1 (f.trans f3 (fun _ _ h => h))⟩)
    clear c1 f1 SD LL kl ks hFX hX hP
    go_wp2_with fail
    refine DD.out.mono ?_
    rintro e w2 ⟨b, rfl, b1, b2⟩
    cases b
    · have UU := Lib.hid (b2 rfl)
      clear b1 b2 DD
      go_wp2_with fail
      refine UU.out.mono ?_
      rintro e w3 ⟨rfl, s3⟩
      have PP := Lib.hid (FIN.out w3 s3)
      clear s3 UU FIN
      go_wp2_with fail
      refine PP.out.mono ?_
      rintro e w4 ⟨rfl, z⟩
      replace z := Lib.hid z
      clear PP
      go_wp2
      go_ret
      exact ⟨rfl, z.out⟩
    · have PP := Lib.hid (FIN.out w2 (b1 rfl))
      clear b1 b2 DD FIN
      go_wp2_with fail
      refine PP.out.mono ?_
      rintro e w4 ⟨rfl, z⟩
      replace z := Lib.hid z
      clear PP
      go_wp2
      go_ret
      exact ⟨rfl, z.out⟩
end
end Go.Proofs.Ytcjoemejoeekiaa.Cl
