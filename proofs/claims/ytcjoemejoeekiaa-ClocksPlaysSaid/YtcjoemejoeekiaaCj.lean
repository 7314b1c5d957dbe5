/-
  LAYER 26: heap.Push; heap.Fix.
-/
import Derived.Test.YtcjoemejoeekiaaCi
namespace Go.Proofs.Ytcjoemejoeekiaa.Cl
open Go.RowKit Go.Maps Que Hp Hg
section
variable {B : Nat} {w w' : World} {t m n : Nat} {v : Value} {L : List Tm}
def HPush (B : Nat) (w : World) (t m n : Nat) (v : Value) (L : List Tm) (x : Tm) (w' : World) : Prop :=
  ∃ v' L', List.Perm L' (L ++ [x]) ∧ HeapP (L'.map key) L'.length ∧ CNew B w w' t m n v L' v'
theorem CNew.then {v' : Value} {L L' : List Tm} {w1 : World} (h : CNew B w w1 t m n v L v') (r : Ct B w' t m n v' L') (f : Far (SV v' m) w1 w') : CNew B w w' t m n v L' v' :=
  ⟨r, h.far.trans f (fun k hk e => by
    rcases e with e | e
    · rcases h.nb k e with e | e
      · exact .inr (.inr e)
      · omega
    · exact .inr (.inl e)), h.nb⟩
set_option maxHeartbeats 4000000 in
set_option maxRecDepth 100000 in
theorem hpush_any (h : Ct B w t m n v L) (hp : HeapP (L.map key) L.length) (d k : Int) (hx : ∀ y ∈ L, y.k ≠ k) (hr : 0 ≤ k ∧ k < 8 ∧ 0 ≤ d ∧ d ≤ 9223372036854775807) (hl : L.length ≤ 500) (hn : n ≤ 90000) (hB : B ≤ w.heap.size) :
    Calls Try.prog 41 #[.iface 52 (.pointer (some ⟨t, 0, none⟩)), .iface 95 (.agg #[.int .i64 d, .int .i64 k])] w fun e w' => e = .returned (.tuple #[]) ∧ HPush B w t m (n + 1) v L ⟨d, k⟩ w' := by
  have km := m_push
  have kl := m_len
  have P := Lib.hid (lpush_any h d k hx hr (by omega) hn hB)
  have U : Hid (Up ((L ++ [(⟨d, k⟩ : Tm)]).map key) (L ++ [(⟨d, k⟩ : Tm)]).length L.length) := Lib.hid (by
    have := up_snoc (H := L.map key) (by simpa using hp) (key (⟨d, k⟩ : Tm))
    simpa using this)
  have hl2 : (L.length : Int) ≤ 500 := by omega
  clear h hp
  go_enter Try.func41, Try.ntmps41
  go_wp2_with fail
  refine P.out.mono ?_
  rintro e w1 ⟨rfl, v1, n1⟩
  have LL : Hid (Calls Try.prog 86 #[.pointer (some ⟨t, 0, none⟩)] w1 fun e w' => e = .returned (.int .i64 ((L.length : Int) + 1)) ∧ w1 = w') := Lib.hid (by
    have := hlen_any n1.r
    rwa [show (((L ++ [(⟨d, k⟩ : Tm)]).length : Nat) : Int) = (L.length : Int) + 1 by simp] at this)
  have N1 := Lib.hid n1
  clear n1 P km
  go_wp2_with fail
  refine LL.out.mono ?_
  rintro e w2 ⟨rfl, rfl⟩
  have UP : Hid (Calls Try.prog 59 #[.iface 52 (.pointer (some ⟨t, 0, none⟩)), .int .i64 (L.length : Int)] w1 fun e w' => e = .returned (.tuple #[]) ∧ HPush B w t m (n + 1) v L ⟨d, k⟩ w') := Lib.hid ((up_any (hs_any B t m (n + 1) v1 (L ++ [(⟨d, k⟩ : Tm)]).length (by simp; omega) (by omega)) ⟨N1.out.r, rfl⟩ (Nat.le_refl _) U.out (by simp; omega)).mono fun e w' ⟨he, G', p, hh, _, i, f⟩ => ⟨he, v1, G', p, by rw [p.length_eq]; exact hh, N1.out.then i.1 f⟩)
  clear kl LL U
  go_wp2_with fail
  refine UP.out.mono ?_
  rintro e w3 ⟨rfl, h3⟩
  have H3 := Lib.hid h3
  clear h3
  go_wp2
  go_end0
  exact ⟨rfl, H3.out⟩
theorem Ct.setd (h : Ct B w t m n v L) {gb q cb : Nat} (hv : v = .slice (some ⟨gb, 0, none⟩) q cb) {i : Nat} {e : Tm} (he : L[i]? = some e) {d : Int} (hd : 0 ≤ d ∧ d ≤ 9223372036854775807) :
    Ct B (w.setCell ⟨gb, i * 2, none⟩ (.int .i64 d)) t m n v (L.set i ⟨d, e.k⟩) ∧ Far (SV v m) w (w.setCell ⟨gb, i * 2, none⟩ (.int .i64 d)) := by
  have htg : t ≠ gb := fun e => own_far h.its h.row (by decide) (by rw [hv, e]; rfl)
  obtain ⟨D, o, p⟩ := h.mp
  have hli := (List.getElem?_eq_some_iff.1 he).1
  have hq : q = L.length := by
    obtain ⟨a, c, e⟩ := own_slice h.its
    rw [hv] at e
    simp only [Value.slice.injEq] at e
    exact e.2.1
  subst hq
  have hgc : ∃ cs, w.heap[gb]? = some (.cells cs 95 (0, 0)) := by
    rcases h.its.2 with ⟨e, -⟩ | ⟨g', cap, cur, e, _, hcur, _⟩
    · rw [hv] at e; cases e
    · rw [hv] at e
      simp only [Value.slice.injEq, Option.some.injEq, Addr.mk.injEq, and_true] at e
      obtain ⟨rfl, -, -⟩ := e
      exact ⟨_, hcur⟩
  obtain ⟨cs, hg⟩ := hgc
  have hmg : m ≠ gb := map_ne o hg
  have s1 : (w.setCell ⟨gb, i * 2, none⟩ (.int .i64 d)).ownsRow B 95 2 v (L.set i ⟨d, e.k⟩).length (tmC (L.set i ⟨d, e.k⟩)) := by
    have hi := h.its
    subst hv
    have := (hi.stored (i * 2) (.int .i64 d)).1
    rw [show (tmC L).set (i * 2) (.int .i64 d) = tmC (L.set i ⟨d, e.k⟩) by
      rw [← tmC_set]
      refine (List.ext_getElem? fun j => ?_)
      rw [List.getElem?_set (i := i * 2 + 1)]
      split
      · rename_i ej
        subst ej
        rw [List.getElem?_set_ne (by omega)]
        have := tmC_get L i e he 1 (by omega)
        rw [this]
        have hlt : i * 2 + 1 < (tmC L).length := by rw [tmC_len]; omega
        simp [Tm.cells, hlt]
      · rfl] at this
    simpa using this
  refine ⟨⟨by rw [Below.heap_setCell _ _ _ _ htg]; exact h.row, s1, ⟨D, o.setCell hmg _, ?_⟩, ?_, ?_⟩, ⟨rfl, rfl, rfl, by simp [World.setCell], fun q _ hq => Below.heap_setCell _ _ _ _ (fun e => hq (.inl (by subst hv; subst e; rfl)))⟩⟩
  · constructor
    · intro j y hy
      by_cases e1 : i = j
      · subst e1
        rw [List.getElem?_set_self hli] at hy
        cases hy
        exact p.1 i e he
      · rw [List.getElem?_set_ne e1] at hy
        exact p.1 j y hy
    · intro a ha
      refine p.2 a fun y hy e2 => ?_
      obtain ⟨j, hj⟩ := List.mem_iff_getElem?.1 hy
      by_cases e1 : i = j
      · subst e1
        rw [he] at hj
        cases hj
        exact ha ⟨d, e.k⟩ (List.mem_of_getElem? (List.getElem?_set_self hli)) e2
      · exact ha y (List.mem_of_getElem? (by rw [List.getElem?_set_ne e1]; exact hj)) e2
  · rw [List.map_set]
    have : (L.map Tm.k).set i e.k = L.map Tm.k := List.ext_getElem? fun j => by
      by_cases e1 : i = j
      · subst e1; rw [List.getElem?_set_self (by simpa using hli), List.getElem?_map, he]; rfl
      · rw [List.getElem?_set_ne e1]
    show ((L.map Tm.k).set i e.k).Nodup
    rw [this]; exact h.nd
  · intro y hy
    rcases List.mem_or_eq_of_mem_set hy with hy | rfl
    · exact h.rg y hy
    · have := h.rg e (List.mem_of_getElem? he)
      exact ⟨this.1, this.2.1, hd⟩
/-- A time is another, and the heap is put right. -/
theorem hfix_any (h : Ct B w t m n v L) (hp : HeapP (L.map key) L.length) {j : Nat} {e : Tm} (he : L[j]? = some e) (d : Int) (hl : L.length ≤ 500) (hn : n ≤ 90000) {w1 : World} (r1 : Ct B w1 t m n v (L.set j ⟨d, e.k⟩)) (f1 : Far (SV v m) w w1) :
    Calls Try.prog 42 #[.iface 52 (.pointer (some ⟨t, 0, none⟩)), .int .i64 j] w1 fun e' w' => e' = .returned (.tuple #[]) ∧ ∃ G', List.Perm G' (L.set j ⟨d, e.k⟩) ∧ HeapP (G'.map key) G'.length ∧ Ct B w' t m n v G' ∧ Far (SV v m) w w' := by
  have hj := (List.getElem?_eq_some_iff.1 he).1
  refine (fix_any (hs_any B t m n v L.length (by omega) (by omega)) (G := L.set j ⟨d, e.k⟩) ⟨r1, by simp⟩ (j := j) (by simpa using hj) ?_ (by simp; omega)).mono ?_
  · refine fx_of hp (by simp) (fun i hi hne => ?_)
    unfold at'
    rw [List.getD_eq_getElem?_getD, List.getD_eq_getElem?_getD, List.getElem?_map, List.getElem?_map, List.getElem?_set_ne (fun e => hne e.symm)]
  · rintro e' w' ⟨rfl, G', p, hh, _, i, f⟩
    exact ⟨rfl, G', p, by rw [p.length_eq]; exact hh, i.1, f1.trans f (fun _ _ h => h)⟩
end
end Go.Proofs.Ytcjoemejoeekiaa.Cl
