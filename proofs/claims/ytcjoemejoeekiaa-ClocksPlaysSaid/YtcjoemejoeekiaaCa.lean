import Derived.Maps.Own
import Derived.Maps.OwnOps
import Derived.Maps.OwnSet
import Derived.Maps.Views
import Derived.WideKeyEntry
namespace Go.Proofs.Ytcjoemejoeekiaa.Cl
open Go Go.ChangeShapes Go.WideShapes Go.MapKept Go.ChangeMaps Go.WideElems Go.Maps
section
variable {H : Type} {P : Program} {w : World} {t k e : TypeId} {R : Value → Option (DataW H × List MemPlace)} {b n : Nat} {D : DataW H} {es : Array MapEntry} {clock : Nat}
theorem nodup_idx {α β : Type} {f : α → β} {l : List α} (hn : (l.map f).Nodup) {i j : Nat} {a c : α} (hi : l[i]? = some a) (hj : l[j]? = some c) (h : f a = f c) : i = j := by
  have P := List.pairwise_map.1 hn
  rw [List.pairwise_iff_getElem] at P
  obtain ⟨h1, e1⟩ := List.getElem?_eq_some_iff.1 hi
  obtain ⟨h2, e2⟩ := List.getElem?_eq_some_iff.1 hj
  rcases Nat.lt_trichotomy i j with hl | hl | hl
  · exact absurd (by rw [e1, e2]; exact h) (P i j h1 h2 hl)
  · exact hl
  · exact absurd (by rw [e1, e2]; exact h.symm) (P j i h2 h1 hl)
theorem find_at (K : Keyed P k) (F : Fit P k R es clock) {key : Value} {kl : Lit} (hkey : keyOf P k key = some kl) {j : Nat} {e0 : MapEntry} (hj : es.toList[j]? = some e0) (hk : e0.key = key) :
    (Instr.findKey k key es.toList).run P w = .ok (some (j, e0.val)) w := by
  rcases K.find w hkey es.toList F.keys with ⟨_, h2⟩ | ⟨j', e', h1, h2, h3⟩
  · exact absurd hk (h2 e0 (List.mem_of_getElem? hj))
  · obtain rfl := nodup_idx F.stamped.2.2 h2 hj (h3.trans hk.symm)
    rw [h2] at hj
    cases hj
    exact h1
theorem entry_run (K : Keyed P k) (ht : P.underlying t = some (.map k e)) (hb : w.heap[b]? = some (.map es clock)) (F : Fit P k R es clock) {key : Value} {kl : Lit} (hkey : keyOf P k key = some kl) {j : Nat} {e0 : MapEntry} (hj : es.toList[j]? = some e0) (hk : e0.key = key) :
    (Instr.mapEntry t (.map (some b)) key).run P w = .ok (.tuple #[e0.val, goInt e0.born]) w := by
  have h1 := find_at (w := w) K F hkey hj hk
  have hj' : es[j]? = some e0 := by simpa using hj
  have hsame : es.modify j (fun e => { e with key := key }) = es := by
    apply Array.ext'
    rw [Array.toList_modify, modify_eq_set _ _ _ _ hj]
    have : ({ e0 with key := key } : MapEntry) = e0 := by rw [← hk]
    rw [this]
    exact set_self _ _ _ hj
  have hw : w.heap.setIfInBounds b (.map es clock) = w.heap := by
    apply Array.ext_getElem?
    intro i
    by_cases hi : i = b
    · subst hi
      exact (heap_setBlock_same hb _).trans hb.symm
    · exact heap_setBlock_other hb _ hi
  simp [Instr.mapEntry, run_underlying ht, MapKept.run_getObj_map hb, K.check w false hkey, h1, hj', hk, K.stays w hkey, hsame, MapKept.run_setObj_map _ hb, Result.andThen, hw]
theorem store_run (K : Keyed P k) (ht : P.underlying t = some (.map k e)) (hb : w.heap[b]? = some (.map es clock)) (F : Fit P k R es clock) {key : Value} {kl : Lit} (hkey : keyOf P k key = some kl) {j : Nat} {e0 : MapEntry} (hj : es.toList[j]? = some e0) (hk : e0.key = key) (val : Value) :
    (Instr.entryStore t (.map (some b)) (goInt e0.born) val).run P w = .ok () (setBlock w b (.map (es.modify j fun e' => { e' with key := key, val := val }) clock)) ∧
    (Instr.mapUpdate t (.map (some b)) key val).run P w = .ok () (setBlock w b (.map (es.modify j fun e' => { e' with key := key, val := val }) clock)) := by
  have h1 := find_at (w := w) K F hkey hj hk
  have hj' : es[j]? = some e0 := by simpa using hj
  have hidx : es.findIdx? (fun e => ((e.born : Nat) : Int) == ((e0.born : Nat) : Int)) = some j := by
    rw [findIdx_arr]
    exact findIdx_born F.stamped.2.1 hj
  have hmod : es.modify j (fun e => { e with val := val }) = es.modify j (fun e' => { e' with key := key, val := val }) := by
    apply Array.ext'
    rw [Array.toList_modify, Array.toList_modify, modify_eq_set _ _ _ _ hj, modify_eq_set _ _ _ _ hj, ← hk]
  constructor
  · simp [Instr.entryStore, MapKept.run_getObj_map hb, asInt, asIntOf, goInt, hidx, hmod, MapKept.run_setObj_map _ hb, Result.andThen, setBlock]
  · simp [Instr.mapUpdate, run_underlying ht, MapKept.run_getObj_map hb, K.check w false hkey, h1, hj', hk, K.stays w hkey, MapKept.run_setObj_map _ hb, Result.andThen, setBlock]
theorem has_at (w : World) (K : Keyed P k) (F : Fit P k R es clock) {key : Value} {kl : Lit} (hkey : keyOf P k key = some kl) (hh : has (.map ((es.toList.map (rg P k R)).foldr DataW.insert []) : DataW H) kl = true) : ∃ (j : Nat) (e0 : MapEntry), es.toList[j]? = some e0 ∧ e0.key = key := by
  have hat := atKey_sorted (es.toList.map (rg P k R)) (fit_rising K F) kl (K.key hkey)
  rcases K.find w hkey es.toList F.keys with ⟨h1, h2⟩ | ⟨j, e0, h1, h2, h3⟩
  · have := has_false_of_atKey (hat.1 (fun p hp e1 => by
      obtain ⟨x, hx, rfl⟩ := List.mem_map.1 hp
      obtain ⟨y, hy⟩ := F.reads x hx
      have m1 := rd_key hy
      rw [rg_of hy] at e1
      rw [e1] at m1
      exact h2 x hx (K.inj m1 hkey)))
    rw [this] at hh
    cases hh
  · exact ⟨j, e0, h2, h3⟩
/-- m[a], m[b] = x, y, where both stand in the map already. -/
theorem two_entries (K : Keyed P k) (ht : P.underlying t = some (.map k e)) (h : w.ownsMap P k R b n D) (hn : n + 1 < maxLen) {key1 key2 : Value} {kl1 kl2 : Lit} (hkey1 : keyOf P k key1 = some kl1) (hkey2 : keyOf P k key2 = some kl2)
    (hh1 : has D kl1 = true) (hh2 : has D kl2 = true) {val1 val2 : Value} {d1 d2 : DataW H} {p1 p2 : List MemPlace} (hv1 : R val1 = some (d1, p1)) (hv2 : R val2 = some (d2, p2)) :
    ∃ (v1 v2 : Value) (s1 s2 : Int) (w1 w2 : World), (Instr.mapEntry t (.map (some b)) key1).run P w = .ok (.tuple #[v1, .int .i64 s1]) w ∧ (Instr.mapEntry t (.map (some b)) key2).run P w = .ok (.tuple #[v2, .int .i64 s2]) w ∧
      (Instr.entryStore t (.map (some b)) (.int .i64 s1) val1).run P w = .ok () w1 ∧ (Instr.entryStore t (.map (some b)) (.int .i64 s2) val2).run P w1 = .ok () w2 ∧
      w2.ownsMap P k R b n ((D.put kl1 d1).put kl2 d2) ∧ w.grownBy w1 (some b) ∧ w1.grownBy w2 (some b) := by
  have h' := h
  obtain ⟨es, clock, hb, F, hs, hD⟩ := h'
  rw [hD] at hh1 hh2
  obtain ⟨j1, e1, a1, k1⟩ := has_at w K F hkey1 hh1
  obtain ⟨j2, e2, a2, k2⟩ := has_at w K F hkey2 hh2
  have r1 := entry_run K ht hb F hkey1 a1 k1
  have r2 := entry_run K ht hb F hkey2 a2 k2
  obtain ⟨t1, u1⟩ := store_run K ht hb F hkey1 a1 k1 val1
  obtain ⟨w1', q1, o1, g1⟩ := h.update K ht (by omega) hkey1 hv1
  rw [u1] at q1
  simp only [Result.ok.injEq, true_and] at q1
  subst q1
  have o1' := o1
  obtain ⟨es1, clock1, hb1, F1, hs1, hD1⟩ := o1'
  have hb2 := heap_setBlock_same hb (.map (es.modify j1 fun e' => { e' with key := key1, val := val1 }) clock)
  rw [hb2] at hb1
  simp only [Option.some.injEq, Obj.map.injEq] at hb1
  obtain ⟨rfl, rfl⟩ := hb1
  obtain ⟨e2', a2', k2', b2'⟩ : ∃ e2' : MapEntry, (es.modify j1 fun e' => { e' with key := key1, val := val1 }).toList[j2]? = some e2' ∧ e2'.key = key2 ∧ e2'.born = e2.born := by
    rw [Array.toList_modify, modify_eq_set _ _ _ _ a1]
    by_cases hj : j1 = j2
    · subst hj
      rw [a1] at a2
      cases a2
      exact ⟨⟨key1, val1, e1.born⟩, List.getElem?_set_self (List.getElem?_eq_some_iff.1 a1).1, k1.symm.trans k2, rfl⟩
    · exact ⟨e2, by rw [List.getElem?_set_ne hj]; exact a2, k2, rfl⟩
  obtain ⟨t2, u2⟩ := store_run K ht hb2 F1 hkey2 a2' k2' val2
  rw [b2'] at t2
  obtain ⟨w2', q2, o2, g2⟩ := o1.update K ht hn hkey2 hv2
  rw [u2] at q2
  simp only [Result.ok.injEq, true_and] at q2
  subst q2
  refine ⟨e1.val, e2.val, _, _, _, _, r1, r2, t1, t2, ?_, g1, g2⟩
  obtain ⟨es2, clock2, hb3, F2, hs2, hD2⟩ := o2
  have hb4 := heap_setBlock_same hb2 (.map ((es.modify j1 fun e' => { e' with key := key1, val := val1 }).modify j2 fun e' => { e' with key := key2, val := val2 }) clock)
  rw [hb4] at hb3
  simp only [Option.some.injEq, Obj.map.injEq] at hb3
  obtain ⟨rfl, rfl⟩ := hb3
  exact ⟨_, _, hb4, F2, by simpa using hs, hD2⟩
/-- m[a] = x through the entry, where a stands in the map already. -/
theorem one_entry (K : Keyed P k) (ht : P.underlying t = some (.map k e)) (h : w.ownsMap P k R b n D) (hn : n < maxLen) {key1 : Value} {kl1 : Lit} (hkey1 : keyOf P k key1 = some kl1)
    (hh1 : has D kl1 = true) {val1 : Value} {d1 : DataW H} {p1 : List MemPlace} (hv1 : R val1 = some (d1, p1)) :
    ∃ (v1 : Value) (s1 : Int) (w1 : World), (Instr.mapEntry t (.map (some b)) key1).run P w = .ok (.tuple #[v1, .int .i64 s1]) w ∧
      (Instr.entryStore t (.map (some b)) (.int .i64 s1) val1).run P w = .ok () w1 ∧ w1.ownsMap P k R b n (D.put kl1 d1) ∧ w.grownBy w1 (some b) := by
  have h' := h
  obtain ⟨es, clock, hb, F, hs, hD⟩ := h'
  rw [hD] at hh1
  obtain ⟨j1, e1, a1, k1⟩ := has_at w K F hkey1 hh1
  have r1 := entry_run K ht hb F hkey1 a1 k1
  obtain ⟨t1, u1⟩ := store_run K ht hb F hkey1 a1 k1 val1
  obtain ⟨w1', q1, o1, g1⟩ := h.update K ht hn hkey1 hv1
  rw [u1] at q1
  simp only [Result.ok.injEq, true_and] at q1
  subst q1
  refine ⟨e1.val, _, _, r1, t1, ?_, g1⟩
  obtain ⟨es1, clock1, hb1, F1, hs1, hD1⟩ := o1
  have hb2 := heap_setBlock_same hb (.map (es.modify j1 fun e' => { e' with key := key1, val := val1 }) clock)
  rw [hb2] at hb1
  simp only [Option.some.injEq, Obj.map.injEq] at hb1
  obtain ⟨rfl, rfl⟩ := hb1
  exact ⟨_, _, hb2, F1, by simpa using hs, hD1⟩
end
end Go.Proofs.Ytcjoemejoeekiaa.Cl
