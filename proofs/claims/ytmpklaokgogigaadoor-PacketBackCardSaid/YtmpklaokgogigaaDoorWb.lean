/-
  LAYER 16: packets that were laid one behind the other are read again.
-/
import Derived.Test.YtmpklaokgogigaaDoorLk
import Derived.Test.YtmpklaokgogigaaDoorWa
namespace Go.Proofs.YtmpklaokgogigaaDoor.Pac
set_option linter.unusedVariables false
set_option linter.unusedSimpArgs false
open Go.Proofs.YtmpklaokgogigaaDoor
open Go.RowKit
/-- Two contracts on one call speak of one end. -/
theorem calls_agree {P : Program} {f : FuncId} {args : Array Value} {w : World} {R R' : Value → World → Prop}
    (h : Calls P f args w fun | .returned v, w' => R v w' | _, _ => False) (h' : Calls P f args w fun | .returned v, w' => R' v w' | _, _ => False) (hi : P.inits.idxOf? f = none) :
    ∃ v w', R v w' ∧ R' v w' := by
  obtain ⟨n, v, w1, e1, r1⟩ := h.done hi
  obtain ⟨m, v', w2, e2, r2⟩ := h'.done hi
  have a := runN_ended e1 m
  have b := runN_ended e2 n
  rw [Nat.add_comm, a] at b
  injection b with ho hw
  injection ho with hv
  subst hv hw
  exact ⟨_, _, r1, r2⟩
theorem fis_det {w : World} {v : Value} {l m : List Fi} (h1 : FisAt w v l) (h2 : FisAt w v m) : l = m := by
  obtain ⟨a, c, rfl, -, h1⟩ := h1
  obtain ⟨a', c', e, -, h2⟩ := h2
  simp only [Value.slice.injEq] at e
  obtain ⟨rfl, hlen, rfl⟩ := e
  rcases h1 with rfl | ⟨b, o, rfl, -, h1⟩
  · exact (List.eq_nil_of_length_eq_zero (by simpa using hlen.symm)).symm
  rcases h2 with rfl | ⟨b', o', e, -, h2⟩
  · exact List.eq_nil_of_length_eq_zero (by simpa using hlen)
  simp only [Option.some.injEq, Addr.mk.injEq, and_true] at e
  obtain ⟨rfl, rfl⟩ := e
  refine List.ext_getElem hlen (fun i hi hj => ?_)
  obtain ⟨q0, q1⟩ := h1 i _ (List.getElem?_eq_getElem hi)
  obtain ⟨r0, r1⟩ := h2 i _ (List.getElem?_eq_getElem hj)
  rw [q0] at r0
  rw [q1] at r1
  simp only [Option.some.injEq, Value.string.injEq, Value.int.injEq, true_and] at r0 r1
  generalize l[i] = x at *
  generalize m[i] = y at *
  obtain ⟨x1, x2⟩ := x
  obtain ⟨y1, y2⟩ := y
  simp only at r0 r1
  rw [r0, r1]
theorem ints_det {w : World} {v : Value} {l m : List Int} (h1 : IntsAt w v l) (h2 : IntsAt w v m) : l = m := by
  obtain ⟨a, c, rfl, -, h1⟩ := h1
  obtain ⟨a', c', e, -, h2⟩ := h2
  simp only [Value.slice.injEq] at e
  obtain ⟨rfl, hlen, rfl⟩ := e
  rcases h1 with rfl | ⟨b, o, rfl, -, h1⟩
  · exact (List.eq_nil_of_length_eq_zero (by simpa using hlen.symm)).symm
  rcases h2 with rfl | ⟨b', o', e, -, h2⟩
  · exact List.eq_nil_of_length_eq_zero (by simpa using hlen)
  simp only [Option.some.injEq, Addr.mk.injEq, and_true] at e
  obtain ⟨rfl, rfl⟩ := e
  refine List.ext_getElem hlen (fun i hi hj => ?_)
  have q0 := h1 i hi
  have r0 := h2 i hj
  rw [q0] at r0
  simpa [List.getD, List.getElem?_eq_getElem hi, List.getElem?_eq_getElem hj] using r0
theorem pk_det {P Q : Pk} {f c f' c' : Value} (h : P.v f c = Q.v f' c') (hf : P.fl = Q.fl) (hc : P.cl = Q.cl) : P = Q ∧ f = f' ∧ c = c' := by
  obtain ⟨k, i, d, t, x, q, r, X, p, e, fl, cl⟩ := P
  obtain ⟨k', i', d', t', x', q', r', X', p', e', fl', cl'⟩ := Q
  obtain ⟨y1, y2, y3, y4, y5, y6, y7, y8, y9, y10, y11, y12, y13⟩ := X
  obtain ⟨z1, z2, z3, z4, z5, z6, z7, z8, z9, z10, z11, z12, z13⟩ := X'
  simp only [Pk.v, Array.mk.injEq, List.cons.injEq, Value.int.injEq, Value.bool.injEq, Value.string.injEq, true_and, and_true] at h
  simp only at hf hc
  obtain ⟨rfl, rfl, rfl, rfl, rfl, rfl, rfl, rfl, rfl, rfl, rfl, rfl, rfl, rfl, rfl, rfl, rfl, rfl, rfl, rfl, rfl, rfl, rfl, rfl⟩ := h
  subst hf hc
  exact ⟨rfl, rfl, rfl⟩
theorem pk_v {P Q : Pk} {f c f' c' : Value} (h : P.v f c = Q.v f' c') : f = f' ∧ c = c' := by
  have h22 := congrArg (fun a : Array Value => a.getD 22 noS) h
  have h23 := congrArg (fun a : Array Value => a.getD 23 noS) h
  exact ⟨h22, h23⟩
/-- What Of answers is one thing. -/
theorem of_is (w : World) (ht : Hea.Tab3 w) {k f n : Int} {s : ByteArray} {Q : Pk} (hs : s.size ≤ 140737488351232)
    (h : Calls Tryd.prog 7 #[.agg #[.int .i64 k, .int .i64 f, .int .i64 n, .string s]] w (PkP Q 0 w)) : OfF k f n s = (Q, 0) := by
  have h' := (of_F k f n s hs).1 w ht
  obtain ⟨v, w', ⟨fs, cs, rfl, ⟨a1, -⟩, ⟨a2, -⟩, -⟩, ⟨fs', cs', hv, ⟨b1, -⟩, ⟨b2, -⟩, -⟩⟩ := calls_agree
    (R := fun v w' => ∃ fs cs, v = .tuple #[.agg (Q.v fs cs), .int .i64 0] ∧ (FisAt w' fs Q.fl ∧ Fresh w.heap.size fs) ∧ (IntsAt w' cs Q.cl ∧ Fresh w.heap.size cs) ∧ Below w.heap.size w w')
    (R' := fun v w' => ∃ fs cs, v = .tuple #[.agg ((OfF k f n s).1.v fs cs), .int .i64 (OfF k f n s).2] ∧ (FisAt w' fs (OfF k f n s).1.fl ∧ Fresh w.heap.size fs) ∧ (IntsAt w' cs (OfF k f n s).1.cl ∧ Fresh w.heap.size cs) ∧ Below w.heap.size w w')
    (h.mono fun e w' ⟨fs, cs, he, q⟩ => by subst he; exact ⟨fs, cs, rfl, q⟩) (h'.mono fun e w' ⟨fs, cs, he, q⟩ => by subst he; exact ⟨fs, cs, rfl, q⟩) (by kernel_rfl)
  generalize OfF k f n s = r at *
  obtain ⟨P, m⟩ := r
  simp only [Value.tuple.injEq, Array.mk.injEq, List.cons.injEq, Value.agg.injEq, Value.int.injEq, true_and, and_true] at hv
  obtain ⟨hv, rfl⟩ := hv
  obtain ⟨rfl, rfl⟩ := pk_v hv
  rw [(pk_det hv (fis_det a1 b1) (ints_det a2 b2)).1]
theorem hd_mid (la lb : List Nat) (K F n : Nat) (hE : Hea.RightF K F = 0) (hn : n ≤ 4096) :
    hd (la ++ Hea.putB K F n ++ lb) la.length = ⟨K, F, n, la.length + (Hea.putB K F n).length, 0⟩ := by
  have h := Hea.getV_mid la lb K F n hE hn
  rw [getV_hd] at h
  generalize hd (la ++ Hea.putB K F n ++ lb) la.length = x at *
  obtain ⟨k, f, m, to, e⟩ := x
  simp only [Hea.HV, Value.tuple.injEq, Array.mk.injEq, List.cons.injEq, Value.agg.injEq, Value.int.injEq, true_and, and_true] at h
  obtain ⟨⟨h1, h2, h3⟩, h4, h5⟩ := h
  have e1 : k = K := by omega
  have e2 : f = F := by omega
  have e3 : m = n := by omega
  have e4 : to = la.length + (Hea.putB K F n).length := by omega
  have e5 : e = 0 := by omega
  rw [e1, e2, e3, e4, e5]
theorem strB_mid (la b lb : List Nat) : (strB (la ++ b ++ lb)).extract la.length (la.length + b.length) = strB b := by
  apply ByteArray.ext
  apply Array.ext'
  rw [ByteArray.data_extract]
  simp [strB]
theorem putB_pos (K F n : Nat) : 2 ≤ (Hea.putB K F n).length := by rw [Hea.putB_length]; split <;> omega
theorem laid_pos {L : List Nat} {Q : Pk} (h : Laid L Q) : 2 ≤ L.length ∧ L.length ≤ 4099 := by
  obtain ⟨k, f, b, rfl, -, hb, -⟩ := h
  have := putB_pos k f b.length
  have := putB_len k f b.length
  rw [List.length_append]; omega
theorem laid_lt {L : List Nat} {Q : Pk} (h : Laid L Q) : ∀ x ∈ L, x < 256 := by
  obtain ⟨k, f, b, rfl, hr, hb, hlt, -⟩ := h
  obtain ⟨q1, q2, q3, q4⟩ := Hea.right_zero hr
  intro x hx
  rcases List.mem_append.1 hx with hx | hx
  · exact Hea.putB_lt k f b.length (by omega) (by omega) hb x hx
  · exact hlt x hx
/-- The bytes of packets, and the packets. -/
def segB (S : List (List Nat × Pk)) : List Nat := S.flatMap (·.1)
def segP (S : List (List Nat × Pk)) : List Pk := S.map (·.2)
theorem all_back (w : World) (ht : Hea.Tab3 w) : ∀ (S : List (List Nat × Pk)) (la : List Nat) (acc : List Pk) (g : Nat), (∀ x ∈ S, Laid x.1 x.2) → S.length < g →
    allF (strB (la ++ segB S)) (la ++ segB S) g la.length acc = (acc ++ segP S, (la ++ segB S).length, 0)
  | [], la, acc, g + 1, h, hg => by
    have hh : hd (la ++ segB []) la.length = ⟨0, 0, 0, 0, 2⟩ := by unfold hd; rw [if_pos (by simp [segB])]
    rw [allF_short (.inl (by rw [hh]))]
    simp [segB, segP]
  | (L, Q) :: S, la, acc, g + 1, h, hg => by
    obtain ⟨k, f, b, rfl, hr, hb, hlt, hO⟩ := h _ List.mem_cons_self
    have e : la ++ segB ((Hea.putB k f b.length ++ b, Q) :: S) = la ++ Hea.putB k f b.length ++ (b ++ segB S) := by simp [segB, List.append_assoc]
    have e2 : la ++ segB ((Hea.putB k f b.length ++ b, Q) :: S) = (la ++ Hea.putB k f b.length) ++ b ++ segB S := by simp [segB, List.append_assoc]
    have e3 : la ++ segB ((Hea.putB k f b.length ++ b, Q) :: S) = (la ++ Hea.putB k f b.length ++ b) ++ segB S := by simp [segB, List.append_assoc]
    have hh := hd_mid la (b ++ segB S) k f b.length hr hb
    rw [← e] at hh
    have hx : (strB (la ++ segB ((Hea.putB k f b.length ++ b, Q) :: S))).extract (la.length + (Hea.putB k f b.length).length) (la.length + (Hea.putB k f b.length).length + b.length) = strB b := by
      rw [e2, ← List.length_append]; exact strB_mid _ _ _
    have hof := of_is w ht (strB_le hb) (hO w ht)
    have hlen : la.length + (Hea.putB k f b.length).length + b.length ≤ (la ++ segB ((Hea.putB k f b.length ++ b, Q) :: S)).length := by rw [e2]; simp only [List.length_append]; omega
    generalize hl : la ++ segB ((Hea.putB k f b.length ++ b, Q) :: S) = l at *
    have step := @allF_ok (strB l) l g la.length acc Q (by rw [hh]) (by rw [hh]; exact hlen) (by rw [hh]; simp only; rw [hx]; exact hof)
    rw [step, hh]
    simp only
    have ih := all_back w ht S (la ++ Hea.putB k f b.length ++ b) (acc ++ [Q]) g (fun x hx => h x (List.mem_cons_of_mem _ hx)) (by simp at hg; omega)
    rw [← e3] at ih
    rw [show la.length + (Hea.putB k f b.length).length + b.length = (la ++ Hea.putB k f b.length ++ b).length by simp only [List.length_append]]
    rw [ih]
    simp [segP]
theorem segB_len {S : List (List Nat × Pk)} (h : ∀ x ∈ S, Laid x.1 x.2) : 2 * S.length ≤ (segB S).length ∧ (segB S).length ≤ 4099 * S.length := by
  induction S with
  | nil => simp [segB]
  | cons x S ih =>
    have h1 := laid_pos (h x List.mem_cons_self)
    have h2 := ih (fun y hy => h y (List.mem_cons_of_mem _ hy))
    simp only [segB, List.flatMap_cons, List.length_append, List.length_cons] at *
    omega
theorem segB_lt {S : List (List Nat × Pk)} (h : ∀ x ∈ S, Laid x.1 x.2) : ∀ y ∈ segB S, y < 256 := by
  intro y hy
  obtain ⟨x, hx, hy⟩ := List.mem_flatMap.1 hy
  exact laid_lt (h x hx) y hy
/-- All of what was put. -/
theorem all_of_put (w : World) (ht : Hea.Tab3 w) (S : List (List Nat × Pk)) (h : ∀ x ∈ S, Laid x.1 x.2) :
    allF (strB (segB S)) (txtL (strB (segB S))) ((strB (segB S)).size + 1) 0 [] = (segP S, (segB S).length, 0) := by
  rw [txtL_strB (segB_lt h), strB_size]
  have h2 := segB_len h
  have := all_back w ht S [] [] ((segB S).length + 1) h (by omega)
  simpa using this
theorem segB_snoc (S : List (List Nat × Pk)) (x : List Nat × Pk) : segB (S ++ [x]) = segB S ++ x.1 := by simp [segB]
theorem segP_snoc (S : List (List Nat × Pk)) (x : List Nat × Pk) : segP (S ++ [x]) = segP S ++ [x.2] := by simp [segP]
end Go.Proofs.YtmpklaokgogigaaDoor.Pac
