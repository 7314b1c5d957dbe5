/-
  LAYER 26: the clocks as one fact; what they tell of one; Set, Drop, Due.
-/
import Derived.Test.YtcjoemejoeekiaaCl
import Derived.Maps.OwnIn
namespace Go.Proofs.Ytcjoemejoeekiaa.Cl
open Go.RowKit Go.Maps Que Hp Hg Go.MapKept
theorem pig : ∀ (N : Nat) (l : List Int), l.Nodup → (∀ x ∈ l, 0 ≤ x ∧ x < (N : Int)) → l.length ≤ N := by
  intro N
  induction N with
  | zero =>
    intro l _ h
    cases l with
    | nil => simp
    | cons a l => have := h a (by simp); omega
  | succ N ih =>
    intro l hn h
    by_cases hm : (N : Int) ∈ l
    · have h1 := ih (l.erase N) (hn.erase _) (fun x hx => by
        have h2 := h x (List.mem_of_mem_erase hx)
        have h3 : x ≠ N := fun e => by subst e; exact (List.Nodup.mem_erase_iff hn).1 hx |>.1 rfl
        omega)
      rw [List.length_erase_of_mem hm] at h1
      omega
    · have := ih l hn (fun x hx => by
        have h2 := h x hx
        have h3 : x ≠ N := fun e => hm (e ▸ hx)
        omega)
      omega
section
variable {B : Nat} {w w' : World} {c t m n : Nat} {v : Value} {L : List Tm}
theorem Ct.le8 (h : Ct B w t m n v L) : L.length ≤ 8 := by
  have := pig 8 (L.map Tm.k) h.nd (fun x hx => by
    obtain ⟨y, hy, rfl⟩ := List.mem_map.1 hx
    have := h.rg y hy
    omega)
  simpa using this
theorem Ct.mono (h : Ct B w t m n v L) {n' : Nat} (hn : n ≤ n') : Ct B w t m n' v L := by
  obtain ⟨D, ⟨es, clock, a, b, c, d⟩, p⟩ := h.mp
  exact ⟨h.row, h.its, ⟨D, ⟨es, clock, a, b, Nat.le_trans c hn, d⟩, p⟩, h.nd, h.rg⟩
theorem zero3 (w : World) : (zeroValue 3).run Try.prog w = .ok (.int .i64 0) w := by kernel_rfl
theorem has_find {D : DataW Unit} (h : Pos D L) (a : Int) : has D (ky a) = true ∨ ∀ x ∈ L, x.k ≠ a := by
  by_cases e : ∃ x ∈ L, x.k = a
  · obtain ⟨x, hx, rfl⟩ := e
    obtain ⟨i, hi⟩ := List.mem_iff_getElem?.1 hx
    exact .inl (h.1 i x hi).1
  · exact .inr fun x hx e2 => e ⟨x, hx, e2⟩
/-- What the map tells of one. -/
def Look (w : World) (m : Nat) (L : List Tm) (a : Int) : Prop :=
  (∃ i x, L[i]? = some x ∧ x.k = a ∧ (Instr.lookup 89 (.map (some m)) (.int .i64 a) true).run Try.prog w = .ok (.tuple #[.int .i64 (i : Nat), .bool true]) w) ∨ ((∀ x ∈ L, x.k ≠ a) ∧ (Instr.lookup 89 (.map (some m)) (.int .i64 a) true).run Try.prog w = .ok (.tuple #[.int .i64 0, .bool false]) w)
theorem Ct.look (h : Ct B w t m n v L) {a : Int} (ha : (Lit.int .i64 a).wf = true) : Look w m L a := by
  obtain ⟨D, o, p⟩ := h.mp
  obtain ⟨u, ps, hrun, hv⟩ := o.look_ok law3 Try.underlying89 (zero3 w) (plainElem_int Try.underlying3 (by decide)) (keyOf_int_mk Try.underlying3 ha)
  obtain ⟨x, rfl, hc, -⟩ := plainElem_int_inv Try.underlying3 hv
  replace hc := congrArg Prod.fst hc
  simp only at hc
  by_cases e : ∃ x ∈ L, x.k = a
  · obtain ⟨y, hy, rfl⟩ := e
    obtain ⟨i, hi⟩ := List.mem_iff_getElem?.1 hy
    obtain ⟨q1, q2⟩ := p.1 i y hi
    refine .inl ⟨i, y, hi, rfl, ?_⟩
    unfold ky at q1 q2
    rw [q2] at hc
    rw [hrun, q1]
    have : x = (i : Int) := by simpa using hc.symm
    rw [this]
  · have hno : ∀ x ∈ L, x.k ≠ a := fun x hx e2 => e ⟨x, hx, e2⟩
    have hh := p.2 a hno
    have hat := atKey_of_not_has hh
    refine .inr ⟨hno, ?_⟩
    unfold ky at hh hat
    rw [hat] at hc
    rw [hrun, hh]
    have : x = 0 := by simpa using hc.symm
    rw [this]
theorem Look.keep {a : Int} (h : Ct B w t m n v L) (ha : (Lit.int .i64 a).wf = true) (hb : Below w.heap.size w w') : Look w' m L a := (h.keep hb).look ha
/-- Clocks in block c. -/
structure Cr (w : World) (c t m n : Nat) (v : Value) (L : List Tm) : Prop where
  row : w.heap[c]? = some (.cells #[.pointer (some ⟨t, 0, none⟩)] 54 (0, 0))
  ex : ∃ L', Ct 0 w t m n v L' ∧ List.Perm L' L ∧ HeapP (L'.map key) L'.length
structure Cx (w w' : World) (c t m n : Nat) (v : Value) (L : List Tm) (v' : Value) : Prop where
  r : Cr w' c t m n v' L
  far : Far (SI t m v) w w'
  nb : ∀ k, v'.ownBlock = some k → v.ownBlock = some k ∨ w.heap.size ≤ k
theorem Cr.lt (h : Cr w c t m n v L) : c < w.heap.size := (Array.getElem?_eq_some_iff.1 h.row).1
theorem Cr.at (h : Cr w c t m n v L) : w.cell? ⟨c, 0, none⟩ = some (.pointer (some ⟨t, 0, none⟩)) := cell_of_row w c 0 _ 54 (0, 0) h.row
theorem Cr.keep (h : Cr w c t m n v L) (hb : Below w.heap.size w w') : Cr w' c t m n v L := by
  obtain ⟨L', a, p, hp⟩ := h.ex
  exact ⟨(hb.block c h.lt).trans h.row, L', a.keep hb, p, hp⟩
theorem Cr.not_si (h : Cr w c t m n v L) : ¬ SI t m v c := by
  obtain ⟨L', a, -, -⟩ := h.ex
  rintro (e | e | e)
  · subst e
    have := h.row
    rw [a.row] at this
    simp at this
  · exact map_ne a.mp.choose_spec.1 h.row e.symm
  · exact own_far a.its h.row (by decide) e.symm
theorem Cr.step {n' : Nat} {v' : Value} {L1 L2 : List Tm} (h : Cr w c t m n v L) (N : CNew 0 w w' t m n' v L1 v') (p : List.Perm L1 L2) (hp : HeapP (L1.map key) L1.length) : Cx w w' c t m n' v L2 v' :=
  ⟨⟨(N.far.block c h.lt h.not_si).trans h.row, L1, N.r, p, hp⟩, N.far, N.nb⟩
theorem Cr.same (h : Cr w c t m n v L) : Cx w w c t m n v L v := ⟨h, Far.refl _ w, fun _ hk => .inl hk⟩
theorem Cr.mono (h : Cr w c t m n v L) {n' : Nat} (hn : n ≤ n') : Cr w c t m n' v L := by
  obtain ⟨L', a, p, hp⟩ := h.ex
  exact ⟨h.row, L', a.mono hn, p, hp⟩
theorem Cr.perm {L2 : List Tm} (h : Cr w c t m n v L) (p : L.Perm L2) : Cr w c t m n v L2 := by
  obtain ⟨L', a, q, hp⟩ := h.ex
  exact ⟨h.row, L', a, q.trans p, hp⟩
theorem Cr.nd (h : Cr w c t m n v L) : (L.map Tm.k).Nodup := by
  obtain ⟨L', a, q, -⟩ := h.ex
  exact (q.map Tm.k).nodup_iff.1 a.nd
theorem Cr.rg (h : Cr w c t m n v L) : ∀ x ∈ L, 0 ≤ x.k ∧ x.k < 8 ∧ 0 ≤ x.d ∧ x.d ≤ 9223372036854775807 := by
  obtain ⟨L', a, q, -⟩ := h.ex
  exact fun x hx => a.rg x (q.mem_iff.2 hx)
theorem Cr.le8 (h : Cr w c t m n v L) : L.length ≤ 8 := by
  obtain ⟨L', a, q, -⟩ := h.ex
  rw [← q.length_eq]; exact a.le8
/-- The lists behind Set and Drop. -/
def delL (L : List Tm) (k : Int) : List Tm := L.filter fun e => decide (e.k ≠ k)
def putL (L : List Tm) (k d : Int) : List Tm := delL L k ++ [⟨d, k⟩]
theorem delL_no {L : List Tm} {k : Int} (h : ∀ x ∈ L, x.k ≠ k) : delL L k = L := List.filter_eq_self.2 fun x hx => by simpa using h x hx
theorem delL_perm {L L2 : List Tm} (k : Int) (p : L.Perm L2) : (delL L k).Perm (delL L2 k) := p.filter _
theorem putL_perm {L L2 : List Tm} (k d : Int) (p : L.Perm L2) : (putL L k d).Perm (putL L2 k d) := (delL_perm k p).append_right _
theorem delL_snoc {R : List Tm} {x : Tm} (hn : ((R ++ [x]).map Tm.k).Nodup) : delL (R ++ [x]) x.k = R := by
  unfold delL
  rw [List.filter_append, show List.filter (fun e => decide (e.k ≠ x.k)) [x] = [] by simp, List.append_nil]
  refine delL_no (L := R) fun y hy e => ?_
  rw [List.map_append, List.nodup_append] at hn
  exact hn.2.2 y.k (List.mem_map_of_mem hy) x.k (by simp) e
theorem set_perm {L : List Tm} (hn : (L.map Tm.k).Nodup) : ∀ {j : Nat} {e : Tm}, L[j]? = some e → ∀ d, (L.set j ⟨d, e.k⟩).Perm (putL L e.k d) := by
  induction L with
  | nil => intro j e h; simp at h
  | cons x L ih =>
    intro j e h d
    rw [List.map_cons, List.nodup_cons] at hn
    cases j with
    | zero =>
      simp at h; subst h
      unfold putL delL
      rw [List.filter_cons_of_neg (by simp), List.set_cons_zero]
      rw [show List.filter (fun e => decide (e.k ≠ x.k)) L = L from delL_no fun y hy e => hn.1 (e ▸ List.mem_map_of_mem hy)]
      exact List.perm_append_comm (l₁ := [_]) (l₂ := L)
    | succ j =>
      have h' : L[j]? = some e := by simpa using h
      have hne : x.k ≠ e.k := fun e2 => hn.1 (e2 ▸ List.mem_map_of_mem (List.mem_of_getElem? h'))
      unfold putL delL
      rw [List.filter_cons_of_pos (by simpa using hne), List.set_cons_succ, List.cons_append]
      exact (ih hn.2 h' d).cons x
def setE (who due : Int) : Int := if who < 0 ∨ 8 ≤ who then 1 else if due < 0 then 5 else 0
def SetP (w : World) (c t m n : Nat) (v : Value) (L : List Tm) (who due : Int) (e : Ending) (w' : World) : Prop :=
  e = .returned (.int .i64 (setE who due)) ∧ ∃ v', Cx w w' c t m (n + 1) v (if setE who due = 0 then putL L who due else L) v'
set_option maxHeartbeats 8000000 in
set_option maxRecDepth 100000 in
theorem set_any (h : Cr w c t m n v L) (hn : n ≤ 80000) {who due : Int} (hd : due ≤ 9223372036854775807) :
    Calls Try.prog 14 #[.pointer (some ⟨c, 0, none⟩), .int .i64 who, .int .i64 due] w (SetP w c t m n v L who due) := by
  have cc := h.at
  have N := Lib.hid (none_any cc)
  unfold SetP
  by_cases h1 : who < 0 ∨ 8 ≤ who
  · have he : setE who due = 1 := if_pos h1
    have Z : Hid (∃ v', Cx w w c t m (n + 1) v (if setE who due = 0 then putL L who due else L) v') := Lib.hid ⟨v, by rw [he]; exact (h.mono (by omega)).same⟩
    rw [he] at *
    clear h
    rcases h1 with h1 | h1
    · go_enter Try.func14, Try.ntmps14
      go_wp2_with fail
      refine N.out.mono ?_
      rintro e w1 ⟨rfl, rfl⟩
      go_wp2
      go_ret
      exact ⟨rfl, Z.out⟩
    · have h0 : ¬ who < 0 := by omega
      go_enter Try.func14, Try.ntmps14
      go_wp2_with fail
      refine N.out.mono ?_
      rintro e w1 ⟨rfl, rfl⟩
      go_wp2
      go_ret
      exact ⟨rfl, Z.out⟩
  · have h2 : ¬ who < 0 := by omega
    have h3 : ¬ 8 ≤ who := by omega
    by_cases h4 : due < 0
    · have he : setE who due = 5 := by unfold setE; rw [if_neg h1, if_pos h4]
      have Z : Hid (∃ v', Cx w w c t m (n + 1) v (if setE who due = 0 then putL L who due else L) v') := Lib.hid ⟨v, by rw [he]; exact (h.mono (by omega)).same⟩
      rw [he] at *
      clear h
      go_enter Try.func14, Try.ntmps14
      go_wp2_with fail
      refine N.out.mono ?_
      rintro e w1 ⟨rfl, rfl⟩
      go_wp2
      go_ret
      exact ⟨rfl, Z.out⟩
    · have he : setE who due = 0 := by unfold setE; rw [if_neg h1, if_neg h4]
      rw [he, if_pos rfl]
      obtain ⟨L', a, p, hp⟩ := h.ex
      have c1 := a.c1
      rcases a.look (a := who) (wfI (by omega) (by omega)) with ⟨i, x, hx, rfl, lk⟩ | ⟨hno, lk⟩
      · obtain ⟨gb, cb, hv⟩ := own_slice' a.its (by have := (List.getElem?_eq_some_iff.1 hx).1; omega)
        have hi := (List.getElem?_eq_some_iff.1 hx).1
        have h8 := a.le8
        have c0 := a.c0
        obtain ⟨z0, z1⟩ := a.at hv hx
        have fz := a.fzr hv (i * 2)
        obtain ⟨r1, f1⟩ := a.setd hv hx (d := due) ⟨by omega, hd⟩
        have htg : t ≠ gb := fun e => own_far a.its a.row (by decide) (by rw [hv, e]; rfl)
        have hcg : c ≠ gb := fun e => own_far a.its h.row (by decide) (by rw [hv, e]; rfl)
        have FX : Hid (Calls Try.prog 42 #[.iface 52 (.pointer (some ⟨t, 0, none⟩)), .int .i64 i] (w.setCell ⟨gb, i * 2, none⟩ (.int .i64 due)) fun e' w' => e' = .returned (.tuple #[]) ∧ ∃ v', Cx w w' c t m (n + 1) v (putL L x.k due) v') := Lib.hid (by
          refine (hfix_any a hp hx due (by omega) (by omega) r1 f1).mono ?_
          rintro e' w' ⟨rfl, G, pG, hG, rG, fG⟩
          exact ⟨rfl, v, h.step (L1 := G) ⟨rG.mono (by omega), fG.mono (fun k _ e => e.elim (fun e => .inr (.inr e)) (fun e => .inr (.inl e))), fun _ hk => .inl hk⟩ ((pG.trans (set_perm a.nd hx due)).trans (putL_perm x.k due p)) hG⟩)
        rw [hv] at c0
        have hi0 : (i : Int) < (L'.length : Int) := by omega
        have hi8 : (L'.length : Int) ≤ 8 := by omega
        clear h a p hp hx r1 f1 hv
        go_enter Try.func14, Try.ntmps14
        go_wp2_with fail
        refine N.out.mono ?_
        rintro e w1 ⟨rfl, rfl⟩
        go_wp2_with fail
        refine FX.out.mono ?_
        rintro e w2 ⟨rfl, z⟩
        replace z := Lib.hid z
        clear FX
        go_wp2
        go_ret
        exact ⟨rfl, z.out⟩
      · have h8 := a.le8
        have PU : Hid (Calls Try.prog 41 #[.iface 52 (.pointer (some ⟨t, 0, none⟩)), .iface 95 (.agg #[.int .i64 due, .int .i64 who])] w fun e w' => e = .returned (.tuple #[]) ∧ ∃ v', Cx w w' c t m (n + 1) v (putL L who due) v') := Lib.hid (by
          refine (hpush_any a hp due who hno ⟨by omega, by omega, by omega, hd⟩ (by omega) (by omega) (Nat.zero_le _)).mono ?_
          rintro e' w' ⟨rfl, v2, G, pG, hG, nG⟩
          refine ⟨rfl, v2, h.step (L1 := G) nG ?_ hG⟩
          have : putL L' who due = L' ++ [⟨due, who⟩] := by unfold putL; rw [delL_no hno]
          rw [← this] at pG
          exact pG.trans (putL_perm who due p))
        clear h a p hp hno
        go_enter Try.func14, Try.ntmps14
        go_wp2_with fail
        refine N.out.mono ?_
        rintro e w1 ⟨rfl, rfl⟩
        go_wp2_with fail
        refine PU.out.mono ?_
        rintro e w2 ⟨rfl, z⟩
        replace z := Lib.hid z
        clear PU
        go_wp2
        go_ret
        exact ⟨rfl, z.out⟩
/-- What is told of one. -/
def dueL (L : List Tm) (k : Int) : Option Int := (L.find? fun e => decide (e.k = k)).map Tm.d
theorem dueL_no {L : List Tm} {k : Int} (h : ∀ x ∈ L, x.k ≠ k) : dueL L k = none := by
  unfold dueL
  rw [Option.map_eq_none_iff, List.find?_eq_none]
  intro x hx; simpa using h x hx
theorem dueL_of {L : List Tm} (hn : (L.map Tm.k).Nodup) {e : Tm} (he : e ∈ L) : dueL L e.k = some e.d := by
  induction L with
  | nil => cases he
  | cons x L ih =>
    rw [List.map_cons, List.nodup_cons] at hn
    unfold dueL
    rw [List.find?_cons]
    rcases List.mem_cons.1 he with rfl | he
    · simp
    · have hne : x.k ≠ e.k := fun e2 => hn.1 (e2 ▸ List.mem_map_of_mem he)
      rw [show decide (x.k = e.k) = false from decide_eq_false hne]
      exact ih hn.2 he
theorem dueL_some {L : List Tm} {k d : Int} (h : dueL L k = some d) : (⟨d, k⟩ : Tm) ∈ L := by
  unfold dueL at h
  obtain ⟨e, he, rfl⟩ := Option.map_eq_some_iff.1 h
  have := List.find?_some he
  have hk : e.k = k := by simpa using this
  subst hk
  exact List.mem_of_find?_eq_some he
theorem dueL_none {L : List Tm} {k : Int} (h : dueL L k = none) : ∀ x ∈ L, x.k ≠ k := by
  unfold dueL at h
  rw [Option.map_eq_none_iff, List.find?_eq_none] at h
  intro x hx; simpa using h x hx
theorem dueL_perm {L L2 : List Tm} (hn : (L.map Tm.k).Nodup) (p : L.Perm L2) (k : Int) : dueL L k = dueL L2 k := by
  cases h : dueL L k with
  | none => exact (dueL_no fun x hx => dueL_none h x (p.mem_iff.2 hx)).symm
  | some d => exact (dueL_of ((p.map Tm.k).nodup_iff.1 hn) (p.mem_iff.1 (dueL_some h))).symm
theorem dueL_del (L : List Tm) (k a : Int) : dueL (delL L k) a = if a = k then none else dueL L a := by
  by_cases e : a = k
  · subst e
    rw [if_pos rfl]
    exact dueL_no fun x hx => by have := (List.mem_filter.1 hx).2; simpa using this
  · rw [if_neg e]
    unfold dueL delL
    rw [List.find?_filter]
    congr 1
    have : (fun x : Tm => decide (x.k ≠ k) && decide (x.k = a)) = fun x => decide (x.k = a) := by
      funext x
      by_cases h : x.k = a
      · simp [h, e]
      · simp [h]
    simpa using congrArg (fun f => List.find? f L) this
theorem dueL_put (L : List Tm) (k d a : Int) : dueL (putL L k d) a = if a = k then some d else dueL L a := by
  have h := dueL_del L k a
  by_cases e : a = k
  · subst e
    rw [if_pos rfl] at h ⊢
    unfold dueL at h
    rw [Option.map_eq_none_iff] at h
    unfold dueL putL
    rw [List.find?_append, h]
    simp
  · rw [if_neg e] at h ⊢
    unfold dueL putL
    rw [List.find?_append]
    unfold dueL at h
    rw [← h]
    cases List.find? (fun e => decide (e.k = a)) (delL L k) <;> simp [Ne.symm e]
def DropP (w : World) (c t m n : Nat) (v : Value) (L : List Tm) (who : Int) (e : Ending) (w' : World) : Prop :=
  e = .returned (.bool (dueL L who).isSome) ∧ ∃ v', Cx w w' c t m n v (delL L who) v'
set_option maxHeartbeats 4000000 in
set_option maxRecDepth 100000 in
theorem drop_any (h : Cr w c t m n v L) (hn : n ≤ 80000) {who : Int} (hw : (Lit.int .i64 who).wf = true) :
    Calls Try.prog 16 #[.pointer (some ⟨c, 0, none⟩), .int .i64 who] w (DropP w c t m n v L who) := by
  have cc := h.at
  have N := Lib.hid (none_any cc)
  unfold DropP
  obtain ⟨L', a, p, hp⟩ := h.ex
  have c1 := a.c1
  have h8 := a.le8
  rw [← dueL_perm a.nd p]
  rcases a.look hw with ⟨i, x, hx, rfl, lk⟩ | ⟨hno, lk⟩
  · have hl : dueL L' x.k = some x.d := dueL_of a.nd (List.mem_of_getElem? hx)
    rw [hl]
    have RM : Hid (Calls Try.prog 43 #[.iface 52 (.pointer (some ⟨t, 0, none⟩)), .int .i64 i] w fun e w' => (∃ u, e = .returned u) ∧ ∃ v', Cx w w' c t m n v (delL L x.k) v') := Lib.hid (by
      refine (hrem_any a hp hx (by omega) (by omega)).mono ?_
      rintro e w' ⟨rfl, v2, R, pR, hR, nR⟩
      refine ⟨⟨_, rfl⟩, v2, h.step (L1 := R) nR ?_ hR⟩
      have := delL_perm x.k pR
      rw [delL_snoc ((pR.map Tm.k).nodup_iff.2 a.nd)] at this
      exact this.trans (delL_perm x.k p))
    clear h a p hp hx hl
    go_enter Try.func16, Try.ntmps16
    go_wp2_with fail
    refine N.out.mono ?_
    rintro e w1 ⟨rfl, rfl⟩
    go_wp2_with fail
    refine RM.out.mono ?_
    rintro e w2 ⟨⟨u, rfl⟩, z⟩
    replace z := Lib.hid z
    clear RM
    go_wp2
    go_ret
    exact ⟨rfl, z.out⟩
  · rw [dueL_no hno]
    have Z : Hid (∃ v', Cx w w c t m n v (delL L who) v') := Lib.hid ⟨v, by rw [delL_no fun x hx => hno x (p.mem_iff.2 hx)]; exact h.same⟩
    clear h a p hp hno
    go_enter Try.func16, Try.ntmps16
    go_wp2_with fail
    refine N.out.mono ?_
    rintro e w1 ⟨rfl, rfl⟩
    go_wp2
    go_ret
    exact ⟨rfl, Z.out⟩
set_option maxHeartbeats 4000000 in
set_option maxRecDepth 100000 in
theorem due_any (h : Cr w c t m n v L) {who : Int} (hw : (Lit.int .i64 who).wf = true) :
    Calls Try.prog 23 #[.pointer (some ⟨c, 0, none⟩), .int .i64 who] w fun e w' => e = .returned (.tuple #[.int .i64 ((dueL L who).getD 0), .bool (dueL L who).isSome]) ∧ w = w' := by
  have cc := h.at
  have N := Lib.hid (none_any cc)
  obtain ⟨L', a, p, hp⟩ := h.ex
  have c1 := a.c1
  have h8 := a.le8
  rw [← dueL_perm a.nd p]
  rcases a.look hw with ⟨i, x, hx, rfl, lk⟩ | ⟨hno, lk⟩
  · have hl : dueL L' x.k = some x.d := dueL_of a.nd (List.mem_of_getElem? hx)
    rw [hl]
    have hi := (List.getElem?_eq_some_iff.1 hx).1
    obtain ⟨gb, cb, hv⟩ := own_slice' a.its (by omega)
    have c0 := a.c0
    obtain ⟨z0, z1⟩ := a.at hv hx
    rw [hv] at c0
    have hi0 : (i : Int) < (L'.length : Int) := by omega
    have hi8 : (L'.length : Int) ≤ 8 := by omega
    clear h a p hp hx hl hv
    go_enter Try.func23, Try.ntmps23
    go_wp2_with fail
    refine N.out.mono ?_
    rintro e w1 ⟨rfl, rfl⟩
    go_wp2
    go_ret2
    exact ⟨rfl, rfl⟩
  · rw [dueL_no hno]
    clear h a p hp hno
    go_enter Try.func23, Try.ntmps23
    go_wp2_with fail
    refine N.out.mono ?_
    rintro e w1 ⟨rfl, rfl⟩
    go_wp2
    go_ret2
    exact ⟨rfl, rfl⟩
end
end Go.Proofs.Ytcjoemejoeekiaa.Cl
