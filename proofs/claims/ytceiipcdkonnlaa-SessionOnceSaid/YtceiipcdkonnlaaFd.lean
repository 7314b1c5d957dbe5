/-
  LAYER 23: step by Ack.
-/
import Derived.Test.YtceiipcdkonnlaaFc
namespace Go.Proofs.Ytceiipcdkonnlaa.Fli
set_option linter.unusedSimpArgs false
set_option linter.unusedVariables false
open Go.RowKit Que Hp Ids
theorem oth_one {id : Int} {L : List Se} (hn : L.Pairwise fun x y => x.i ≠ y.i) {e : Se} (he : e ∈ L) (hi : e.i = id) : (oth id L).length + 1 = L.length := by
  induction L with
  | nil => cases he
  | cons x L ih =>
    rw [List.pairwise_cons] at hn
    unfold oth
    rw [List.filter_cons]
    rcases List.mem_cons.1 he with he | he
    · subst he
      rw [if_neg (by simp [hi]), List.filter_eq_self.2 (fun y hy => by have := hn.1 y hy; simp; rw [← hi]; exact Ne.symm this)]
      rfl
    · rw [if_pos (by have := hn.1 e he; simp; rw [← hi]; exact this), List.length_cons, List.length_cons]
      have := ih hn.2 he
      unfold oth at this
      omega
/-- The one of a number. -/
theorem Fs.gone {A : Nat → Prop} {w w2 w3 w4 : World} {f g : Nat} {T : List Bool} {L : List Se} {v v' : Value} {e : Se} {j : Nat} (h : Fs A w f g T L) (d : Ds (AF A f v) w2 g 8 T) (b2 : Below w.heap.size w w2) (av : ∀ k, A k → k < w.heap.size ∧ k ≠ f ∧ v.ownBlock ≠ some k) (n : WNew w2 w3 f g v (oth e.i L) v') (he : e ∈ L) (hj : e.i = (j : Int) + 1)
    (d4 : Ds (AF A f v') w4 g 8 (T.set j false)) (k4 : Kp (AF A f v') w3 w4) (hjT : j < T.length) (hjt : T.getD j false = true) : Fs A w4 f g (T.set j false) (oth e.i L) ∧ Kp A w w4 := by
  have r4 := n.r.far k4 (fun e => e (.inr (.inl rfl))) (fun k hk e => e (.inr (.inr hk)))
  have hA3 : ∀ k, A k → k < w3.heap.size ∧ k ≠ f ∧ v'.ownBlock ≠ some k := fun k hk => by
    have h1 := (av k hk).1
    have z2 := b2.size
    have z3 := n.far.size
    refine ⟨by omega, (av k hk).2.1, fun e => ?_⟩
    rcases n.nb k e with e | e
    · exact (av k hk).2.2 e
    · omega
  refine ⟨⟨⟨v', r4, d4, fun k hk => ⟨Nat.lt_of_lt_of_le (hA3 k hk).1 k4.size, (hA3 k hk).2⟩⟩, fun x hx => ?_, List.Pairwise.sublist List.filter_sublist h.nd, ?_⟩, ?_⟩
  · obtain ⟨hx1, hx2⟩ := List.mem_filter.1 hx
    obtain ⟨i, h1, h2⟩ := h.ids x hx1
    refine ⟨i, h1, ?_⟩
    have hne : i ≠ j := fun e2 => by subst e2; rw [h1, ← hj] at hx2; simp at hx2
    rw [getD_set hjT, if_neg hne]; exact h2
  · have h1 := (trues_set_false hjT (by rw [getD_tf hjT]; exact hjt))
    have h2 := oth_one h.nd he rfl
    have h3 := h.tr
    omega
  · refine ((Kp.of_ext b2).trans (n.far.mono (fun k _ hk hA => ?_))).trans (k4.mono (fun k _ hk hA => hk (.inl hA)))
    rcases hk with e | e
    · exact (av k hA).2.1 e
    · exact (av k hA).2.2 e
set_option maxHeartbeats 4000000 in
set_option maxRecDepth 100000 in
theorem ack_none {A : Nat → Prop} {w : World} {f g : Nat} {T : List Bool} {L : List Se} (h : Fs A w f g T L) (id : Int) (hn : ∀ e ∈ L, e.i ≠ id) : Calls Try.prog 61 #[.pointer (some ⟨f, 0, none⟩), .int .i64 id, .func (.func 62) #[] #[]] w fun e w' => e = .returned (.bool false) ∧ Below w.heap.size w w' := by
  obtain ⟨v, r, d, av⟩ := h.ex
  have hL := h.le
  have hb0 := ext_alloc w (.cells #[.int .i64 id] 3)
  have N := Lib.hid (none_any (r.keep hb0))
  have c1 := (r.keep hb0).c1
  have hbx : (w.alloc (.cells #[.int .i64 id] 3)).cell? ⟨w.heap.size, 0, none⟩ = some (.int .i64 id) := by simp
  have hsz : w.heap.size < (w.alloc (.cells #[.int .i64 id] 3)).heap.size := by simp
  have R1 := r.keep hb0
  obtain ⟨a, c, hv⟩ := own_slice r.its
  rw [hv] at c1
  have hL' : (L.length : Int) ≤ 8 := by omega
  replace hv := Lib.hid hv
  replace R1 := Lib.hid R1
  replace hb0 := Lib.hid hb0
  replace hn := Lib.hid hn
  clear h r d av
  go_enter Try.func61, Try.ntmps61
  go_wp2_with fail
  refine N.out.mono ?_
  rintro e w1 ⟨rfl, rfl⟩
  generalize w.alloc (.cells #[.int .i64 id] 3) = w1 at *
  go_wp2_with fail
  go_loopw [18] (fun iv wr => ∃ k : Nat, iv = .int .i64 (k : Int) ∧ k ≤ L.length ∧ Below w1.heap.size w1 wr) (fun iv _ => L.length - (intOf iv).toNat)
  case atStart => exact ⟨0, rfl, by omega, Below.refl _ _⟩
  case round =>
    obtain ⟨k, rfl, hk, hb⟩ := hrel
    have HB := Lib.hid hb
    by_cases hlt : k < L.length
    · have hlt' : (k : Int) < (L.length : Int) := by omega
      obtain ⟨e, he⟩ : ∃ e, L[k]? = some e := ⟨_, List.getElem?_eq_getElem hlt⟩
      obtain ⟨gb, cb, hv2⟩ := own_slice' R1.out.its (by omega)
      obtain ⟨q0, q1, q2, q3, q4, q5⟩ := (R1.out.keep hb).at hv2 he
      rw [hv.out] at hv2
      simp only [Value.slice.injEq] at hv2
      obtain ⟨rfl, -, rfl⟩ := hv2
      have bx := (hb.cell (p := ⟨w.heap.size, 0, none⟩) hsz).trans hbx
      have bx2 := ((ext_alloc wr (.cells #[.int .i64 e.i, .int .i64 e.s, .string e.t, .string e.x, .int .i64 e.q, .bool e.r] 101)).cell (p := ⟨w.heap.size, 0, none⟩) (World.block_lt_of_cell? wr _ bx)).trans bx
      have hne : (e.i != id) = true := by have := hn.out e (List.mem_of_getElem? he); simpa using this
      have B2 := Lib.hid (ext_trans hb (ext_alloc wr (.cells #[.int .i64 e.i, .int .i64 e.s, .string e.t, .string e.x, .int .i64 e.q, .bool e.r] 101)))
      clear hb he bx
      go_wp2_with fail
      go_roundw
      case rel => exact ⟨k + 1, by simp, by omega, B2.out⟩
      case measure => simp [intOf]; omega
    · obtain rfl : k = L.length := by omega
      clear hb hk
      go_wp2_with fail
      go_ret
      exact ⟨rfl, ext_trans hb0.out HB.out⟩
set_option maxHeartbeats 8000000 in
set_option maxRecDepth 100000 in
theorem ack_no {A : Nat → Prop} {w : World} {f g : Nat} {T : List Bool} {L : List Se} (h : Fs A w f g T L) {q : Nat} {e : Se} (hq : L[q]? = some e) (hok : (e.s == 1) = false) : Calls Try.prog 61 #[.pointer (some ⟨f, 0, none⟩), .int .i64 e.i, .func (.func 62) #[] #[]] w fun x w' => x = .returned (.bool false) ∧ Below w.heap.size w w' := by
  obtain ⟨v, r, d, av⟩ := h.ex
  have hL := h.le
  have hb0 := ext_alloc w (.cells #[.int .i64 e.i] 3)
  have N := Lib.hid (none_any (r.keep hb0))
  have c1 := (r.keep hb0).c1
  have hbx : (w.alloc (.cells #[.int .i64 e.i] 3)).cell? ⟨w.heap.size, 0, none⟩ = some (.int .i64 e.i) := by simp
  have hsz : w.heap.size < (w.alloc (.cells #[.int .i64 e.i] 3)).heap.size := by simp
  have R1 := r.keep hb0
  have D1 := Lib.hid (d.ext hb0)
  have vlt := Lib.hid (fun k (hk : v.ownBlock = some k) => (r.its.lt k hk).2)
  have flt := r.lt
  obtain ⟨a, c, hv⟩ := own_slice r.its
  rw [hv] at c1
  have hL' : (L.length : Int) ≤ 8 := by omega
  have hqL : q < L.length := (List.getElem?_eq_some_iff.1 hq).1
  have NE : Hid (∀ i x, i < q → L[i]? = some x → (x.i != e.i) = true) := Lib.hid fun i x hi hx => by
    obtain ⟨h1, rfl⟩ := List.getElem?_eq_some_iff.1 hx
    obtain ⟨h2, rfl⟩ := List.getElem?_eq_some_iff.1 hq
    have := List.pairwise_iff_getElem.1 h.nd i q h1 h2 hi
    simpa using this
  have H := Lib.hid h
  replace av := Lib.hid av
  replace hv := Lib.hid hv
  replace R1 := Lib.hid R1
  replace hb0 := Lib.hid hb0
  clear h r d
  go_enter Try.func61, Try.ntmps61
  go_wp2_with fail
  refine N.out.mono ?_
  rintro x w1 ⟨rfl, rfl⟩
  generalize w.alloc (.cells #[.int .i64 e.i] 3) = w1 at *
  go_wp2_with fail
  go_loopw [18] (fun iv wr => ∃ k : Nat, iv = .int .i64 (k : Int) ∧ k ≤ q ∧ Below w1.heap.size w1 wr) (fun iv _ => L.length - (intOf iv).toNat)
  case atStart => exact ⟨0, rfl, by omega, Below.refl _ _⟩
  case round =>
    obtain ⟨k, rfl, hk, hb⟩ := hrel
    have HB := Lib.hid hb
    have hlt : k < L.length := by omega
    have hlt' : (k : Int) < (L.length : Int) := by omega
    obtain ⟨y, he⟩ : ∃ e, L[k]? = some e := ⟨_, List.getElem?_eq_getElem hlt⟩
    obtain ⟨gb, cb, hv2⟩ := own_slice' R1.out.its (by omega)
    obtain ⟨q0, q1, q2, q3, q4, q5⟩ := (R1.out.keep hb).at hv2 he
    have hvX := hv2
    rw [hv.out] at hv2
    simp only [Value.slice.injEq] at hv2
    obtain ⟨rfl, -, rfl⟩ := hv2
    have bx := (hb.cell (p := ⟨w.heap.size, 0, none⟩) hsz).trans hbx
    by_cases hkq : k < q
    · have bx2 := ((ext_alloc wr (.cells #[.int .i64 y.i, .int .i64 y.s, .string y.t, .string y.x, .int .i64 y.q, .bool y.r] 101)).cell (p := ⟨w.heap.size, 0, none⟩) (World.block_lt_of_cell? wr _ bx)).trans bx
      have hne := NE.out k y hkq he
      have B2 := Lib.hid (ext_trans hb (ext_alloc wr (.cells #[.int .i64 y.i, .int .i64 y.s, .string y.t, .string y.x, .int .i64 y.q, .bool y.r] 101)))
      clear hb he bx hvX
      go_wp2_with fail
      go_roundw
      case rel => exact ⟨k + 1, by simp, by omega, B2.out⟩
      case measure => simp [intOf]; omega
    · obtain rfl : k = q := by omega
      rw [hq] at he
      obtain rfl : e = y := by simpa using he
      have hba := ext_alloc wr (.cells #[.int .i64 e.i, .int .i64 e.s, .string e.t, .string e.x, .int .i64 e.q, .bool e.r] 101)
      have bx2 := (hba.cell (p := ⟨w.heap.size, 0, none⟩) (World.block_lt_of_cell? wr _ bx)).trans bx
      have rr : (wr.alloc (.cells #[.int .i64 e.i, .int .i64 e.s, .string e.t, .string e.x, .int .i64 e.q, .bool e.r] 101)).heap[wr.heap.size]? = some (.cells #[.int .i64 e.i, .int .i64 e.s, .string e.t, .string e.x, .int .i64 e.q, .bool e.r] 101 (0, 0)) := heap_alloc_new wr _
      have NX := ack_any e (wr.alloc (.cells #[.int .i64 e.i, .int .i64 e.s, .string e.t, .string e.x, .int .i64 e.q, .bool e.r] 101))
      rw [hok] at NX
      replace NX := Lib.hid NX
      have hlt2 : w.heap.size < (wr.alloc (.cells #[.int .i64 e.i, .int .i64 e.s, .string e.t, .string e.x, .int .i64 e.q, .bool e.r] 101)).heap.size := Nat.lt_of_lt_of_le (World.block_lt_of_cell? wr _ bx) hba.size
      replace hba := Lib.hid (ext_trans hb hba)
      replace rr := Lib.hid rr
      clear hb he bx hkq hk
      go_wp2_with fail
      refine NX.out.mono ?_
      rintro x w2 ⟨rfl, b2⟩
      have B2 := Lib.hid (ext_trans hb0.out (ext_trans hba.out b2))
      clear b2
      go_wp2_with fail
      go_ret
      exact ⟨rfl, B2.out⟩
set_option maxHeartbeats 8000000 in
set_option maxRecDepth 100000 in
theorem ack_yes {A : Nat → Prop} {w : World} {f g : Nat} {T : List Bool} {L : List Se} (h : Fs A w f g T L) {q : Nat} {e : Se} (hq : L[q]? = some e) (hok : (e.s == 1) = true) : Calls Try.prog 61 #[.pointer (some ⟨f, 0, none⟩), .int .i64 e.i, .func (.func 62) #[] #[]] w fun x w' => x = .returned (.bool true) ∧ ∃ T' L', L' = oth e.i L ∧ Fs A w' f g T' L' ∧ Kp A w w' := by
  obtain ⟨v, r, d, av⟩ := h.ex
  have hL := h.le
  have hb0 := ext_alloc w (.cells #[.int .i64 e.i] 3)
  have N := Lib.hid (none_any (r.keep hb0))
  have c1 := (r.keep hb0).c1
  have hbx : (w.alloc (.cells #[.int .i64 e.i] 3)).cell? ⟨w.heap.size, 0, none⟩ = some (.int .i64 e.i) := by simp
  have hsz : w.heap.size < (w.alloc (.cells #[.int .i64 e.i] 3)).heap.size := by simp
  have R1 := r.keep hb0
  have D1 := Lib.hid (d.ext hb0)
  have vlt := Lib.hid (fun k (hk : v.ownBlock = some k) => (r.its.lt k hk).2)
  have flt := r.lt
  obtain ⟨a, c, hv⟩ := own_slice r.its
  rw [hv] at c1
  have hL' : (L.length : Int) ≤ 8 := by omega
  have hqL : q < L.length := (List.getElem?_eq_some_iff.1 hq).1
  have NE : Hid (∀ i x, i < q → L[i]? = some x → (x.i != e.i) = true) := Lib.hid fun i x hi hx => by
    obtain ⟨h1, rfl⟩ := List.getElem?_eq_some_iff.1 hx
    obtain ⟨h2, rfl⟩ := List.getElem?_eq_some_iff.1 hq
    have := List.pairwise_iff_getElem.1 h.nd i q h1 h2 hi
    simpa using this
  have H := Lib.hid h
  replace av := Lib.hid av
  replace hv := Lib.hid hv
  replace R1 := Lib.hid R1
  replace hb0 := Lib.hid hb0
  clear h r d
  go_enter Try.func61, Try.ntmps61
  go_wp2_with fail
  refine N.out.mono ?_
  rintro x w1 ⟨rfl, rfl⟩
  generalize w.alloc (.cells #[.int .i64 e.i] 3) = w1 at *
  go_wp2_with fail
  go_loopw [18] (fun iv wr => ∃ k : Nat, iv = .int .i64 (k : Int) ∧ k ≤ q ∧ Below w1.heap.size w1 wr) (fun iv _ => L.length - (intOf iv).toNat)
  case atStart => exact ⟨0, rfl, by omega, Below.refl _ _⟩
  case round =>
    obtain ⟨k, rfl, hk, hb⟩ := hrel
    have HB := Lib.hid hb
    have hlt : k < L.length := by omega
    have hlt' : (k : Int) < (L.length : Int) := by omega
    obtain ⟨y, he⟩ : ∃ e, L[k]? = some e := ⟨_, List.getElem?_eq_getElem hlt⟩
    obtain ⟨gb, cb, hv2⟩ := own_slice' R1.out.its (by omega)
    obtain ⟨q0, q1, q2, q3, q4, q5⟩ := (R1.out.keep hb).at hv2 he
    have hvX := hv2
    rw [hv.out] at hv2
    simp only [Value.slice.injEq] at hv2
    obtain ⟨rfl, -, rfl⟩ := hv2
    have bx := (hb.cell (p := ⟨w.heap.size, 0, none⟩) hsz).trans hbx
    by_cases hkq : k < q
    · have bx2 := ((ext_alloc wr (.cells #[.int .i64 y.i, .int .i64 y.s, .string y.t, .string y.x, .int .i64 y.q, .bool y.r] 101)).cell (p := ⟨w.heap.size, 0, none⟩) (World.block_lt_of_cell? wr _ bx)).trans bx
      have hne := NE.out k y hkq he
      have B2 := Lib.hid (ext_trans hb (ext_alloc wr (.cells #[.int .i64 y.i, .int .i64 y.s, .string y.t, .string y.x, .int .i64 y.q, .bool y.r] 101)))
      clear hb he bx hvX
      go_wp2_with fail
      go_roundw
      case rel => exact ⟨k + 1, by simp, by omega, B2.out⟩
      case measure => simp [intOf]; omega
    · obtain rfl : k = q := by omega
      rw [hq] at he
      obtain rfl : e = y := by simpa using he
      have hba := ext_alloc wr (.cells #[.int .i64 e.i, .int .i64 e.s, .string e.t, .string e.x, .int .i64 e.q, .bool e.r] 101)
      have bx2 := (hba.cell (p := ⟨w.heap.size, 0, none⟩) (World.block_lt_of_cell? wr _ bx)).trans bx
      have rr : (wr.alloc (.cells #[.int .i64 e.i, .int .i64 e.s, .string e.t, .string e.x, .int .i64 e.q, .bool e.r] 101)).heap[wr.heap.size]? = some (.cells #[.int .i64 e.i, .int .i64 e.s, .string e.t, .string e.x, .int .i64 e.q, .bool e.r] 101 (0, 0)) := heap_alloc_new wr _
      have NX := ack_any e (wr.alloc (.cells #[.int .i64 e.i, .int .i64 e.s, .string e.t, .string e.x, .int .i64 e.q, .bool e.r] 101))
      rw [hok] at NX
      replace NX := Lib.hid NX
      have hlt2 : w.heap.size < (wr.alloc (.cells #[.int .i64 e.i, .int .i64 e.s, .string e.t, .string e.x, .int .i64 e.q, .bool e.r] 101)).heap.size := Nat.lt_of_lt_of_le (World.block_lt_of_cell? wr _ bx) hba.size
      replace hba := Lib.hid (ext_trans hb hba)
      replace rr := Lib.hid rr
      clear hb he bx hkq hk
      go_wp2_with fail
      refine NX.out.mono ?_
      rintro x w2 ⟨rfl, b2⟩
      have B2 := Lib.hid (ext_trans hba.out b2)
      have bx3 := (b2.cell (p := ⟨w.heap.size, 0, none⟩) hlt2).trans bx2
      obtain ⟨j, hj, hjt⟩ := H.out.ids e (List.mem_of_getElem? hq)
      have hjT : j < T.length := by
        apply Classical.byContradiction
        intro hn
        rw [List.getD_eq_getElem?_getD, List.getElem?_eq_none (by omega)] at hjt
        cases hjt
      have R2 := Lib.hid (R1.out.keep B2.out)
      have KE := Lib.hid (keep_any (R1.out.keep B2.out) hL e.i w.heap.size bx3)
      have D2 := Lib.hid (D1.out.ext B2.out)
      have f2 := R2.out.c0
      have hw2 : w.heap.size < w2.heap.size := World.block_lt_of_cell? w2 _ bx3
      have hwf : w.heap.size ≠ f := by omega
      clear b2 bx2 hlt2 rr hba NX
      go_wp2_with fail
      refine KE.out.mono ?_
      rintro x w3 ⟨rfl, v', n3⟩
      have far3 := n3.far
      have bx4 : w3.cell? ⟨w.heap.size, 0, none⟩ = some (.int .i64 e.i) := by
        rw [← bx3]
        have := far3.block w.heap.size hw2 (fun hh => hh.elim (fun e => hwf e) (fun e => by have := vlt.out _ e; omega))
        simp only [World.cell?, this]
      have f3 := n3.r.c0
      have d3 : Ds (AF A f v') w3 g 8 T := Ds.others D2.out far3 (fun k hk => hk.elim (fun e => .inr (.inl e)) (fun e => .inr (.inr e))) (fun k hk => by
        rcases hk with hk | hk | hk
        · exact .inl (.inl hk)
        · exact .inl (.inr (.inl hk))
        · rcases n3.nb k hk with e | e
          · exact .inl (.inr (.inr e))
          · exact .inr ⟨e, (n3.r.its.lt k hk).2⟩)
      have GV : Hid (∀ n, Calls Try.prog 73 #[.pointer (some ⟨g, 0, none⟩), .int .i64 e.i] (w3.drewN n) fun x w' => x = .returned (.int .i64 0) ∧ ∃ T' L', L' = oth e.i L ∧ Fs A w' f g T' L' ∧ Kp A w w') := Lib.hid fun n => by
        have GO := give_ok (d3.ext (ext_drewN w3 n)) hjT hjt
        rw [← hj] at GO
        refine GO.mono ?_
        rintro x w4 ⟨rfl, d4, k4⟩
        obtain ⟨z1, z2⟩ := Fs.gone H.out D2.out (ext_trans hb0.out B2.out) av.out n3 (List.mem_of_getElem? hq) hj d4 ((Kp.of_ext (ext_drewN w3 n)).trans k4) hjT hjt
        exact ⟨rfl, _, _, rfl, z1, z2⟩
      clear n3 far3 d3 KE bx3 f2 hj
      go_wp2_with fail
      go_still_tail 5, (by kernel_rfl)
      repeat still_step
      change wpList _ _ _ _ _ w3.drew
      go_wp2_with fail
      refine (GV.out 1).mono ?_
      rintro x w4 ⟨rfl, T', L', q1, q2, q3⟩
      have Z : Hid (∃ T' L', L' = oth e.i L ∧ Fs A w4 f g T' L' ∧ Kp A w w4) := Lib.hid ⟨T', L', q1, q2, q3⟩
      clear q1 q2 q3 GV
      go_wp2_with fail
      go_ret
      exact ⟨rfl, Z.out⟩
end Go.Proofs.Ytceiipcdkonnlaa.Fli
