/-
  LAYER 23: step by Comp.
-/
import Derived.Test.YtceiipcdkonnlaaGreatFd
namespace Go.Proofs.YtceiipcdkonnlaaGreat.Fli
set_option linter.unusedSimpArgs false
set_option linter.unusedVariables false
open Go.RowKit Que Hp Ids
set_option maxHeartbeats 4000000 in
set_option maxRecDepth 100000 in
theorem comp_none {A : Nat → Prop} {w : World} {f g : Nat} {T : List Bool} {L : List Se} (h : Fs A w f g T L) (id : Int) (hn : ∀ e ∈ L, e.i ≠ id) : Calls Tryz.prog 69 #[.pointer (some ⟨f, 0, none⟩), .int .i64 id, .func (.func 71) #[] #[]] w fun e w' => e = .returned (.bool false) ∧ Below w.heap.size w w' := by
  obtain ⟨v, r, d, av⟩ := h.ex
  have hL := h.le
  have hb0 := ext_alloc w (.cells #[.int .i64 id] 3)
  have N := Lib.hid (none_any (r.keep hb0))
  have c1 := (r.keep hb0).c1
  have hbx : (w.alloc (.cells #[.int .i64 id] 3)).cell? ⟨w.heap.size, 0, none⟩ = some (.int .i64 id) := by simp
  have hsz : w.heap.size < (w.alloc (.cells #[.int .i64 id] 3)).heap.size := by simp
  have R1 := r.keep hb0
  obtain ⟨a, c, hv⟩ := own_slice r.its
  rw [hv] at c1
  have hL' : (L.length : Int) ≤ 8 := by omega
  replace hv := Lib.hid hv
  replace R1 := Lib.hid R1
  replace hb0 := Lib.hid hb0
  replace hn := Lib.hid hn
  clear h r d av
  go_enter Tryz.func69, Tryz.ntmps69
  go_wp2_with fail
  refine N.out.mono ?_
  rintro e w1 ⟨rfl, rfl⟩
  generalize w.alloc (.cells #[.int .i64 id] 3) = w1 at *
  go_wp2_with fail
  go_loopw [18] (fun iv wr => ∃ k : Nat, iv = .int .i64 (k : Int) ∧ k ≤ L.length ∧ Below w1.heap.size w1 wr) (fun iv _ => L.length - (intOf iv).toNat)
  case atStart => exact ⟨0, rfl, by omega, Below.refl _ _⟩
  case round =>
    obtain ⟨k, rfl, hk, hb⟩ := hrel
    have HB := Lib.hid hb
    by_cases hlt : k < L.length
    · have hlt' : (k : Int) < (L.length : Int) := by omega
      obtain ⟨e, he⟩ : ∃ e, L[k]? = some e := ⟨_, List.getElem?_eq_getElem hlt⟩
      obtain ⟨gb, cb, hv2⟩ := own_slice' R1.out.its (by omega)
      obtain ⟨q0, q1, q2, q3, q4, q5⟩ := (R1.out.keep hb).at hv2 he
      rw [hv.out] at hv2
      simp only [Value.slice.injEq] at hv2
      obtain ⟨rfl, -, rfl⟩ := hv2
      have bx := (hb.cell (p := ⟨w.heap.size, 0, none⟩) hsz).trans hbx
      have bx2 := ((ext_alloc wr (.cells #[.int .i64 e.i, .int .i64 e.s, .string e.t, .string e.x, .int .i64 e.q, .bool e.r] 118)).cell (p := ⟨w.heap.size, 0, none⟩) (World.block_lt_of_cell? wr _ bx)).trans bx
      have hne : (e.i != id) = true := by have := hn.out e (List.mem_of_getElem? he); simpa using this
      have B2 := Lib.hid (ext_trans hb (ext_alloc wr (.cells #[.int .i64 e.i, .int .i64 e.s, .string e.t, .string e.x, .int .i64 e.q, .bool e.r] 118)))
      clear hb he bx
      go_wp2_with fail
      go_roundw
      case rel => exact ⟨k + 1, by simp, by omega, B2.out⟩
      case measure => simp [intOf]; omega
    · obtain rfl : k = L.length := by omega
      clear hb hk
      go_wp2_with fail
      go_ret
      exact ⟨rfl, ext_trans hb0.out HB.out⟩
set_option maxHeartbeats 8000000 in
set_option maxRecDepth 100000 in
theorem comp_no {A : Nat → Prop} {w : World} {f g : Nat} {T : List Bool} {L : List Se} (h : Fs A w f g T L) {q : Nat} {e : Se} (hq : L[q]? = some e) (hok : (e.s == 3) = false) : Calls Tryz.prog 69 #[.pointer (some ⟨f, 0, none⟩), .int .i64 e.i, .func (.func 71) #[] #[]] w fun x w' => x = .returned (.bool false) ∧ Below w.heap.size w w' := by
  obtain ⟨v, r, d, av⟩ := h.ex
  have hL := h.le
  have hb0 := ext_alloc w (.cells #[.int .i64 e.i] 3)
  have N := Lib.hid (none_any (r.keep hb0))
  have c1 := (r.keep hb0).c1
  have hbx : (w.alloc (.cells #[.int .i64 e.i] 3)).cell? ⟨w.heap.size, 0, none⟩ = some (.int .i64 e.i) := by simp
  have hsz : w.heap.size < (w.alloc (.cells #[.int .i64 e.i] 3)).heap.size := by simp
  have R1 := r.keep hb0
  have D1 := Lib.hid (d.ext hb0)
  have vlt := Lib.hid (fun k (hk : v.ownBlock = some k) => (r.its.lt k hk).2)
  have flt := r.lt
  obtain ⟨a, c, hv⟩ := own_slice r.its
  rw [hv] at c1
  have hL' : (L.length : Int) ≤ 8 := by omega
  have hqL : q < L.length := (List.getElem?_eq_some_iff.1 hq).1
  have NE : Hid (∀ i x, i < q → L[i]? = some x → (x.i != e.i) = true) := Lib.hid fun i x hi hx => by
    obtain ⟨h1, rfl⟩ := List.getElem?_eq_some_iff.1 hx
    obtain ⟨h2, rfl⟩ := List.getElem?_eq_some_iff.1 hq
    have := List.pairwise_iff_getElem.1 h.nd i q h1 h2 hi
    simpa using this
  have H := Lib.hid h
  replace av := Lib.hid av
  replace hv := Lib.hid hv
  replace R1 := Lib.hid R1
  replace hb0 := Lib.hid hb0
  clear h r d
  go_enter Tryz.func69, Tryz.ntmps69
  go_wp2_with fail
  refine N.out.mono ?_
  rintro x w1 ⟨rfl, rfl⟩
  generalize w.alloc (.cells #[.int .i64 e.i] 3) = w1 at *
  go_wp2_with fail
  go_loopw [18] (fun iv wr => ∃ k : Nat, iv = .int .i64 (k : Int) ∧ k ≤ q ∧ Below w1.heap.size w1 wr) (fun iv _ => L.length - (intOf iv).toNat)
  case atStart => exact ⟨0, rfl, by omega, Below.refl _ _⟩
  case round =>
    obtain ⟨k, rfl, hk, hb⟩ := hrel
    have HB := Lib.hid hb
    have hlt : k < L.length := by omega
    have hlt' : (k : Int) < (L.length : Int) := by omega
    obtain ⟨y, he⟩ : ∃ e, L[k]? = some e := ⟨_, List.getElem?_eq_getElem hlt⟩
    obtain ⟨gb, cb, hv2⟩ := own_slice' R1.out.its (by omega)
    obtain ⟨q0, q1, q2, q3, q4, q5⟩ := (R1.out.keep hb).at hv2 he
    have hvX := hv2
    rw [hv.out] at hv2
    simp only [Value.slice.injEq] at hv2
    obtain ⟨rfl, -, rfl⟩ := hv2
    have bx := (hb.cell (p := ⟨w.heap.size, 0, none⟩) hsz).trans hbx
    by_cases hkq : k < q
    · have bx2 := ((ext_alloc wr (.cells #[.int .i64 y.i, .int .i64 y.s, .string y.t, .string y.x, .int .i64 y.q, .bool y.r] 118)).cell (p := ⟨w.heap.size, 0, none⟩) (World.block_lt_of_cell? wr _ bx)).trans bx
      have hne := NE.out k y hkq he
      have B2 := Lib.hid (ext_trans hb (ext_alloc wr (.cells #[.int .i64 y.i, .int .i64 y.s, .string y.t, .string y.x, .int .i64 y.q, .bool y.r] 118)))
      clear hb he bx hvX
      go_wp2_with fail
      go_roundw
      case rel => exact ⟨k + 1, by simp, by omega, B2.out⟩
      case measure => simp [intOf]; omega
    · obtain rfl : k = q := by omega
      rw [hq] at he
      obtain rfl : e = y := by simpa using he
      have hba := ext_alloc wr (.cells #[.int .i64 e.i, .int .i64 e.s, .string e.t, .string e.x, .int .i64 e.q, .bool e.r] 118)
      have bx2 := (hba.cell (p := ⟨w.heap.size, 0, none⟩) (World.block_lt_of_cell? wr _ bx)).trans bx
      have rr : (wr.alloc (.cells #[.int .i64 e.i, .int .i64 e.s, .string e.t, .string e.x, .int .i64 e.q, .bool e.r] 118)).heap[wr.heap.size]? = some (.cells #[.int .i64 e.i, .int .i64 e.s, .string e.t, .string e.x, .int .i64 e.q, .bool e.r] 118 (0, 0)) := heap_alloc_new wr _
      have NX := comp_any e (wr.alloc (.cells #[.int .i64 e.i, .int .i64 e.s, .string e.t, .string e.x, .int .i64 e.q, .bool e.r] 118))
      rw [hok] at NX
      replace NX := Lib.hid NX
      have hlt2 : w.heap.size < (wr.alloc (.cells #[.int .i64 e.i, .int .i64 e.s, .string e.t, .string e.x, .int .i64 e.q, .bool e.r] 118)).heap.size := Nat.lt_of_lt_of_le (World.block_lt_of_cell? wr _ bx) hba.size
      replace hba := Lib.hid (ext_trans hb hba)
      replace rr := Lib.hid rr
      clear hb he bx hkq hk
      go_wp2_with fail
      refine NX.out.mono ?_
      rintro x w2 ⟨rfl, b2⟩
      have B2 := Lib.hid (ext_trans hb0.out (ext_trans hba.out b2))
      clear b2
      go_wp2_with fail
      go_ret
      exact ⟨rfl, B2.out⟩
set_option maxHeartbeats 8000000 in
set_option maxRecDepth 100000 in
theorem comp_yes {A : Nat → Prop} {w : World} {f g : Nat} {T : List Bool} {L : List Se} (h : Fs A w f g T L) {q : Nat} {e : Se} (hq : L[q]? = some e) (hok : (e.s == 3) = true) : Calls Tryz.prog 69 #[.pointer (some ⟨f, 0, none⟩), .int .i64 e.i, .func (.func 71) #[] #[]] w fun x w' => x = .returned (.bool true) ∧ ∃ T' L', L' = oth e.i L ∧ Fs A w' f g T' L' ∧ Kp A w w' := by
  obtain ⟨v, r, d, av⟩ := h.ex
  have hL := h.le
  have hb0 := ext_alloc w (.cells #[.int .i64 e.i] 3)
  have N := Lib.hid (none_any (r.keep hb0))
  have c1 := (r.keep hb0).c1
  have hbx : (w.alloc (.cells #[.int .i64 e.i] 3)).cell? ⟨w.heap.size, 0, none⟩ = some (.int .i64 e.i) := by simp
  have hsz : w.heap.size < (w.alloc (.cells #[.int .i64 e.i] 3)).heap.size := by simp
  have R1 := r.keep hb0
  have D1 := Lib.hid (d.ext hb0)
  have vlt := Lib.hid (fun k (hk : v.ownBlock = some k) => (r.its.lt k hk).2)
  have flt := r.lt
  obtain ⟨a, c, hv⟩ := own_slice r.its
  rw [hv] at c1
  have hL' : (L.length : Int) ≤ 8 := by omega
  have hqL : q < L.length := (List.getElem?_eq_some_iff.1 hq).1
  have NE : Hid (∀ i x, i < q → L[i]? = some x → (x.i != e.i) = true) := Lib.hid fun i x hi hx => by
    obtain ⟨h1, rfl⟩ := List.getElem?_eq_some_iff.1 hx
    obtain ⟨h2, rfl⟩ := List.getElem?_eq_some_iff.1 hq
    have := List.pairwise_iff_getElem.1 h.nd i q h1 h2 hi
    simpa using this
  have H := Lib.hid h
  replace av := Lib.hid av
  replace hv := Lib.hid hv
  replace R1 := Lib.hid R1
  replace hb0 := Lib.hid hb0
  clear h r d
  go_enter Tryz.func69, Tryz.ntmps69
  go_wp2_with fail
  refine N.out.mono ?_
  rintro x w1 ⟨rfl, rfl⟩
  generalize w.alloc (.cells #[.int .i64 e.i] 3) = w1 at *
  go_wp2_with fail
  go_loopw [18] (fun iv wr => ∃ k : Nat, iv = .int .i64 (k : Int) ∧ k ≤ q ∧ Below w1.heap.size w1 wr) (fun iv _ => L.length - (intOf iv).toNat)
  case atStart => exact ⟨0, rfl, by omega, Below.refl _ _⟩
  case round =>
    obtain ⟨k, rfl, hk, hb⟩ := hrel
    have HB := Lib.hid hb
    have hlt : k < L.length := by omega
    have hlt' : (k : Int) < (L.length : Int) := by omega
    obtain ⟨y, he⟩ : ∃ e, L[k]? = some e := ⟨_, List.getElem?_eq_getElem hlt⟩
    obtain ⟨gb, cb, hv2⟩ := own_slice' R1.out.its (by omega)
    obtain ⟨q0, q1, q2, q3, q4, q5⟩ := (R1.out.keep hb).at hv2 he
    have hvX := hv2
    rw [hv.out] at hv2
    simp only [Value.slice.injEq] at hv2
    obtain ⟨rfl, -, rfl⟩ := hv2
    have bx := (hb.cell (p := ⟨w.heap.size, 0, none⟩) hsz).trans hbx
    by_cases hkq : k < q
    · have bx2 := ((ext_alloc wr (.cells #[.int .i64 y.i, .int .i64 y.s, .string y.t, .string y.x, .int .i64 y.q, .bool y.r] 118)).cell (p := ⟨w.heap.size, 0, none⟩) (World.block_lt_of_cell? wr _ bx)).trans bx
      have hne := NE.out k y hkq he
      have B2 := Lib.hid (ext_trans hb (ext_alloc wr (.cells #[.int .i64 y.i, .int .i64 y.s, .string y.t, .string y.x, .int .i64 y.q, .bool y.r] 118)))
      clear hb he bx hvX
      go_wp2_with fail
      go_roundw
      case rel => exact ⟨k + 1, by simp, by omega, B2.out⟩
      case measure => simp [intOf]; omega
    · obtain rfl : k = q := by omega
      rw [hq] at he
      obtain rfl : e = y := by simpa using he
      have hba := ext_alloc wr (.cells #[.int .i64 e.i, .int .i64 e.s, .string e.t, .string e.x, .int .i64 e.q, .bool e.r] 118)
      have bx2 := (hba.cell (p := ⟨w.heap.size, 0, none⟩) (World.block_lt_of_cell? wr _ bx)).trans bx
      have rr : (wr.alloc (.cells #[.int .i64 e.i, .int .i64 e.s, .string e.t, .string e.x, .int .i64 e.q, .bool e.r] 118)).heap[wr.heap.size]? = some (.cells #[.int .i64 e.i, .int .i64 e.s, .string e.t, .string e.x, .int .i64 e.q, .bool e.r] 118 (0, 0)) := heap_alloc_new wr _
      have NX := comp_any e (wr.alloc (.cells #[.int .i64 e.i, .int .i64 e.s, .string e.t, .string e.x, .int .i64 e.q, .bool e.r] 118))
      rw [hok] at NX
      replace NX := Lib.hid NX
      have hlt2 : w.heap.size < (wr.alloc (.cells #[.int .i64 e.i, .int .i64 e.s, .string e.t, .string e.x, .int .i64 e.q, .bool e.r] 118)).heap.size := Nat.lt_of_lt_of_le (World.block_lt_of_cell? wr _ bx) hba.size
      replace hba := Lib.hid (ext_trans hb hba)
      replace rr := Lib.hid rr
      clear hb he bx hkq hk
      go_wp2_with fail
      refine NX.out.mono ?_
      rintro x w2 ⟨rfl, b2⟩
      have B2 := Lib.hid (ext_trans hba.out b2)
      have bx3 := (b2.cell (p := ⟨w.heap.size, 0, none⟩) hlt2).trans bx2
      obtain ⟨j, hj, hjt⟩ := H.out.ids e (List.mem_of_getElem? hq)
      have hjT : j < T.length := by
        apply Classical.byContradiction
        intro hn
        rw [List.getD_eq_getElem?_getD, List.getElem?_eq_none (by omega)] at hjt
        cases hjt
      have R2 := Lib.hid (R1.out.keep B2.out)
      have KE := Lib.hid (keep_any (R1.out.keep B2.out) hL e.i w.heap.size bx3)
      have D2 := Lib.hid (D1.out.ext B2.out)
      have f2 := R2.out.c0
      have hw2 : w.heap.size < w2.heap.size := World.block_lt_of_cell? w2 _ bx3
      have hwf : w.heap.size ≠ f := by omega
      clear b2 bx2 hlt2 rr hba NX
      go_wp2_with fail
      refine KE.out.mono ?_
      rintro x w3 ⟨rfl, v', n3⟩
      have far3 := n3.far
      have bx4 : w3.cell? ⟨w.heap.size, 0, none⟩ = some (.int .i64 e.i) := by
        rw [← bx3]
        have := far3.block w.heap.size hw2 (fun hh => hh.elim (fun e => hwf e) (fun e => by have := vlt.out _ e; omega))
        simp only [World.cell?, this]
      have f3 := n3.r.c0
      have d3 : Ds (AF A f v') w3 g 8 T := Ds.others D2.out far3 (fun k hk => hk.elim (fun e => .inr (.inl e)) (fun e => .inr (.inr e))) (fun k hk => by
        rcases hk with hk | hk | hk
        · exact .inl (.inl hk)
        · exact .inl (.inr (.inl hk))
        · rcases n3.nb k hk with e | e
          · exact .inl (.inr (.inr e))
          · exact .inr ⟨e, (n3.r.its.lt k hk).2⟩)
      have GV : Hid (∀ n, Calls Tryz.prog 82 #[.pointer (some ⟨g, 0, none⟩), .int .i64 e.i] (w3.drewN n) fun x w' => x = .returned (.int .i64 0) ∧ ∃ T' L', L' = oth e.i L ∧ Fs A w' f g T' L' ∧ Kp A w w') := Lib.hid fun n => by
        have GO := give_ok (d3.ext (ext_drewN w3 n)) hjT hjt
        rw [← hj] at GO
        refine GO.mono ?_
        rintro x w4 ⟨rfl, d4, k4⟩
        obtain ⟨z1, z2⟩ := Fs.gone H.out D2.out (ext_trans hb0.out B2.out) av.out n3 (List.mem_of_getElem? hq) hj d4 ((Kp.of_ext (ext_drewN w3 n)).trans k4) hjT hjt
        exact ⟨rfl, _, _, rfl, z1, z2⟩
      clear n3 far3 d3 KE bx3 f2 hj
      go_wp2_with fail
      go_still_tail 5, (by kernel_rfl)
      repeat still_step
      change wpList _ _ _ _ _ w3.drew
      go_wp2_with fail
      refine (GV.out 1).mono ?_
      rintro x w4 ⟨rfl, T', L', q1, q2, q3⟩
      have Z : Hid (∃ T' L', L' = oth e.i L ∧ Fs A w4 f g T' L' ∧ Kp A w w4) := Lib.hid ⟨T', L', q1, q2, q3⟩
      clear q1 q2 q3 GV
      go_wp2_with fail
      go_ret
      exact ⟨rfl, Z.out⟩
end Go.Proofs.YtceiipcdkonnlaaGreat.Fli

/-
  LAYER 23: step by Rec.
-/
namespace Go.Proofs.YtceiipcdkonnlaaGreat.Fli
set_option linter.unusedSimpArgs false
set_option linter.unusedVariables false
open Go.RowKit Que Hp Ids
set_option maxHeartbeats 4000000 in
set_option maxRecDepth 100000 in
theorem rec_none {A : Nat → Prop} {w : World} {f g : Nat} {T : List Bool} {L : List Se} (h : Fs A w f g T L) (id : Int) (hn : ∀ e ∈ L, e.i ≠ id) : Calls Tryz.prog 69 #[.pointer (some ⟨f, 0, none⟩), .int .i64 id, .func (.func 72) #[] #[]] w fun e w' => e = .returned (.bool false) ∧ Below w.heap.size w w' := by
  obtain ⟨v, r, d, av⟩ := h.ex
  have hL := h.le
  have hb0 := ext_alloc w (.cells #[.int .i64 id] 3)
  have N := Lib.hid (none_any (r.keep hb0))
  have c1 := (r.keep hb0).c1
  have hbx : (w.alloc (.cells #[.int .i64 id] 3)).cell? ⟨w.heap.size, 0, none⟩ = some (.int .i64 id) := by simp
  have hsz : w.heap.size < (w.alloc (.cells #[.int .i64 id] 3)).heap.size := by simp
  have R1 := r.keep hb0
  obtain ⟨a, c, hv⟩ := own_slice r.its
  rw [hv] at c1
  have hL' : (L.length : Int) ≤ 8 := by omega
  replace hv := Lib.hid hv
  replace R1 := Lib.hid R1
  replace hb0 := Lib.hid hb0
  replace hn := Lib.hid hn
  clear h r d av
  go_enter Tryz.func69, Tryz.ntmps69
  go_wp2_with fail
  refine N.out.mono ?_
  rintro e w1 ⟨rfl, rfl⟩
  generalize w.alloc (.cells #[.int .i64 id] 3) = w1 at *
  go_wp2_with fail
  go_loopw [18] (fun iv wr => ∃ k : Nat, iv = .int .i64 (k : Int) ∧ k ≤ L.length ∧ Below w1.heap.size w1 wr) (fun iv _ => L.length - (intOf iv).toNat)
  case atStart => exact ⟨0, rfl, by omega, Below.refl _ _⟩
  case round =>
    obtain ⟨k, rfl, hk, hb⟩ := hrel
    have HB := Lib.hid hb
    by_cases hlt : k < L.length
    · have hlt' : (k : Int) < (L.length : Int) := by omega
      obtain ⟨e, he⟩ : ∃ e, L[k]? = some e := ⟨_, List.getElem?_eq_getElem hlt⟩
      obtain ⟨gb, cb, hv2⟩ := own_slice' R1.out.its (by omega)
      obtain ⟨q0, q1, q2, q3, q4, q5⟩ := (R1.out.keep hb).at hv2 he
      rw [hv.out] at hv2
      simp only [Value.slice.injEq] at hv2
      obtain ⟨rfl, -, rfl⟩ := hv2
      have bx := (hb.cell (p := ⟨w.heap.size, 0, none⟩) hsz).trans hbx
      have bx2 := ((ext_alloc wr (.cells #[.int .i64 e.i, .int .i64 e.s, .string e.t, .string e.x, .int .i64 e.q, .bool e.r] 118)).cell (p := ⟨w.heap.size, 0, none⟩) (World.block_lt_of_cell? wr _ bx)).trans bx
      have hne : (e.i != id) = true := by have := hn.out e (List.mem_of_getElem? he); simpa using this
      have B2 := Lib.hid (ext_trans hb (ext_alloc wr (.cells #[.int .i64 e.i, .int .i64 e.s, .string e.t, .string e.x, .int .i64 e.q, .bool e.r] 118)))
      clear hb he bx
      go_wp2_with fail
      go_roundw
      case rel => exact ⟨k + 1, by simp, by omega, B2.out⟩
      case measure => simp [intOf]; omega
    · obtain rfl : k = L.length := by omega
      clear hb hk
      go_wp2_with fail
      go_ret
      exact ⟨rfl, ext_trans hb0.out HB.out⟩
set_option maxHeartbeats 8000000 in
set_option maxRecDepth 100000 in
theorem rec_no {A : Nat → Prop} {w : World} {f g : Nat} {T : List Bool} {L : List Se} (h : Fs A w f g T L) {q : Nat} {e : Se} (hq : L[q]? = some e) (hok : (e.s == 2 || e.s == 3) = false) : Calls Tryz.prog 69 #[.pointer (some ⟨f, 0, none⟩), .int .i64 e.i, .func (.func 72) #[] #[]] w fun x w' => x = .returned (.bool false) ∧ Below w.heap.size w w' := by
  obtain ⟨v, r, d, av⟩ := h.ex
  have hL := h.le
  have hb0 := ext_alloc w (.cells #[.int .i64 e.i] 3)
  have N := Lib.hid (none_any (r.keep hb0))
  have c1 := (r.keep hb0).c1
  have hbx : (w.alloc (.cells #[.int .i64 e.i] 3)).cell? ⟨w.heap.size, 0, none⟩ = some (.int .i64 e.i) := by simp
  have hsz : w.heap.size < (w.alloc (.cells #[.int .i64 e.i] 3)).heap.size := by simp
  have R1 := r.keep hb0
  have D1 := Lib.hid (d.ext hb0)
  have vlt := Lib.hid (fun k (hk : v.ownBlock = some k) => (r.its.lt k hk).2)
  have flt := r.lt
  obtain ⟨a, c, hv⟩ := own_slice r.its
  rw [hv] at c1
  have hL' : (L.length : Int) ≤ 8 := by omega
  have hqL : q < L.length := (List.getElem?_eq_some_iff.1 hq).1
  have NE : Hid (∀ i x, i < q → L[i]? = some x → (x.i != e.i) = true) := Lib.hid fun i x hi hx => by
    obtain ⟨h1, rfl⟩ := List.getElem?_eq_some_iff.1 hx
    obtain ⟨h2, rfl⟩ := List.getElem?_eq_some_iff.1 hq
    have := List.pairwise_iff_getElem.1 h.nd i q h1 h2 hi
    simpa using this
  have H := Lib.hid h
  replace av := Lib.hid av
  replace hv := Lib.hid hv
  replace R1 := Lib.hid R1
  replace hb0 := Lib.hid hb0
  clear h r d
  go_enter Tryz.func69, Tryz.ntmps69
  go_wp2_with fail
  refine N.out.mono ?_
  rintro x w1 ⟨rfl, rfl⟩
  generalize w.alloc (.cells #[.int .i64 e.i] 3) = w1 at *
  go_wp2_with fail
  go_loopw [18] (fun iv wr => ∃ k : Nat, iv = .int .i64 (k : Int) ∧ k ≤ q ∧ Below w1.heap.size w1 wr) (fun iv _ => L.length - (intOf iv).toNat)
  case atStart => exact ⟨0, rfl, by omega, Below.refl _ _⟩
  case round =>
    obtain ⟨k, rfl, hk, hb⟩ := hrel
    have HB := Lib.hid hb
    have hlt : k < L.length := by omega
    have hlt' : (k : Int) < (L.length : Int) := by omega
    obtain ⟨y, he⟩ : ∃ e, L[k]? = some e := ⟨_, List.getElem?_eq_getElem hlt⟩
    obtain ⟨gb, cb, hv2⟩ := own_slice' R1.out.its (by omega)
    obtain ⟨q0, q1, q2, q3, q4, q5⟩ := (R1.out.keep hb).at hv2 he
    have hvX := hv2
    rw [hv.out] at hv2
    simp only [Value.slice.injEq] at hv2
    obtain ⟨rfl, -, rfl⟩ := hv2
    have bx := (hb.cell (p := ⟨w.heap.size, 0, none⟩) hsz).trans hbx
    by_cases hkq : k < q
    · have bx2 := ((ext_alloc wr (.cells #[.int .i64 y.i, .int .i64 y.s, .string y.t, .string y.x, .int .i64 y.q, .bool y.r] 118)).cell (p := ⟨w.heap.size, 0, none⟩) (World.block_lt_of_cell? wr _ bx)).trans bx
      have hne := NE.out k y hkq he
      have B2 := Lib.hid (ext_trans hb (ext_alloc wr (.cells #[.int .i64 y.i, .int .i64 y.s, .string y.t, .string y.x, .int .i64 y.q, .bool y.r] 118)))
      clear hb he bx hvX
      go_wp2_with fail
      go_roundw
      case rel => exact ⟨k + 1, by simp, by omega, B2.out⟩
      case measure => simp [intOf]; omega
    · obtain rfl : k = q := by omega
      rw [hq] at he
      obtain rfl : e = y := by simpa using he
      have hba := ext_alloc wr (.cells #[.int .i64 e.i, .int .i64 e.s, .string e.t, .string e.x, .int .i64 e.q, .bool e.r] 118)
      have bx2 := (hba.cell (p := ⟨w.heap.size, 0, none⟩) (World.block_lt_of_cell? wr _ bx)).trans bx
      have rr : (wr.alloc (.cells #[.int .i64 e.i, .int .i64 e.s, .string e.t, .string e.x, .int .i64 e.q, .bool e.r] 118)).heap[wr.heap.size]? = some (.cells #[.int .i64 e.i, .int .i64 e.s, .string e.t, .string e.x, .int .i64 e.q, .bool e.r] 118 (0, 0)) := heap_alloc_new wr _
      have NX := rec_any e (wr.alloc (.cells #[.int .i64 e.i, .int .i64 e.s, .string e.t, .string e.x, .int .i64 e.q, .bool e.r] 118))
      rw [hok] at NX
      replace NX := Lib.hid NX
      have hlt2 : w.heap.size < (wr.alloc (.cells #[.int .i64 e.i, .int .i64 e.s, .string e.t, .string e.x, .int .i64 e.q, .bool e.r] 118)).heap.size := Nat.lt_of_lt_of_le (World.block_lt_of_cell? wr _ bx) hba.size
      replace hba := Lib.hid (ext_trans hb hba)
      replace rr := Lib.hid rr
      clear hb he bx hkq hk
      go_wp2_with fail
      refine NX.out.mono ?_
      rintro x w2 ⟨rfl, b2⟩
      have B2 := Lib.hid (ext_trans hb0.out (ext_trans hba.out b2))
      clear b2
      go_wp2_with fail
      go_ret
      exact ⟨rfl, B2.out⟩
set_option maxHeartbeats 8000000 in
set_option maxRecDepth 100000 in
theorem rec_yes {A : Nat → Prop} {w : World} {f g : Nat} {T : List Bool} {L : List Se} (h : Fs A w f g T L) {q : Nat} {e : Se} (hq : L[q]? = some e) (hok : (e.s == 2 || e.s == 3) = true) : Calls Tryz.prog 69 #[.pointer (some ⟨f, 0, none⟩), .int .i64 e.i, .func (.func 72) #[] #[]] w fun x w' => x = .returned (.bool true) ∧ ∃ L', L' = L.set q { e with s := 3 } ∧ Fs A w' f g T L' ∧ Kp A w w' := by
  obtain ⟨v, r, d, av⟩ := h.ex
  have hL := h.le
  have hb0 := ext_alloc w (.cells #[.int .i64 e.i] 3)
  have N := Lib.hid (none_any (r.keep hb0))
  have c1 := (r.keep hb0).c1
  have hbx : (w.alloc (.cells #[.int .i64 e.i] 3)).cell? ⟨w.heap.size, 0, none⟩ = some (.int .i64 e.i) := by simp
  have hsz : w.heap.size < (w.alloc (.cells #[.int .i64 e.i] 3)).heap.size := by simp
  have R1 := r.keep hb0
  have D1 := Lib.hid (d.ext hb0)
  have vlt := Lib.hid (fun k (hk : v.ownBlock = some k) => (r.its.lt k hk).2)
  have flt := r.lt
  obtain ⟨a, c, hv⟩ := own_slice r.its
  rw [hv] at c1
  have hL' : (L.length : Int) ≤ 8 := by omega
  have hqL : q < L.length := (List.getElem?_eq_some_iff.1 hq).1
  have NE : Hid (∀ i x, i < q → L[i]? = some x → (x.i != e.i) = true) := Lib.hid fun i x hi hx => by
    obtain ⟨h1, rfl⟩ := List.getElem?_eq_some_iff.1 hx
    obtain ⟨h2, rfl⟩ := List.getElem?_eq_some_iff.1 hq
    have := List.pairwise_iff_getElem.1 h.nd i q h1 h2 hi
    simpa using this
  have H := Lib.hid h
  replace av := Lib.hid av
  replace hv := Lib.hid hv
  replace R1 := Lib.hid R1
  replace hb0 := Lib.hid hb0
  clear h r d
  go_enter Tryz.func69, Tryz.ntmps69
  go_wp2_with fail
  refine N.out.mono ?_
  rintro x w1 ⟨rfl, rfl⟩
  generalize w.alloc (.cells #[.int .i64 e.i] 3) = w1 at *
  go_wp2_with fail
  go_loopw [18] (fun iv wr => ∃ k : Nat, iv = .int .i64 (k : Int) ∧ k ≤ q ∧ Below w1.heap.size w1 wr) (fun iv _ => L.length - (intOf iv).toNat)
  case atStart => exact ⟨0, rfl, by omega, Below.refl _ _⟩
  case round =>
    obtain ⟨k, rfl, hk, hb⟩ := hrel
    have HB := Lib.hid hb
    have hlt : k < L.length := by omega
    have hlt' : (k : Int) < (L.length : Int) := by omega
    obtain ⟨y, he⟩ : ∃ e, L[k]? = some e := ⟨_, List.getElem?_eq_getElem hlt⟩
    obtain ⟨gb, cb, hv2⟩ := own_slice' R1.out.its (by omega)
    obtain ⟨q0, q1, q2, q3, q4, q5⟩ := (R1.out.keep hb).at hv2 he
    have hvX := hv2
    rw [hv.out] at hv2
    simp only [Value.slice.injEq] at hv2
    obtain ⟨rfl, -, rfl⟩ := hv2
    have bx := (hb.cell (p := ⟨w.heap.size, 0, none⟩) hsz).trans hbx
    by_cases hkq : k < q
    · have bx2 := ((ext_alloc wr (.cells #[.int .i64 y.i, .int .i64 y.s, .string y.t, .string y.x, .int .i64 y.q, .bool y.r] 118)).cell (p := ⟨w.heap.size, 0, none⟩) (World.block_lt_of_cell? wr _ bx)).trans bx
      have hne := NE.out k y hkq he
      have B2 := Lib.hid (ext_trans hb (ext_alloc wr (.cells #[.int .i64 y.i, .int .i64 y.s, .string y.t, .string y.x, .int .i64 y.q, .bool y.r] 118)))
      clear hb he bx hvX
      go_wp2_with fail
      go_roundw
      case rel => exact ⟨k + 1, by simp, by omega, B2.out⟩
      case measure => simp [intOf]; omega
    · obtain rfl : k = q := by omega
      rw [hq] at he
      obtain rfl : e = y := by simpa using he
      have hba := ext_alloc wr (.cells #[.int .i64 e.i, .int .i64 e.s, .string e.t, .string e.x, .int .i64 e.q, .bool e.r] 118)
      have bx2 := (hba.cell (p := ⟨w.heap.size, 0, none⟩) (World.block_lt_of_cell? wr _ bx)).trans bx
      have rr : (wr.alloc (.cells #[.int .i64 e.i, .int .i64 e.s, .string e.t, .string e.x, .int .i64 e.q, .bool e.r] 118)).heap[wr.heap.size]? = some (.cells #[.int .i64 e.i, .int .i64 e.s, .string e.t, .string e.x, .int .i64 e.q, .bool e.r] 118 (0, 0)) := heap_alloc_new wr _
      have NX := rec_any e (wr.alloc (.cells #[.int .i64 e.i, .int .i64 e.s, .string e.t, .string e.x, .int .i64 e.q, .bool e.r] 118))
      rw [hok] at NX
      replace NX := Lib.hid NX
      have hlt2 : w.heap.size < (wr.alloc (.cells #[.int .i64 e.i, .int .i64 e.s, .string e.t, .string e.x, .int .i64 e.q, .bool e.r] 118)).heap.size := Nat.lt_of_lt_of_le (World.block_lt_of_cell? wr _ bx) hba.size
      replace hba := Lib.hid (ext_trans hb hba)
      replace rr := Lib.hid rr
      clear hb he bx hkq hk
      go_wp2_with fail
      refine NX.out.mono ?_
      rintro x w2 ⟨rfl, b2⟩
      have B2 := Lib.hid (ext_trans hba.out b2)
      have R2 := R1.out.keep B2.out
      have c12 := R2.c1
      rw [hv.out] at c12
      have z1 := R2.fzr hvX (k * 6 + 1)
      have cc := (R2.at hvX hq).2.1
      have S3 := R2.storeS hvX hq 3
      have FR : Far (SF f v) w2 (w2.setCell ⟨gb, k * 6 + 1, none⟩ (.int .i64 3)) := ⟨rfl, rfl, rfl, by simp [World.setCell], fun p _ hp => Below.heap_setCell _ _ _ _ (fun e => hp (by subst e; rw [hvX]; exact .inr rfl))⟩
      have Z : Hid (Fs A (w2.setCell ⟨gb, k * 6 + 1, none⟩ (.int .i64 3)) f g T (L.set k { e with s := 3 }) ∧ Kp A w (w2.setCell ⟨gb, k * 6 + 1, none⟩ (.int .i64 3))) := Lib.hid (by
        have BW := ext_trans hb0.out B2.out
        obtain ⟨a1, a2⟩ := (⟨S3, FR, fun k hk => .inl hk⟩ : WNew w2 (w2.setCell ⟨gb, k * 6 + 1, none⟩ (.int .i64 3)) f g v (L.set k { e with s := 3 }) v).fs (A := A) (D1.out.ext B2.out) (fun k hk => ⟨by have := (av.out k hk).1; have := BW.size; omega, (av.out k hk).2⟩) (fun x hx => by
          rcases List.mem_or_eq_of_mem_set hx with hx | rfl
          · exact H.out.ids x hx
          · exact H.out.ids e (List.mem_of_getElem? hq)) (by
          have hk : (L.set k { e with s := 3 }).map Se.i = L.map Se.i := by
            rw [List.map_set]
            apply List.ext_getElem?
            intro i
            by_cases h : k = i
            · subst h
              rw [List.getElem?_set_self (by simpa using hqL), List.getElem?_map, hq]; rfl
            · rw [List.getElem?_set_ne h]
          have h1 : (L.map Se.i).Pairwise (· ≠ ·) := List.pairwise_map.2 H.out.nd
          rw [← hk] at h1
          exact List.pairwise_map.1 h1) (by rw [List.length_set]; exact H.out.tr)
        exact ⟨a1, (Kp.of_ext BW).trans a2⟩)
      clear b2 R2 S3 FR hvX rr
      go_wp2_with fail
      go_ret
      exact ⟨rfl, _, rfl, Z.out⟩
end Go.Proofs.YtceiipcdkonnlaaGreat.Fli
