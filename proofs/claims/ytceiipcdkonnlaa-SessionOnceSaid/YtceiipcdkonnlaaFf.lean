/-
  LAYER 23: step by Rec.
-/
import Derived.Test.YtceiipcdkonnlaaFe
namespace Go.Proofs.Ytceiipcdkonnlaa.Fli
set_option linter.unusedSimpArgs false
set_option linter.unusedVariables false
open Go.RowKit Que Hp Ids
set_option maxHeartbeats 4000000 in
set_option maxRecDepth 100000 in
theorem rec_none {A : Nat → Prop} {w : World} {f g : Nat} {T : List Bool} {L : List Se} (h : Fs A w f g T L) (id : Int) (hn : ∀ e ∈ L, e.i ≠ id) : Calls Try.prog 61 #[.pointer (some ⟨f, 0, none⟩), .int .i64 id, .func (.func 64) #[] #[]] w fun e w' => e = .returned (.bool false) ∧ Below w.heap.size w w' := by
  obtain ⟨v, r, d, av⟩ := h.ex
  have hL := h.le
  have hb0 := ext_alloc w (.cells #[.int .i64 id] 3)
  have N := Lib.hid (none_any (r.keep hb0))
  have c1 := (r.keep hb0).c1
  have hbx : (w.alloc (.cells #[.int .i64 id] 3)).cell? ⟨w.heap.size, 0, none⟩ = some (.int .i64 id) := by simp
  have hsz : w.heap.size < (w.alloc (.cells #[.int .i64 id] 3)).heap.size := by simp
  have R1 := r.keep hb0
  obtain ⟨a, c, hv⟩ := own_slice r.its
  rw [hv] at c1
  have hL' : (L.length : Int) ≤ 8 := by omega
  replace hv := Lib.hid hv
  replace R1 := Lib.hid R1
  replace hb0 := Lib.hid hb0
  replace hn := Lib.hid hn
  clear h r d av
  go_enter Try.func61, Try.ntmps61
  go_wp2_with fail
  refine N.out.mono ?_
  rintro e w1 ⟨rfl, rfl⟩
  generalize w.alloc (.cells #[.int .i64 id] 3) = w1 at *
  go_wp2_with fail
  go_loopw [18] (fun iv wr => ∃ k : Nat, iv = .int .i64 (k : Int) ∧ k ≤ L.length ∧ Below w1.heap.size w1 wr) (fun iv _ => L.length - (intOf iv).toNat)
  case atStart => exact ⟨0, rfl, by omega, Below.refl _ _⟩
  case round =>
    obtain ⟨k, rfl, hk, hb⟩ := hrel
    have HB := Lib.hid hb
    by_cases hlt : k < L.length
    · have hlt' : (k : Int) < (L.length : Int) := by omega
      obtain ⟨e, he⟩ : ∃ e, L[k]? = some e := ⟨_, List.getElem?_eq_getElem hlt⟩
      obtain ⟨gb, cb, hv2⟩ := own_slice' R1.out.its (by omega)
      obtain ⟨q0, q1, q2, q3, q4, q5⟩ := (R1.out.keep hb).at hv2 he
      rw [hv.out] at hv2
      simp only [Value.slice.injEq] at hv2
      obtain ⟨rfl, -, rfl⟩ := hv2
      have bx := (hb.cell (p := ⟨w.heap.size, 0, none⟩) hsz).trans hbx
      have bx2 := ((ext_alloc wr (.cells #[.int .i64 e.i, .int .i64 e.s, .string e.t, .string e.x, .int .i64 e.q, .bool e.r] 101)).cell (p := ⟨w.heap.size, 0, none⟩) (World.block_lt_of_cell? wr _ bx)).trans bx
      have hne : (e.i != id) = true := by have := hn.out e (List.mem_of_getElem? he); simpa using this
      have B2 := Lib.hid (ext_trans hb (ext_alloc wr (.cells #[.int .i64 e.i, .int .i64 e.s, .string e.t, .string e.x, .int .i64 e.q, .bool e.r] 101)))
      clear hb he bx
      go_wp2_with fail
      go_roundw
      case rel => exact ⟨k + 1, by simp, by omega, B2.out⟩
      case measure => simp [intOf]; omega
    · obtain rfl : k = L.length := by omega
      clear hb hk
      go_wp2_with fail
      go_ret
      exact ⟨rfl, ext_trans hb0.out HB.out⟩
set_option maxHeartbeats 8000000 in
set_option maxRecDepth 100000 in
theorem rec_no {A : Nat → Prop} {w : World} {f g : Nat} {T : List Bool} {L : List Se} (h : Fs A w f g T L) {q : Nat} {e : Se} (hq : L[q]? = some e) (hok : (e.s == 2 || e.s == 3) = false) : Calls Try.prog 61 #[.pointer (some ⟨f, 0, none⟩), .int .i64 e.i, .func (.func 64) #[] #[]] w fun x w' => x = .returned (.bool false) ∧ Below w.heap.size w w' := by
  obtain ⟨v, r, d, av⟩ := h.ex
  have hL := h.le
  have hb0 := ext_alloc w (.cells #[.int .i64 e.i] 3)
  have N := Lib.hid (none_any (r.keep hb0))
  have c1 := (r.keep hb0).c1
  have hbx : (w.alloc (.cells #[.int .i64 e.i] 3)).cell? ⟨w.heap.size, 0, none⟩ = some (.int .i64 e.i) := by simp
  have hsz : w.heap.size < (w.alloc (.cells #[.int .i64 e.i] 3)).heap.size := by simp
  have R1 := r.keep hb0
  have D1 := Lib.hid (d.ext hb0)
  have vlt := Lib.hid (fun k (hk : v.ownBlock = some k) => (r.its.lt k hk).2)
  have flt := r.lt
  obtain ⟨a, c, hv⟩ := own_slice r.its
  rw [hv] at c1
  have hL' : (L.length : Int) ≤ 8 := by omega
  have hqL : q < L.length := (List.getElem?_eq_some_iff.1 hq).1
  have NE : Hid (∀ i x, i < q → L[i]? = some x → (x.i != e.i) = true) := Lib.hid fun i x hi hx => by
    obtain ⟨h1, rfl⟩ := List.getElem?_eq_some_iff.1 hx
    obtain ⟨h2, rfl⟩ := List.getElem?_eq_some_iff.1 hq
    have := List.pairwise_iff_getElem.1 h.nd i q h1 h2 hi
    simpa using this
  have H := Lib.hid h
  replace av := Lib.hid av
  replace hv := Lib.hid hv
  replace R1 := Lib.hid R1
  replace hb0 := Lib.hid hb0
  clear h r d
  go_enter Try.func61, Try.ntmps61
  go_wp2_with fail
  refine N.out.mono ?_
  rintro x w1 ⟨rfl, rfl⟩
  generalize w.alloc (.cells #[.int .i64 e.i] 3) = w1 at *
  go_wp2_with fail
  go_loopw [18] (fun iv wr => ∃ k : Nat, iv = .int .i64 (k : Int) ∧ k ≤ q ∧ Below w1.heap.size w1 wr) (fun iv _ => L.length - (intOf iv).toNat)
  case atStart => exact ⟨0, rfl, by omega, Below.refl _ _⟩
  case round =>
    obtain ⟨k, rfl, hk, hb⟩ := hrel
    have HB := Lib.hid hb
    have hlt : k < L.length := by omega
    have hlt' : (k : Int) < (L.length : Int) := by omega
    obtain ⟨y, he⟩ : ∃ e, L[k]? = some e := ⟨_, List.getElem?_eq_getElem hlt⟩
    obtain ⟨gb, cb, hv2⟩ := own_slice' R1.out.its (by omega)
    obtain ⟨q0, q1, q2, q3, q4, q5⟩ := (R1.out.keep hb).at hv2 he
    have hvX := hv2
    rw [hv.out] at hv2
    simp only [Value.slice.injEq] at hv2
    obtain ⟨rfl, -, rfl⟩ := hv2
    have bx := (hb.cell (p := ⟨w.heap.size, 0, none⟩) hsz).trans hbx
    by_cases hkq : k < q
    · have bx2 := ((ext_alloc wr (.cells #[.int .i64 y.i, .int .i64 y.s, .string y.t, .string y.x, .int .i64 y.q, .bool y.r] 101)).cell (p := ⟨w.heap.size, 0, none⟩) (World.block_lt_of_cell? wr _ bx)).trans bx
      have hne := NE.out k y hkq he
      have B2 := Lib.hid (ext_trans hb (ext_alloc wr (.cells #[.int .i64 y.i, .int .i64 y.s, .string y.t, .string y.x, .int .i64 y.q, .bool y.r] 101)))
      clear hb he bx hvX
      go_wp2_with fail
      go_roundw
      case rel => exact ⟨k + 1, by simp, by omega, B2.out⟩
      case measure => simp [intOf]; omega
    · obtain rfl : k = q := by omega
      rw [hq] at he
      obtain rfl : e = y := by simpa using he
      have hba := ext_alloc wr (.cells #[.int .i64 e.i, .int .i64 e.s, .string e.t, .string e.x, .int .i64 e.q, .bool e.r] 101)
      have bx2 := (hba.cell (p := ⟨w.heap.size, 0, none⟩) (World.block_lt_of_cell? wr _ bx)).trans bx
      have rr : (wr.alloc (.cells #[.int .i64 e.i, .int .i64 e.s, .string e.t, .string e.x, .int .i64 e.q, .bool e.r] 101)).heap[wr.heap.size]? = some (.cells #[.int .i64 e.i, .int .i64 e.s, .string e.t, .string e.x, .int .i64 e.q, .bool e.r] 101 (0, 0)) := heap_alloc_new wr _
      have NX := rec_any e (wr.alloc (.cells #[.int .i64 e.i, .int .i64 e.s, .string e.t, .string e.x, .int .i64 e.q, .bool e.r] 101))
      rw [hok] at NX
      replace NX := Lib.hid NX
      have hlt2 : w.heap.size < (wr.alloc (.cells #[.int .i64 e.i, .int .i64 e.s, .string e.t, .string e.x, .int .i64 e.q, .bool e.r] 101)).heap.size := Nat.lt_of_lt_of_le (World.block_lt_of_cell? wr _ bx) hba.size
      replace hba := Lib.hid (ext_trans hb hba)
      replace rr := Lib.hid rr
      clear hb he bx hkq hk
      go_wp2_with fail
      refine NX.out.mono ?_
      rintro x w2 ⟨rfl, b2⟩
      have B2 := Lib.hid (ext_trans hb0.out (ext_trans hba.out b2))
      clear b2
      go_wp2_with fail
      go_ret
      exact ⟨rfl, B2.out⟩
set_option maxHeartbeats 8000000 in
set_option maxRecDepth 100000 in
theorem rec_yes {A : Nat → Prop} {w : World} {f g : Nat} {T : List Bool} {L : List Se} (h : Fs A w f g T L) {q : Nat} {e : Se} (hq : L[q]? = some e) (hok : (e.s == 2 || e.s == 3) = true) : Calls Try.prog 61 #[.pointer (some ⟨f, 0, none⟩), .int .i64 e.i, .func (.func 64) #[] #[]] w fun x w' => x = .returned (.bool true) ∧ ∃ L', L' = L.set q { e with s := 3 } ∧ Fs A w' f g T L' ∧ Kp A w w' := by
  obtain ⟨v, r, d, av⟩ := h.ex
  have hL := h.le
  have hb0 := ext_alloc w (.cells #[.int .i64 e.i] 3)
  have N := Lib.hid (none_any (r.keep hb0))
  have c1 := (r.keep hb0).c1
  have hbx : (w.alloc (.cells #[.int .i64 e.i] 3)).cell? ⟨w.heap.size, 0, none⟩ = some (.int .i64 e.i) := by simp
  have hsz : w.heap.size < (w.alloc (.cells #[.int .i64 e.i] 3)).heap.size := by simp
  have R1 := r.keep hb0
  have D1 := Lib.hid (d.ext hb0)
  have vlt := Lib.hid (fun k (hk : v.ownBlock = some k) => (r.its.lt k hk).2)
  have flt := r.lt
  obtain ⟨a, c, hv⟩ := own_slice r.its
  rw [hv] at c1
  have hL' : (L.length : Int) ≤ 8 := by omega
  have hqL : q < L.length := (List.getElem?_eq_some_iff.1 hq).1
  have NE : Hid (∀ i x, i < q → L[i]? = some x → (x.i != e.i) = true) := Lib.hid fun i x hi hx => by
    obtain ⟨h1, rfl⟩ := List.getElem?_eq_some_iff.1 hx
    obtain ⟨h2, rfl⟩ := List.getElem?_eq_some_iff.1 hq
    have := List.pairwise_iff_getElem.1 h.nd i q h1 h2 hi
    simpa using this
  have H := Lib.hid h
  replace av := Lib.hid av
  replace hv := Lib.hid hv
  replace R1 := Lib.hid R1
  replace hb0 := Lib.hid hb0
  clear h r d
  go_enter Try.func61, Try.ntmps61
  go_wp2_with fail
  refine N.out.mono ?_
  rintro x w1 ⟨rfl, rfl⟩
  generalize w.alloc (.cells #[.int .i64 e.i] 3) = w1 at *
  go_wp2_with fail
  go_loopw [18] (fun iv wr => ∃ k : Nat, iv = .int .i64 (k : Int) ∧ k ≤ q ∧ Below w1.heap.size w1 wr) (fun iv _ => L.length - (intOf iv).toNat)
  case atStart => exact ⟨0, rfl, by omega, Below.refl _ _⟩
  case round =>
    obtain ⟨k, rfl, hk, hb⟩ := hrel
    have HB := Lib.hid hb
    have hlt : k < L.length := by omega
    have hlt' : (k : Int) < (L.length : Int) := by omega
    obtain ⟨y, he⟩ : ∃ e, L[k]? = some e := ⟨_, List.getElem?_eq_getElem hlt⟩
    obtain ⟨gb, cb, hv2⟩ := own_slice' R1.out.its (by omega)
    obtain ⟨q0, q1, q2, q3, q4, q5⟩ := (R1.out.keep hb).at hv2 he
    have hvX := hv2
    rw [hv.out] at hv2
    simp only [Value.slice.injEq] at hv2
    obtain ⟨rfl, -, rfl⟩ := hv2
    have bx := (hb.cell (p := ⟨w.heap.size, 0, none⟩) hsz).trans hbx
    by_cases hkq : k < q
    · have bx2 := ((ext_alloc wr (.cells #[.int .i64 y.i, .int .i64 y.s, .string y.t, .string y.x, .int .i64 y.q, .bool y.r] 101)).cell (p := ⟨w.heap.size, 0, none⟩) (World.block_lt_of_cell? wr _ bx)).trans bx
      have hne := NE.out k y hkq he
      have B2 := Lib.hid (ext_trans hb (ext_alloc wr (.cells #[.int .i64 y.i, .int .i64 y.s, .string y.t, .string y.x, .int .i64 y.q, .bool y.r] 101)))
      clear hb he bx hvX
      go_wp2_with fail
      go_roundw
      case rel => exact ⟨k + 1, by simp, by omega, B2.out⟩
      case measure => simp [intOf]; omega
    · obtain rfl : k = q := by omega
      rw [hq] at he
      obtain rfl : e = y := by simpa using he
      have hba := ext_alloc wr (.cells #[.int .i64 e.i, .int .i64 e.s, .string e.t, .string e.x, .int .i64 e.q, .bool e.r] 101)
      have bx2 := (hba.cell (p := ⟨w.heap.size, 0, none⟩) (World.block_lt_of_cell? wr _ bx)).trans bx
      have rr : (wr.alloc (.cells #[.int .i64 e.i, .int .i64 e.s, .string e.t, .string e.x, .int .i64 e.q, .bool e.r] 101)).heap[wr.heap.size]? = some (.cells #[.int .i64 e.i, .int .i64 e.s, .string e.t, .string e.x, .int .i64 e.q, .bool e.r] 101 (0, 0)) := heap_alloc_new wr _
      have NX := rec_any e (wr.alloc (.cells #[.int .i64 e.i, .int .i64 e.s, .string e.t, .string e.x, .int .i64 e.q, .bool e.r] 101))
      rw [hok] at NX
      replace NX := Lib.hid NX
      have hlt2 : w.heap.size < (wr.alloc (.cells #[.int .i64 e.i, .int .i64 e.s, .string e.t, .string e.x, .int .i64 e.q, .bool e.r] 101)).heap.size := Nat.lt_of_lt_of_le (World.block_lt_of_cell? wr _ bx) hba.size
      replace hba := Lib.hid (ext_trans hb hba)
      replace rr := Lib.hid rr
      clear hb he bx hkq hk
      go_wp2_with fail
      refine NX.out.mono ?_
      rintro x w2 ⟨rfl, b2⟩
      have B2 := Lib.hid (ext_trans hba.out b2)
      have R2 := R1.out.keep B2.out
      have c12 := R2.c1
      rw [hv.out] at c12
      have z1 := R2.fzr hvX (k * 6 + 1)
      have cc := (R2.at hvX hq).2.1
      have S3 := R2.storeS hvX hq 3
      have FR : Far (SF f v) w2 (w2.setCell ⟨gb, k * 6 + 1, none⟩ (.int .i64 3)) := ⟨rfl, rfl, rfl, by simp [World.setCell], fun p _ hp => Below.heap_setCell _ _ _ _ (fun e => hp (by subst e; rw [hvX]; exact .inr rfl))⟩
      have Z : Hid (Fs A (w2.setCell ⟨gb, k * 6 + 1, none⟩ (.int .i64 3)) f g T (L.set k { e with s := 3 }) ∧ Kp A w (w2.setCell ⟨gb, k * 6 + 1, none⟩ (.int .i64 3))) := Lib.hid (by
        have BW := ext_trans hb0.out B2.out
        obtain ⟨a1, a2⟩ := (⟨S3, FR, fun k hk => .inl hk⟩ : WNew w2 (w2.setCell ⟨gb, k * 6 + 1, none⟩ (.int .i64 3)) f g v (L.set k { e with s := 3 }) v).fs (A := A) (D1.out.ext B2.out) (fun k hk => ⟨by have := (av.out k hk).1; have := BW.size; omega, (av.out k hk).2⟩) (fun x hx => by
          rcases List.mem_or_eq_of_mem_set hx with hx | rfl
          · exact H.out.ids x hx
          · exact H.out.ids e (List.mem_of_getElem? hq)) (by
          have hk : (L.set k { e with s := 3 }).map Se.i = L.map Se.i := by
            rw [List.map_set]
            apply List.ext_getElem?
            intro i
            by_cases h : k = i
            · subst h
              rw [List.getElem?_set_self (by simpa using hqL), List.getElem?_map, hq]; rfl
            · rw [List.getElem?_set_ne h]
          have h1 : (L.map Se.i).Pairwise (· ≠ ·) := List.pairwise_map.2 H.out.nd
          rw [← hk] at h1
          exact List.pairwise_map.1 h1) (by rw [List.length_set]; exact H.out.tr)
        exact ⟨a1, (Kp.of_ext BW).trans a2⟩)
      clear b2 R2 S3 FR hvX rr
      go_wp2_with fail
      go_ret
      exact ⟨rfl, _, rfl, Z.out⟩
end Go.Proofs.Ytceiipcdkonnlaa.Fli
