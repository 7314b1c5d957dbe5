/-
  LAYER 21: the document's numbers: New, Take, Give, All; two lists of numbers as one.
-/
import Derived.Test.YtoijdmchkjmpgaaIo
import Derived.Deep.OwnRows
namespace Go.Proofs.Ytoijdmchkjmpgaa.Ids
open Go.RowKit Que Hp
theorem getD_set {T : List Bool} {k : Nat} (hk : k < T.length) (b : Bool) (j : Nat) : (T.set k b).getD j false = if j = k then b else T.getD j false := by
  by_cases h : j = k
  · subst h
    rw [if_pos rfl, List.getD_eq_getElem?_getD, List.getElem?_set_self hk]; rfl
  · rw [if_neg h, List.getD_eq_getElem?_getD, List.getElem?_set_ne (fun e => h e.symm), ← List.getD_eq_getElem?_getD]
theorem getD_tk (T : List Bool) (j : Nat) : (tk T).getD j false = if j = nxt T then true else T.getD j false := by
  unfold tk
  by_cases h : nxt T < T.length
  · rw [if_pos h]; exact getD_set h true j
  · have hl : nxt T ≤ T.length := List.findIdx_le_length
    have e : nxt T = T.length := by omega
    rw [if_neg h, e]
    by_cases hj : j = T.length
    · subst hj; simp
    · rw [if_neg hj]
      by_cases h2 : j < T.length
      · rw [List.getD_eq_getElem?_getD, List.getElem?_append_left h2, ← List.getD_eq_getElem?_getD]
      · rw [List.getD_eq_getElem?_getD, List.getD_eq_getElem?_getD, List.getElem?_eq_none (by simp; omega), List.getElem?_eq_none (by omega)]
theorem lstF_ge {T : List Bool} : ∀ n, lstF T (T.length + n) = lstF T T.length
  | 0 => rfl
  | n + 1 => by
    rw [← Nat.add_assoc, lstF_no (by rw [List.getD_eq_getElem?_getD, List.getElem?_eq_none (by omega)]; rfl)]
    exact lstF_ge n
/-- The document's numbers: the object in block x, its flags in block t. -/
structure Rf (W : World) (x t most : Nat) (X : Nat → Bool) : Prop where
  row : W.heap[x]? = some (.cells #[.slice (some ⟨t, 0, none⟩) (most + 1) (most + 1)] 99 (0, 0))
  bits : ∃ cs, W.heap[t]? = some (.cells cs 4 (0, 0)) ∧ cs.size = most + 1 ∧ ∀ j, j < most → cs[j + 1]? = some (.bool (X j))
section
variable {W W' w : World} {g x t most : Nat} {X X' : Nat → Bool} {T T' : List Bool}
theorem Rf.lt (h : Rf W x t most X) : x < W.heap.size := (Array.getElem?_eq_some_iff.1 h.row).1
theorem Rf.tlt (h : Rf W x t most X) : t < W.heap.size := by obtain ⟨cs, h, -, -⟩ := h.bits; exact (Array.getElem?_eq_some_iff.1 h).1
theorem Rf.ne (h : Rf W x t most X) : x ≠ t := by
  rintro rfl
  obtain ⟨cs, hc, -, -⟩ := h.bits
  rw [h.row] at hc
  simp at hc
theorem Rf.c0 (h : Rf W x t most X) : W.cell? ⟨x, 0, none⟩ = some (.slice (some ⟨t, 0, none⟩) (most + 1) (most + 1)) := cell_of_row W x 0 _ 99 (0, 0) h.row
theorem Rf.bit (h : Rf W x t most X) {j : Nat} (hj : j < most) : W.cell? ⟨t, j + 1, none⟩ = some (.bool (X j)) := by
  obtain ⟨cs, hc, -, hb⟩ := h.bits
  rw [cell_of_row W t (j + 1) _ 4 (0, 0) hc, hb j hj]
theorem Rf.fz (h : Rf W x t most X) (j : Nat) : W.frozen? ⟨t, j, none⟩ = false := by
  obtain ⟨cs, hc, -, hb⟩ := h.bits
  exact frozen_of_row W t j _ 4 hc
theorem Rf.far {S : Nat → Prop} (h : Rf W x t most X) (F : Far S W W') (h1 : ¬ S x) (h2 : ¬ S t) : Rf W' x t most X := by
  obtain ⟨cs, hc, hs, hb⟩ := h.bits
  exact ⟨(F.block x h.lt h1).trans h.row, cs, (F.block t h.tlt h2).trans hc, hs, hb⟩
theorem Rf.set (h : Rf W x t most X) {k : Nat} (hk : k < most) (b : Bool) (hX : ∀ j, j < most → X' j = if j = k then b else X j) : Rf (W.setCell ⟨t, k + 1, none⟩ (.bool b)) x t most X' := by
  obtain ⟨cs, hc, hs, hb⟩ := h.bits
  refine ⟨?_, cs.setIfInBounds (k + 1) (.bool b), heap_setCell_same W t (k + 1) _ 4 (.bool b) hc, by simp [hs], fun j hj => ?_⟩
  · rw [Below.heap_setCell _ _ _ _ (by simpa using h.ne)]; exact h.row
  · rw [hX j hj, Array.getElem?_setIfInBounds]
    by_cases e : j = k
    · subst e
      rw [if_pos rfl, if_pos (by omega), if_pos rfl]
    · rw [if_neg (by omega), if_neg e, hb j hj]
theorem Ds.far {A S : Nat → Prop} (h : Ds A w g most T) (F : Far S w W') (hS : ∀ k, S k → A k) : Ds A W' g most T := by
  obtain ⟨tv, bv, H, i, G, av⟩ := h.ex
  refine ⟨⟨tv, bv, H, ⟨?_, own_fars i.tk F ?_, own_fars i.bk F ?_⟩, G, fun k hk => ⟨Nat.lt_of_lt_of_le (av k hk).1 F.size, (av k hk).2⟩⟩, h.le, h.m1, h.m4⟩
  · exact (F.block g i.lt (fun e => (av g (hS g e)).2 (.inl rfl))).trans i.row
  · exact fun k hk e => (av k (hS k e)).2 (.inr (.inl hk))
  · exact fun k hk e => (av k (hS k e)).2 (.inr (.inr hk))
/-- Two more blocks are to be kept. -/
theorem Ds.two {A : Nat → Prop} (h : Ds A w g most T) (hb : Below w.heap.size w W') (h1 : w.heap.size ≤ x ∧ x < W'.heap.size) (h2 : w.heap.size ≤ t ∧ t < W'.heap.size) : Ds (fun k => A k ∨ k = x ∨ k = t) W' g most T := by
  obtain ⟨tv, bv, H, i, G, av⟩ := h.ex
  refine ⟨⟨tv, bv, H, i.keep hb, G, ?_⟩, h.le, h.m1, h.m4⟩
  have i1 := i.lt
  rintro k (hk | rfl | rfl)
  · exact ⟨Nat.lt_of_lt_of_le (av k hk).1 hb.size, (av k hk).2⟩
  · refine ⟨h1.2, ?_⟩
    rintro (e | e | e)
    · omega
    · have := (i.tk.lt k e).2; omega
    · have := (i.bk.lt k e).2; omega
  · refine ⟨h2.2, ?_⟩
    rintro (e | e | e)
    · omega
    · have := (i.tk.lt k e).2; omega
    · have := (i.bk.lt k e).2; omega
def AX (w : World) (x t k : Nat) : Prop := k < w.heap.size ∨ k = x ∨ k = t
/-- The program's numbers T, the document's X. -/
structure IS (w W : World) (g x t most : Nat) (T : List Bool) (X : Nat → Bool) : Prop where
  ds : Ds (AX w x t) W g most T
  rf : Rf W x t most X
  bw : Below w.heap.size w W
  ht : w.heap.size ≤ t
theorem IS.ext (h : IS w W g x t most T X) (hb : Below W.heap.size W W') : IS w W' g x t most T X :=
  ⟨h.ds.ext hb, h.rf.far (S := fun _ => False) (Far.of_ext hb) id id, ext_trans h.bw hb, h.ht⟩
theorem IS.onD (h : IS w W g x t most T X) (d : Ds (AX w x t) W' g most T') (k : Kp (AX w x t) W W') : IS w W' g x t most T' X :=
  ⟨d, h.rf.far k (fun e => e (.inr (.inl rfl))) (fun e => e (.inr (.inr rfl))), h.bw.trans (k.below h.bw.size (fun _ h => .inl h)), h.ht⟩
theorem IS.onX (h : IS w W g x t most T X) {k : Nat} (hk : k < most) (b : Bool) (hX : ∀ j, j < most → X' j = if j = k then b else X j) : IS w (W.setCell ⟨t, k + 1, none⟩ (.bool b)) g x t most T X' := by
  have F : Far (fun k => k = t) W (W.setCell ⟨t, k + 1, none⟩ (.bool b)) := ⟨rfl, rfl, rfl, by simp [World.setCell], fun q _ hq => Below.heap_setCell _ _ _ _ (fun e => hq e)⟩
  exact ⟨h.ds.far F (fun k e => .inr (.inr e)), h.rf.set hk b hX, h.bw.trans (F.below h.bw.size (fun k e => by have := h.ht; omega)), h.ht⟩
set_option maxRecDepth 100000 in
theorem xtake_full (h : Rf W x t most X) (hm : most ≤ 400) (hf : ∀ j, j < most → X j = true) : Calls Try.prog 17 #[.pointer (some ⟨x, 0, none⟩)] W fun e w' => e = .returned (.tuple #[.int .i64 0, .int .i64 6]) ∧ W = w' := by
  have c0 := h.c0
  have BB := Lib.hid (fun (j : Nat) (hj : j < most) => (h.bit hj).trans (by rw [hf j hj]))
  have hm' : (most : Int) ≤ 400 := by omega
  clear h hf
  go_enter Try.func17, Try.ntmps17
  go_wp2_with fail
  go_loopw [4] (fun iv wr => ∃ k : Nat, iv = .int .i64 ((k : Int) + 1) ∧ k ≤ most ∧ W = wr) (fun iv _ => most + 1 - (intOf iv).toNat)
  case atStart => exact ⟨0, rfl, by omega, rfl⟩
  case round =>
    obtain ⟨k, rfl, hk, rfl⟩ := hrel
    by_cases hlt : k < most
    · have b0 := BB.out k hlt
      have hlt' : (k : Int) < (most : Int) := by omega
      go_wp2_with fail
      go_roundw
      case rel => exact ⟨k + 1, by simp, by omega, trivial⟩
      case measure => simp [intOf]; omega
    · obtain rfl : k = most := by omega
      clear BB
      go_wp2_with fail
      go_ret2
      exact ⟨rfl, rfl⟩
set_option maxRecDepth 100000 in
theorem xtake_ok (h : Rf W x t most X) (hm : most ≤ 400) {q : Nat} (hq : q < most) (hf : ∀ j, j < q → X j = true) (hq0 : X q = false) : Calls Try.prog 17 #[.pointer (some ⟨x, 0, none⟩)] W fun e w' => e = .returned (.tuple #[.int .i64 ((q : Int) + 1), .int .i64 0]) ∧ W.setCell ⟨t, q + 1, none⟩ (.bool true) = w' := by
  have c0 := h.c0
  have BB := Lib.hid (fun (j : Nat) (hj : j < q) => (h.bit (show j < most by omega)).trans (by rw [hf j hj]))
  have bq := (h.bit hq).trans (by rw [hq0])
  have fq := h.fz (q + 1)
  have hm' : (most : Int) ≤ 400 := by omega
  clear h hf hq0
  go_enter Try.func17, Try.ntmps17
  go_wp2_with fail
  go_loopw [4] (fun iv wr => ∃ k : Nat, iv = .int .i64 ((k : Int) + 1) ∧ k ≤ q ∧ W = wr) (fun iv _ => most + 1 - (intOf iv).toNat)
  case atStart => exact ⟨0, rfl, by omega, rfl⟩
  case round =>
    obtain ⟨k, rfl, hk, rfl⟩ := hrel
    by_cases hlt : k < q
    · have b0 := BB.out k hlt
      have hlt' : (k : Int) < (most : Int) := by omega
      clear bq fq
      go_wp2_with fail
      go_roundw
      case rel => exact ⟨k + 1, by simp, by omega, trivial⟩
      case measure => simp [intOf]; omega
    · obtain rfl : k = q := by omega
      have hlt' : (k : Int) < (most : Int) := by omega
      clear BB
      go_wp2_with fail
      go_ret2
      exact ⟨rfl, rfl⟩
theorem xgive_bad (h : Rf W x t most X) (hm : most ≤ 400) (n : Int) (hn : n < 1 ∨ (most : Int) < n) : Calls Try.prog 19 #[.pointer (some ⟨x, 0, none⟩), .int .i64 n] W fun e w' => e = .returned (.int .i64 1) ∧ W = w' := by
  have c0 := h.c0
  have hm' : (most : Int) ≤ 400 := by omega
  clear h
  by_cases h1 : n < 1
  · clear hn
    go_enter Try.func19, Try.ntmps19
    go_wp2_with fail
    go_ret
    exact ⟨rfl, rfl⟩
  · have h2 : (most : Int) + 1 ≤ n := by omega
    clear hn
    go_enter Try.func19, Try.ntmps19
    go_wp2_with fail
    go_ret
    exact ⟨rfl, rfl⟩
theorem xgive_no (h : Rf W x t most X) (hm : most ≤ 400) {k : Nat} (hk : k < most) (hf : X k = false) : Calls Try.prog 19 #[.pointer (some ⟨x, 0, none⟩), .int .i64 ((k : Int) + 1)] W fun e w' => e = .returned (.int .i64 7) ∧ W = w' := by
  have c0 := h.c0
  have b0 := (h.bit hk).trans (by rw [hf])
  have hm' : (most : Int) ≤ 400 := by omega
  have hk' : (k : Int) < (most : Int) := by omega
  clear h hf
  go_enter Try.func19, Try.ntmps19
  go_wp2_with fail
  go_ret
  exact ⟨rfl, rfl⟩
theorem xgive_ok (h : Rf W x t most X) (hm : most ≤ 400) {k : Nat} (hk : k < most) (hf : X k = true) : Calls Try.prog 19 #[.pointer (some ⟨x, 0, none⟩), .int .i64 ((k : Int) + 1)] W fun e w' => e = .returned (.int .i64 0) ∧ W.setCell ⟨t, k + 1, none⟩ (.bool false) = w' := by
  have c0 := h.c0
  have b0 := (h.bit hk).trans (by rw [hf])
  have f0 := h.fz (k + 1)
  have hm' : (most : Int) ≤ 400 := by omega
  have hk' : (k : Int) < (most : Int) := by omega
  clear h hf
  go_enter Try.func19, Try.ntmps19
  go_wp2_with fail
  go_ret
  exact ⟨rfl, rfl⟩
set_option maxHeartbeats 4000000 in
set_option maxRecDepth 100000 in
theorem xall (h : Rf w x t most (fun j => T.getD j false)) (hm : most ≤ 400) (hle : T.length ≤ most) : Calls Try.prog 20 #[.pointer (some ⟨x, 0, none⟩)] w (AllIds T w) := by
  obtain ⟨i3, hi3, hz0, hz1, hz2⟩ := info_parts info3
  have c0 := h.c0
  have BB := Lib.hid (fun (j : Nat) (hj : j < most) => h.bit hj)
  have EQ := Lib.hid (lstF_ge (T := T) (most - T.length))
  have hlt := h.lt
  have htlt := h.tlt
  have hm' : (most : Int) ≤ 400 := by omega
  clear h
  go_enter Try.func20, Try.ntmps20
  go_wp2_with fail
  go_loopw [3, 4] (fun v iv wr => ∃ k : Nat, iv = .int .i64 ((k : Int) + 1) ∧ k ≤ most ∧ wr.ownsRow w.heap.size 3 1 v (lstF T k).length (il (lstF T k)) ∧ Below w.heap.size w wr) (fun _ iv _ => most + 1 - (intOf iv).toNat)
  case atStart => exact ⟨0, rfl, by omega, World.ownsRow_nil _ _ _ _, Below.refl _ _⟩
  case round =>
    obtain ⟨k, rfl, hk, o, hb⟩ := hrel
    have hll := lstF_len T k
    obtain ⟨va, vc, rfl⟩ := own_slice o
    have q0 := (hb.cell (p := ⟨x, 0, none⟩) hlt).trans c0
    by_cases hend : k = most
    · subst hend
      have e : lstF T k = lstF T T.length := by have := EQ.out; rwa [Nat.add_sub_cancel' hle] at this
      rw [e] at o ⊢
      replace o := Lib.hid o
      replace hb := Lib.hid hb
      clear e BB EQ
      go_wp2_with fail
      go_ret
      exact ⟨_, rfl, o.out, hb.out⟩
    · have klt : k < most := by omega
      have klt' : (k : Int) < (most : Int) := by omega
      have kf := (hb.cell (p := ⟨t, k + 1, none⟩) htlt).trans (BB.out k klt)
      have sz := hb.size
      replace hb := Lib.hid hb
      clear hend BB
      cases hf : T.getD k false
      · rw [hf] at kf
        have E := Lib.hid (lstF_no hf)
        replace hf := Lib.hid hf
        replace o := Lib.hid o
        go_wp2_with fail
        go_roundw
        case rel => exact ⟨k + 1, by simp, by omega, by rw [E.out]; exact o.out, hb.out⟩
        case measure => simp [intOf]; omega
      · rw [hf] at kf
        have E := Lib.hid (lstF_yes hf)
        replace hf := Lib.hid hf
        have oA := Lib.hid (own_keep o (ext_alloc wr (.cells #[.int .i64 ((k : Int) + 1)] 3)))
        have hnew : Hid (∀ j u, ([Value.int .i64 ((k : Int) + 1)] : List Value)[j]? = some u → (wr.alloc (.cells #[.int .i64 ((k : Int) + 1)] 3)).cell? ((⟨wr.heap.size, 0, none⟩ : Addr).add j) = some u) := Lib.hid (by
          intro j u hj
          have := cell_of_row (wr.alloc (.cells #[.int .i64 ((k : Int) + 1)] 3)) wr.heap.size j _ 3 (0, 0) (heap_alloc_new wr _)
          rw [add_off', Nat.zero_add, this, ← hj]
          simp)
        clear o
        obtain ⟨L, hL⟩ : ∃ L, L = lstF T k := ⟨_, rfl⟩
        rw [← hL] at hll oA E ⊢
        go_wp2_with (first
          | (at_builtin; go_must (refine wpList_append_own _ rfl (.tmp 21) (.tmp 23) 22 rfl w.heap.size 3 i3 (.int .i64 0) 1 8 Try.underlying22 hi3 hz0 hz1 hz2 rfl (by decide) (.slice va L.length vc) L.length (il L) rfl oA.out ⟨wr.heap.size, 0, none⟩ 1 1 [.int .i64 ((k : Int) + 1)] rfl rfl hnew.out (by intro u hu; simp at hu; subst hu; rfl) (by unfold maxLen; omega) (by omega) (by simp; omega) ?_); intro v3 w3 o3 g3 _))
        go_roundw
        case rel => exact ⟨k + 1, by simp, by omega, by rw [E.out]; simpa [il] using o3, (hb.out.alloc sz _).grown g3 (by simp; omega) (fun j hj => (oA.out.lt j hj).1)⟩
        case measure => simp [intOf]; omega
set_option maxRecDepth 100000 in
theorem ints_any {B1 B2 : Nat} {v1 v2 : Value} {L : List Int} (o1 : w.ownsRow B1 3 1 v1 L.length (il L)) (o2 : w.ownsRow B2 3 1 v2 L.length (il L)) (hL : L.length ≤ 400) : Calls Try.prog 21 #[v1, v2] w (Yes w) := by
  obtain ⟨a1, c1, rfl⟩ := own_slice o1
  obtain ⟨a2, c2, rfl⟩ := own_slice o2
  have hL' : (L.length : Int) ≤ 400 := by omega
  replace o1 := Lib.hid o1
  replace o2 := Lib.hid o2
  go_enter Try.func21, Try.ntmps21
  go_wp2_with fail
  go_loopw [5] (fun iv wr => ∃ k : Nat, iv = .int .i64 (k : Int) ∧ k ≤ L.length ∧ Below w.heap.size w wr) (fun iv _ => L.length - (intOf iv).toNat)
  case atStart => exact ⟨0, rfl, by omega, Below.refl _ _⟩
  case round =>
    obtain ⟨k, rfl, hk, hb⟩ := hrel
    have HB := Lib.hid hb
    by_cases hlt : k < L.length
    · have hlt' : (k : Int) < (L.length : Int) := by omega
      obtain ⟨y, hy⟩ : ∃ y, L[k]? = some y := ⟨_, List.getElem?_eq_getElem hlt⟩
      obtain ⟨g1, d1, e1⟩ := own_slice' o1.out (by omega)
      obtain ⟨g2, d2, e2⟩ := own_slice' o2.out (by omega)
      have k1 : wr.cell? ⟨g1, k, none⟩ = some (.int .i64 y) := by
        have := own_keep o1.out hb
        rw [e1] at this
        exact own_get this (by simp [il, hy])
      have k2 : wr.cell? ⟨g2, k, none⟩ = some (.int .i64 y) := by
        have := own_keep o2.out hb
        rw [e2] at this
        exact own_get this (by simp [il, hy])
      simp only [Value.slice.injEq] at e1 e2
      obtain ⟨rfl, -, rfl⟩ := e1
      obtain ⟨rfl, -, rfl⟩ := e2
      clear hb hy hk
      go_wp2_with fail
      go_quiet (fail)
      go_wp2_with fail
      go_roundw
      case rel => exact ⟨k + 1, by simp, by omega, below_drewN HB.out _⟩
      case measure => simp [intOf]; omega
    · obtain rfl : k = L.length := by omega
      clear hb hk
      go_wp2_with fail
      go_ret
      exact ⟨rfl, HB.out⟩
theorem xnew_bad (n : Int) (w : World) (h : n < 1 ∨ 65535 < n) : Calls Try.prog 15 #[.int .i64 n] w fun e w' => e = .returned (.tuple #[.pointer none, .int .i64 1]) ∧ w = w' := by
  by_cases h1 : n < 1
  · clear h
    go_enter Try.func15, Try.ntmps15
    go_wp2
    go_ret2
    exact ⟨rfl, rfl⟩
  · have h2 : 65535 < n := by omega
    clear h
    go_enter Try.func15, Try.ntmps15
    go_wp2
    go_ret2
    exact ⟨rfl, rfl⟩
theorem new_bad (n : Int) (w : World) (h : n < 1 ∨ 65535 < n) : Calls Try.prog 14 #[.int .i64 n] w fun e w' => e = .returned (.tuple #[.pointer none, .int .i64 1]) ∧ w = w' := by
  by_cases h1 : n < 1
  · clear h
    go_enter Try.func14, Try.ntmps14
    go_wp2
    go_ret2
    exact ⟨rfl, rfl⟩
  · have h2 : 65535 < n := by omega
    clear h
    go_enter Try.func14, Try.ntmps14
    go_wp2
    go_ret2
    exact ⟨rfl, rfl⟩
set_option maxRecDepth 100000 in
theorem xnew_any (n : Nat) (w : World) (h1 : 1 ≤ n) (h2 : n ≤ 400) : Calls Try.prog 15 #[.int .i64 (n : Int)] w fun e w' => e = .returned (.tuple #[.pointer (some ⟨w.heap.size + 1, 0, none⟩), .int .i64 0]) ∧ Rf w' (w.heap.size + 1) w.heap.size n (fun _ => false) ∧ Below w.heap.size w w' ∧ w'.heap.size = w.heap.size + 2 := by
  have b1 : (1 : Int) ≤ (n : Int) := by omega
  have b2 : (n : Int) ≤ 400 := by omega
  have hmk := run_make_row' (P := Try.prog) 66 4 (.bool false) 1 Try.underlying66 info4 rfl .i64 .i64 (n + 1) (by omega) (by omega)
  rw [show ((n + 1 : Nat) : Int) = (n : Int) + 1 by omega] at hmk
  go_enter Try.func15, Try.ntmps15
  go_wp2
  go_ret2
  have hb : Below w.heap.size w ((w.alloc (.cells (madeCells #[.bool false] (n + 1)) 4)).alloc (.cells #[.slice (some ⟨w.heap.size, 0, none⟩) (n + 1) (n + 1)] 99)) := ext_two w _ _
  refine ⟨rfl, ⟨?_, madeCells #[.bool false] (n + 1), ?_, size_madeCells _ _, fun j hj => by rw [← Array.getElem?_toList, toList_madeCells_one, List.getElem?_replicate, if_pos (by omega)]⟩, hb, by simp⟩
  · have := heap_alloc_new (w.alloc (.cells (madeCells #[.bool false] (n + 1)) 4)) (.cells #[.slice (some ⟨w.heap.size, 0, none⟩) (n + 1) (n + 1)] 99)
    simpa using this
  · rw [heap_alloc_old _ _ (by simp)]
    exact heap_alloc_new w _
set_option maxRecDepth 100000 in
theorem give_bad {A : Nat → Prop} (h : Ds A w g most T) (n : Int) (hn : n < 1 ∨ (most : Int) < n) : Calls Try.prog 18 #[.pointer (some ⟨g, 0, none⟩), .int .i64 n] w fun e w' => e = .returned (.int .i64 1) ∧ w = w' := by
  obtain ⟨tv, bv, H, i, G, av⟩ := h.ex
  have N := Lib.hid (none_no i (by have := h.m1; omega))
  have c0 := i.c0
  clear i G av h
  by_cases h1 : n < 1
  · clear hn
    go_enter Try.func18, Try.ntmps18
    go_wp2_with fail
    refine N.out.mono ?_
    rintro e w1 ⟨rfl, rfl⟩
    go_wp2
    go_ret
    exact ⟨rfl, rfl⟩
  · have h2 : (most : Int) < n := by omega
    clear hn
    go_enter Try.func18, Try.ntmps18
    go_wp2_with fail
    refine N.out.mono ?_
    rintro e w1 ⟨rfl, rfl⟩
    go_wp2
    go_ret
    exact ⟨rfl, rfl⟩
theorem is_new {w1 : World} (d : Ds (fun k => k < w.heap.size) w1 g most []) (b1 : Below w.heap.size w w1) (r : Rf W (w1.heap.size + 1) w1.heap.size most (fun _ => false)) (b2 : Below w1.heap.size w1 W) (hs : W.heap.size = w1.heap.size + 2) : IS w W g (w1.heap.size + 1) w1.heap.size most [] (fun j => ([] : List Bool).getD j false) := by
  refine ⟨d.two b2 ⟨by omega, by omega⟩ ⟨by omega, by omega⟩, ?_, ext_trans b1 b2, b1.size⟩
  simpa using r
/-- Whatever is given back to both. -/
theorem give_both (h : IS w W g x t most T (fun j => T.getD j false)) (n : Int) : ∃ c T', (∀ W1, Below W.heap.size W W1 → Calls Try.prog 18 #[.pointer (some ⟨g, 0, none⟩), .int .i64 n] W1 fun e w' => e = .returned (.int .i64 c) ∧ IS w w' g x t most T' (fun j => T.getD j false)) ∧ (∀ W2, IS w W2 g x t most T' (fun j => T.getD j false) → Calls Try.prog 19 #[.pointer (some ⟨x, 0, none⟩), .int .i64 n] W2 fun e w' => e = .returned (.int .i64 c) ∧ IS w w' g x t most T' (fun j => T'.getD j false)) := by
  have hm := h.ds.m4
  by_cases hn : n < 1 ∨ (most : Int) < n
  · exact ⟨1, T, fun W1 b1 => (give_bad (h.ext b1).ds n hn).mono fun e w' ⟨he, hw⟩ => ⟨he, hw ▸ h.ext b1⟩, fun W2 h2 => (xgive_bad h2.rf hm n hn).mono fun e w' ⟨he, hw⟩ => ⟨he, hw ▸ h2⟩⟩
  · obtain ⟨k, rfl⟩ : ∃ k : Nat, n = (k : Int) + 1 := ⟨(n - 1).toNat, by omega⟩
    have hk : k < most := by omega
    by_cases hl : k < T.length
    · cases hf : T.getD k false
      · exact ⟨7, T, fun W1 b1 => (give_no (h.ext b1).ds hl hf).mono fun e w' ⟨he, hw⟩ => ⟨he, hw ▸ h.ext b1⟩, fun W2 h2 => (xgive_no h2.rf hm hk hf).mono fun e w' ⟨he, hw⟩ => ⟨he, hw ▸ h2⟩⟩
      · exact ⟨0, _, fun W1 b1 => (give_ok (h.ext b1).ds hl hf).mono fun e w' ⟨he, d, kp⟩ => ⟨he, (h.ext b1).onD d kp⟩, fun W2 h2 => (xgive_ok h2.rf hm hk hf).mono fun e w' ⟨he, hw⟩ => ⟨he, hw ▸ h2.onX hk false (fun j _ => getD_set hl false j)⟩⟩
    · have hf : T.getD k false = false := by rw [List.getD_eq_getElem?_getD, List.getElem?_eq_none (by omega)]; rfl
      exact ⟨7, T, fun W1 b1 => (give_out (h.ext b1).ds (by omega) hk).mono fun e w' ⟨he, hw⟩ => ⟨he, hw ▸ h.ext b1⟩, fun W2 h2 => (xgive_no h2.rf hm hk hf).mono fun e w' ⟨he, hw⟩ => ⟨he, hw ▸ h2⟩⟩
/-- A number taken of both. -/
theorem take_both (h : IS w W g x t most T (fun j => T.getD j false)) : ∃ a c T', (Calls Try.prog 16 #[.pointer (some ⟨g, 0, none⟩)] W fun e w' => e = .returned (.tuple #[.int .i64 a, .int .i64 c]) ∧ IS w w' g x t most T' (fun j => T.getD j false)) ∧ (∀ W2, IS w W2 g x t most T' (fun j => T.getD j false) → Calls Try.prog 17 #[.pointer (some ⟨x, 0, none⟩)] W2 fun e w' => e = .returned (.tuple #[.int .i64 a, .int .i64 c]) ∧ IS w w' g x t most T' (fun j => T'.getD j false)) := by
  have hm := h.ds.m4
  have hle := h.ds.le
  by_cases hf : trues T = most
  · have hl : T.length = most := by have := trues_le T; omega
    have ha : ∀ j, j < most → T.getD j false = true := fun j hj => by
      have := (List.count_eq_length.1 (show T.count true = T.length by unfold trues at hf; omega)) (T.getD j false) (by rw [List.getD_eq_getElem?_getD, List.getElem?_eq_getElem (by omega)]; simp)
      exact this.symm
    exact ⟨0, 6, T, (take_full h.ds hf).mono fun e w' ⟨k, he, hw⟩ => ⟨he, hw ▸ h.ext (ext_drewN _ _)⟩, fun W2 h2 => (xtake_full h2.rf hm ha).mono fun e w' ⟨he, hw⟩ => ⟨he, hw ▸ h2⟩⟩
  · have hlt : trues T < most := by have := trues_le T; omega
    have hq : nxt T < most := by
      obtain ⟨tv, bv, H, i, G, av⟩ := h.ds.ex
      have h1 := (tk_get T).1
      have h2 := tk_len G hlt hle
      omega
    exact ⟨_, 0, _, (take_ok h.ds hlt).mono fun e w' ⟨he, d, kp⟩ => ⟨he, h.onD d kp⟩, fun W2 h2 => (xtake_ok h2.rf hm hq (fun j hj => nxt_lo hj) (nxt_hi T)).mono fun e w' ⟨he, hw⟩ => ⟨he, hw ▸ h2.onX hq true (fun j _ => getD_tk T j)⟩⟩
end
end Go.Proofs.Ytoijdmchkjmpgaa.Ids
