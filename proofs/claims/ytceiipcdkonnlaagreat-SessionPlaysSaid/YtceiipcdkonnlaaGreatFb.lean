/-
  LAYER 23: the flight's block: none, Len; what Ack, Rec and Comp say.
-/
import Derived.Test.YtceiipcdkonnlaaGreatIo
namespace Go.Proofs.YtceiipcdkonnlaaGreat.Fli
set_option linter.unusedSimpArgs false
set_option linter.unusedVariables false
open Go.RowKit Que Hp Ids
structure Se where
  i : Int
  s : Int
  t : ByteArray
  x : ByteArray
  q : Int
  r : Bool
def Se.m (e : Se) : Value := .agg #[.string e.t, .string e.x, .int .i64 e.q, .bool e.r]
def Se.cells (e : Se) : List Value := [.int .i64 e.i, .int .i64 e.s, .string e.t, .string e.x, .int .i64 e.q, .bool e.r]
def Se.v (e : Se) : Value := .agg #[.int .i64 e.i, .int .i64 e.s, .string e.t, .string e.x, .int .i64 e.q, .bool e.r]
def seC (l : List Se) : List Value := l.flatMap Se.cells
theorem seC_len (l : List Se) : (seC l).length = l.length * 6 := by
  induction l with
  | nil => rfl
  | cons f l ih => simp only [seC, List.flatMap_cons, List.length_append] at ih ⊢; rw [ih]; simp [Se.cells]; omega
theorem seC_get (l : List Se) : ∀ (i : Nat) (f : Se), l[i]? = some f → ∀ j, j < 6 → (seC l)[i * 6 + j]? = f.cells[j]? := by
  induction l with
  | nil => intro i f h; simp at h
  | cons g l ih =>
    intro i f h j hj
    have e : seC (g :: l) = g.cells ++ seC l := by simp [seC]
    rw [e]
    cases i with
    | zero =>
      simp at h; subst h
      rw [Nat.zero_mul, Nat.zero_add, List.getElem?_append_left (by simp [Se.cells]; exact hj)]
    | succ i =>
      rw [List.getElem?_append_right (by simp [Se.cells]; omega)]
      rw [show (i + 1) * 6 + j - g.cells.length = i * 6 + j by simp [Se.cells]; omega]
      exact ih i f (by simpa using h) j hj
theorem seC_snoc (l : List Se) (f : Se) : seC (l ++ [f]) = seC l ++ f.cells := by simp [seC]
theorem seC_setS (l : List Se) : ∀ (i : Nat) (f : Se) (s : Int), l[i]? = some f → (seC l).set (i * 6 + 1) (.int .i64 s) = seC (l.set i { f with s := s }) := by
  induction l with
  | nil => intro i f s h; simp at h
  | cons g l ih =>
    intro i f s h
    have e : ∀ (g : Se) (l : List Se), seC (g :: l) = .int .i64 g.i :: .int .i64 g.s :: .string g.t :: .string g.x :: .int .i64 g.q :: .bool g.r :: seC l := fun g l => by simp [seC, Se.cells]
    cases i with
    | zero => simp at h; subst h; simp [e]
    | succ i =>
      rw [e, show (i + 1) * 6 + 1 = i * 6 + 1 + 1 + 1 + 1 + 1 + 1 + 1 by omega, List.set_cons_succ, List.set_cons_succ, List.set_cons_succ, List.set_cons_succ, List.set_cons_succ, List.set_cons_succ, List.set_cons_succ, e, ih i f s (by simpa using h)]
/-- The flight in block f, its numbers in block g. -/
structure Fw (B : Nat) (w : World) (f g : Nat) (v : Value) (L : List Se) : Prop where
  row : w.heap[f]? = some (.cells #[.pointer (some ⟨g, 0, none⟩), v] 99 (0, 0))
  its : w.ownsRow B 118 6 v L.length (seC L)
section
variable {B : Nat} {w w' : World} {f g : Nat} {v : Value} {L : List Se}
theorem Fw.lt (h : Fw B w f g v L) : f < w.heap.size := (Array.getElem?_eq_some_iff.1 h.row).1
theorem Fw.c0 (h : Fw B w f g v L) : w.cell? ⟨f, 0, none⟩ = some (.pointer (some ⟨g, 0, none⟩)) := cell_of_row w f 0 _ 99 (0, 0) h.row
theorem Fw.c1 (h : Fw B w f g v L) : w.cell? ⟨f, 1, none⟩ = some v := cell_of_row w f 1 _ 99 (0, 0) h.row
theorem Fw.fz (h : Fw B w f g v L) (j : Nat) : w.frozen? ⟨f, j, none⟩ = false := frozen_of_row w f j _ 99 h.row
theorem Fw.keep (h : Fw B w f g v L) (hb : Below w.heap.size w w') : Fw B w' f g v L := ⟨(hb.block f h.lt).trans h.row, own_keep h.its hb⟩
theorem Fw.far {S : Nat → Prop} (h : Fw B w f g v L) (F : Far S w w') (h1 : ¬ S f) (h2 : ∀ k, v.ownBlock = some k → ¬ S k) : Fw B w' f g v L :=
  ⟨(F.block f h.lt h1).trans h.row, own_fars h.its F h2⟩
/-- An element's cells. -/
theorem Fw.at (h : Fw B w f g v L) {gb n cb : Nat} (hv : v = .slice (some ⟨gb, 0, none⟩) n cb) {k : Nat} {e : Se} (hk : L[k]? = some e) : w.cell? ⟨gb, k * 6, none⟩ = some (.int .i64 e.i) ∧ w.cell? ⟨gb, k * 6 + 1, none⟩ = some (.int .i64 e.s) ∧ w.cell? ⟨gb, k * 6 + 2, none⟩ = some (.string e.t) ∧ w.cell? ⟨gb, k * 6 + 3, none⟩ = some (.string e.x) ∧ w.cell? ⟨gb, k * 6 + 4, none⟩ = some (.int .i64 e.q) ∧ w.cell? ⟨gb, k * 6 + 5, none⟩ = some (.bool e.r) := by
  subst hv
  have G := seC_get L k e hk
  exact ⟨own_get h.its (by have := G 0 (by omega); simpa [Se.cells] using this), own_get h.its (by have := G 1 (by omega); simpa [Se.cells] using this), own_get h.its (by have := G 2 (by omega); simpa [Se.cells] using this), own_get h.its (by have := G 3 (by omega); simpa [Se.cells] using this), own_get h.its (by have := G 4 (by omega); simpa [Se.cells] using this), own_get h.its (by have := G 5 (by omega); simpa [Se.cells] using this)⟩
theorem Fw.fzr (h : Fw B w f g v L) {gb cb n : Nat} (hv : v = .slice (some ⟨gb, 0, none⟩) n cb) (j : Nat) : w.frozen? ⟨gb, j, none⟩ = false := by
  have := h.its
  subst hv
  rcases this.2 with ⟨h, -⟩ | ⟨g', cap, cur, hv, hB, hcur, hn, hm, hs, ht⟩
  · cases h
  · simp only [Value.slice.injEq, Option.some.injEq, Addr.mk.injEq, and_true] at hv
    obtain ⟨rfl, -, -⟩ := hv
    exact frozen_of_row w gb j _ 118 hcur
theorem Fw.storeS (h : Fw B w f g v L) {gb cb : Nat} (hv : v = .slice (some ⟨gb, 0, none⟩) L.length cb) {k : Nat} {e : Se} (he : L[k]? = some e) (s : Int) : Fw B (w.setCell ⟨gb, k * 6 + 1, none⟩ (.int .i64 s)) f g v (L.set k { e with s := s }) := by
  subst hv
  have hne : f ≠ gb := fun e => own_far h.its h.row (by decide) (by rw [e]; rfl)
  refine ⟨?_, ?_⟩
  · rw [Below.heap_setCell _ _ _ _ hne]; exact h.row
  · have := (h.its.stored (k * 6 + 1) (.int .i64 s)).1
    rw [seC_setS _ _ _ _ he] at this
    simpa using this
theorem none_any (h : Fw B w f g v L) : Calls Tryz.prog 65 #[.pointer (some ⟨f, 0, none⟩)] w fun e w' => e = .returned (.bool false) ∧ w = w' := by
  have c0 := h.c0
  clear h
  go_enter Tryz.func65, Tryz.ntmps65
  go_wp2
  go_ret
  exact ⟨rfl, rfl⟩
theorem flen_any (h : Fw B w f g v L) : Calls Tryz.prog 62 #[.pointer (some ⟨f, 0, none⟩)] w fun e w' => e = .returned (.int .i64 (L.length : Nat)) ∧ w = w' := by
  have N := Lib.hid (none_any h)
  have c1 := h.c1
  obtain ⟨a, c, rfl⟩ := own_slice h.its
  clear h
  go_enter Tryz.func62, Tryz.ntmps62
  go_wp2_with fail
  refine N.out.mono ?_
  rintro e w1 ⟨rfl, rfl⟩
  go_wp2
  go_ret
  exact ⟨rfl, rfl⟩
end
set_option maxRecDepth 100000 in
theorem ack_any (e : Se) (w : World) : Calls Tryz.prog 70 #[.agg #[.int .i64 e.i, .int .i64 e.s, .string e.t, .string e.x, .int .i64 e.q, .bool e.r]] w fun x w' => x = .returned (.tuple #[.int .i64 0, .bool (e.s == 1)]) ∧ Below w.heap.size w w' := by
  go_enter Tryz.func70, Tryz.ntmps70
  go_wp2
  go_quiet (fail)
  go_wp2
  go_ret2
  exact ⟨rfl, below_drewN (ext_alloc _ _) _⟩
set_option maxRecDepth 100000 in
theorem comp_any (e : Se) (w : World) : Calls Tryz.prog 71 #[.agg #[.int .i64 e.i, .int .i64 e.s, .string e.t, .string e.x, .int .i64 e.q, .bool e.r]] w fun x w' => x = .returned (.tuple #[.int .i64 0, .bool (e.s == 3)]) ∧ Below w.heap.size w w' := by
  go_enter Tryz.func71, Tryz.ntmps71
  go_wp2
  go_quiet (fail)
  go_wp2
  go_ret2
  exact ⟨rfl, below_drewN (ext_alloc _ _) _⟩
set_option maxRecDepth 100000 in
theorem rec_any (e : Se) (w : World) : Calls Tryz.prog 72 #[.agg #[.int .i64 e.i, .int .i64 e.s, .string e.t, .string e.x, .int .i64 e.q, .bool e.r]] w fun x w' => x = .returned (.tuple #[.int .i64 3, .bool (e.s == 2 || e.s == 3)]) ∧ Below w.heap.size w w' := by
  cases h2 : (e.s == 2)
  · go_enter Tryz.func72, Tryz.ntmps72
    go_wp2
    go_region
    go_wp2
    go_ret2
    exact ⟨rfl, (ext_alloc _ _).trans ⟨rfl, rfl, rfl, Nat.le_refl _, fun _ _ => rfl⟩⟩
  · go_enter Tryz.func72, Tryz.ntmps72
    go_wp2
    go_region
    go_wp2
    go_ret2
    exact ⟨rfl, (ext_alloc _ _).trans ⟨rfl, rfl, rfl, Nat.le_refl _, fun _ _ => rfl⟩⟩
end Go.Proofs.YtceiipcdkonnlaaGreat.Fli

/-
  LAYER 23: a flight as one fact; Send.
-/
namespace Go.Proofs.YtceiipcdkonnlaaGreat.Fli
set_option linter.unusedSimpArgs false
set_option linter.unusedVariables false
open Go.RowKit Que Hp Ids
theorem getD_set {T : List Bool} {k : Nat} (hk : k < T.length) (b : Bool) (j : Nat) : (T.set k b).getD j false = if j = k then b else T.getD j false := by
  by_cases h : j = k
  · subst h
    rw [if_pos rfl, List.getD_eq_getElem?_getD, List.getElem?_set_self hk]; rfl
  · rw [if_neg h, List.getD_eq_getElem?_getD, List.getElem?_set_ne (fun e => h e.symm), ← List.getD_eq_getElem?_getD]
theorem getD_tk (T : List Bool) (j : Nat) : (tk T).getD j false = if j = nxt T then true else T.getD j false := by
  unfold tk
  by_cases h : nxt T < T.length
  · rw [if_pos h]; exact getD_set h true j
  · have hl : nxt T ≤ T.length := List.findIdx_le_length
    have e : nxt T = T.length := by omega
    rw [if_neg h, e]
    by_cases hj : j = T.length
    · subst hj; simp
    · rw [if_neg hj]
      by_cases h2 : j < T.length
      · rw [List.getD_eq_getElem?_getD, List.getElem?_append_left h2, ← List.getD_eq_getElem?_getD]
      · rw [List.getD_eq_getElem?_getD, List.getD_eq_getElem?_getD, List.getElem?_eq_none (by simp; omega), List.getElem?_eq_none (by omega)]
theorem Ds.far {A S : Nat → Prop} {w W' : World} {g most : Nat} {T : List Bool} (h : Ds A w g most T) (F : Far S w W') (hS : ∀ k, S k → A k) : Ds A W' g most T := by
  obtain ⟨tv, bv, H, i, G, av⟩ := h.ex
  refine ⟨⟨tv, bv, H, ⟨?_, own_fars i.tk F ?_, own_fars i.bk F ?_⟩, G, fun k hk => ⟨Nat.lt_of_lt_of_le (av k hk).1 F.size, (av k hk).2⟩⟩, h.le, h.m1, h.m4⟩
  · exact (F.block g i.lt (fun e => (av g (hS g e)).2 (.inl rfl))).trans i.row
  · exact fun k hk e => (av k (hS k e)).2 (.inr (.inl hk))
  · exact fun k hk e => (av k (hS k e)).2 (.inr (.inr hk))
/-- Other blocks are to be kept: those from of old, and new ones. -/
theorem Ds.others {A A' S : Nat → Prop} {w W' : World} {g most : Nat} {T : List Bool} (h : Ds A w g most T) (F : Far S w W') (hS : ∀ k, S k → A k) (hA : ∀ k, A' k → A k ∨ w.heap.size ≤ k ∧ k < W'.heap.size) : Ds A' W' g most T := by
  have h2 := Ds.far h F hS
  obtain ⟨tv, bv, H, i, G, av⟩ := h2.ex
  obtain ⟨tv0, bv0, H0, i0, G0, av0⟩ := h.ex
  refine ⟨⟨tv0, bv0, H0, ⟨?_, own_fars i0.tk F ?_, own_fars i0.bk F ?_⟩, G0, fun k hk => ?_⟩, h.le, h.m1, h.m4⟩
  · exact (F.block g i0.lt (fun e => (av0 g (hS g e)).2 (.inl rfl))).trans i0.row
  · exact fun k hk e => (av0 k (hS k e)).2 (.inr (.inl hk))
  · exact fun k hk e => (av0 k (hS k e)).2 (.inr (.inr hk))
  · rcases hA k hk with e | ⟨e1, e2⟩
    · exact ⟨Nat.lt_of_lt_of_le (av0 k e).1 F.size, (av0 k e).2⟩
    · refine ⟨e2, ?_⟩
      rintro (e | e | e)
      · have := i0.lt; omega
      · have := (i0.tk.lt k e).2; omega
      · have := (i0.bk.lt k e).2; omega
def AF (A : Nat → Prop) (f : Nat) (v : Value) (k : Nat) : Prop := A k ∨ k = f ∨ v.ownBlock = some k
/-- The flight in block f. -/
structure Fs (A : Nat → Prop) (w : World) (f g : Nat) (T : List Bool) (L : List Se) : Prop where
  ex : ∃ v, Fw 0 w f g v L ∧ Ds (AF A f v) w g 8 T ∧ ∀ k, A k → k < w.heap.size ∧ k ≠ f ∧ v.ownBlock ≠ some k
  ids : ∀ e ∈ L, ∃ j : Nat, e.i = (j : Int) + 1 ∧ T.getD j false = true
  nd : L.Pairwise fun x y => x.i ≠ y.i
  tr : trues T = L.length
section
variable {A : Nat → Prop} {w w' : World} {f g : Nat} {T : List Bool} {L : List Se} {v : Value}
theorem Fs.ext (h : Fs A w f g T L) (hb : Below w.heap.size w w') : Fs A w' f g T L := by
  obtain ⟨v, r, d, av⟩ := h.ex
  exact ⟨⟨v, r.keep hb, d.ext hb, fun k hk => ⟨Nat.lt_of_lt_of_le (av k hk).1 hb.size, (av k hk).2⟩⟩, h.ids, h.nd, h.tr⟩
theorem Fs.le (h : Fs A w f g T L) : L.length ≤ 8 := by
  obtain ⟨v, r, d, av⟩ := h.ex
  have := d.le
  have := trues_le T
  have := h.tr
  omega
/-- An element behind the others. -/
theorem Fs.snoc_ids (h : Fs A w f g T L) (s : Int) (t x : ByteArray) (q : Int) (r : Bool) : (∀ e ∈ (L ++ [⟨(nxt T : Int) + 1, s, t, x, q, r⟩] : List Se), ∃ j : Nat, e.i = (j : Int) + 1 ∧ (tk T).getD j false = true) ∧ List.Pairwise (fun x y : Se => x.i ≠ y.i) (L ++ [⟨(nxt T : Int) + 1, s, t, x, q, r⟩]) := by
  refine ⟨fun e he => ?_, ?_⟩
  · rcases List.mem_append.1 he with he | he
    · obtain ⟨j, h1, h2⟩ := h.ids e he
      exact ⟨j, h1, by rw [getD_tk]; split <;> simp_all⟩
    · rw [List.mem_singleton.1 he]
      exact ⟨nxt T, rfl, by rw [getD_tk, if_pos rfl]⟩
  · rw [List.pairwise_append]
    refine ⟨h.nd, by simp, fun a ha b hb e => ?_⟩
    rw [List.mem_singleton.1 hb] at e
    obtain ⟨j, h1, h2⟩ := h.ids a ha
    have : j = nxt T := by simp only at e; omega
    rw [this, nxt_hi] at h2
    cases h2
def zS : Value := .agg #[.int .i64 0, .int .i64 0, .string { data := #[] }, .string { data := #[] }, .int .i64 0, .bool false]
theorem info103 : (Tryz.prog.info? 118).map (fun i => (i.zero, i.size, i.bytes)) = some (some zS, 6, 64) := by kernel_rfl
set_option maxHeartbeats 2000000 in
set_option maxRecDepth 100000 in
theorem send_flags (h : Fs A w f g T L) (t x : ByteArray) (q : Int) (r : Bool) (hq : q ≠ 1 ∧ q ≠ 2) : Calls Tryz.prog 64 #[.pointer (some ⟨f, 0, none⟩), .agg #[.string t, .string x, .int .i64 q, .bool r]] w fun e w' => e = .returned (.tuple #[.int .i64 0, .int .i64 10]) ∧ Fs A w' f g T L ∧ Kp A w w' := by
  obtain ⟨v, rw0, d, av⟩ := h.ex
  have hb := ext_alloc w (.cells #[.string t, .string x, .int .i64 q, .bool r] 33)
  have N := Lib.hid (none_any (rw0.keep hb))
  have q1 : (q == 1) = false := by simpa using hq.1
  have q2 : (q == 2) = false := by simpa using hq.2
  have Z : Hid (Fs A (w.alloc (.cells #[.string t, .string x, .int .i64 q, .bool r] 33)) f g T L ∧ Kp A w (w.alloc (.cells #[.string t, .string x, .int .i64 q, .bool r] 33))) := Lib.hid ⟨h.ext hb, Kp.of_ext hb⟩
  clear h rw0 d av hb hq
  go_enter Tryz.func64, Tryz.ntmps64
  go_wp2_with fail
  refine N.out.mono ?_
  rintro e w1 ⟨rfl, rfl⟩
  go_wp2
  go_ret2
  exact ⟨rfl, Z.out⟩
set_option maxHeartbeats 2000000 in
set_option maxRecDepth 100000 in
theorem send_full (h : Fs A w f g T L) (t x : ByteArray) (q : Int) (r : Bool) (hq : q = 1 ∨ q = 2) (hf : L.length = 8) : Calls Tryz.prog 64 #[.pointer (some ⟨f, 0, none⟩), .agg #[.string t, .string x, .int .i64 q, .bool r]] w fun e w' => e = .returned (.tuple #[.int .i64 0, .int .i64 6]) ∧ Fs A w' f g T L ∧ Kp A w w' := by
  obtain ⟨v, rw0, d, av⟩ := h.ex
  have hb := ext_alloc w (.cells #[.string t, .string x, .int .i64 q, .bool r] 33)
  have N := Lib.hid (none_any (rw0.keep hb))
  have c0 := (rw0.keep hb).c0
  have TF := Lib.hid (take_full (d.ext hb) (by rw [h.tr, hf]))
  have Z : Hid (∀ m, Fs A ((w.alloc (.cells #[.string t, .string x, .int .i64 q, .bool r] 33)).drewN m) f g T L ∧ Kp A w ((w.alloc (.cells #[.string t, .string x, .int .i64 q, .bool r] 33)).drewN m)) := Lib.hid fun m => ⟨h.ext (ext_trans hb (ext_drewN _ _)), Kp.of_ext (ext_trans hb (ext_drewN _ _))⟩
  clear h rw0 d av hb hf
  rcases hq with rfl | rfl
  all_goals
    go_enter Tryz.func64, Tryz.ntmps64
    go_wp2_with fail
    refine N.out.mono ?_
    rintro e w1 ⟨rfl, rfl⟩
    go_wp2_with fail
    refine TF.out.mono ?_
    rintro e w1 ⟨m, rfl, rfl⟩
    go_wp2
    go_ret2
    exact ⟨rfl, Z.out _⟩
def SF (f : Nat) (v : Value) (k : Nat) : Prop := k = f ∨ v.ownBlock = some k
theorem setF {w : World} {g j : Nat} {cs : Array Value} (h : w.heap[g]? = some (.cells cs 99 (0, 0))) (u : Value) : (w.setCell ⟨g, j, none⟩ u).heap[g]? = some (.cells (cs.setIfInBounds j u) 99 (0, 0)) :=
  heap_setCell_same w g j _ 99 u h
/-- The way is another; it stands in the same block or in a new one. -/
structure WNew (w w' : World) (f g : Nat) (v : Value) (L : List Se) (v' : Value) : Prop where
  r : Fw 0 w' f g v' L
  far : Far (SF f v) w w'
  nb : ∀ k, v'.ownBlock = some k → v.ownBlock = some k ∨ w.heap.size ≤ k
theorem WNew.fs {v' : Value} {L' : List Se} {T' : List Bool} (n : WNew w w' f g v L' v') (d : Ds (AF A f v) w g 8 T') (av : ∀ k, A k → k < w.heap.size ∧ k ≠ f ∧ v.ownBlock ≠ some k) (ids : ∀ e ∈ L', ∃ j : Nat, e.i = (j : Int) + 1 ∧ T'.getD j false = true) (nd : L'.Pairwise fun x y => x.i ≠ y.i) (tr : trues T' = L'.length) : Fs A w' f g T' L' ∧ Kp A w w' := by
  have sz := n.far.size
  refine ⟨⟨⟨v', n.r, Ds.others d n.far (fun k hk => hk.elim (fun e => .inr (.inl e)) (fun e => .inr (.inr e))) ?_, fun k hk => ⟨by have := (av k hk).1; omega, (av k hk).2.1, fun e => ?_⟩⟩, ids, nd, tr⟩, n.far.mono (fun k _ hk hA => ?_)⟩
  · rintro k (hk | hk | hk)
    · exact .inl (.inl hk)
    · exact .inl (.inr (.inl hk))
    · rcases n.nb k hk with e | e
      · exact .inl (.inr (.inr e))
      · exact .inr ⟨e, (n.r.its.lt k hk).2⟩
  · rcases n.nb k e with e | e
    · exact (av k hk).2.2 e
    · have := (av k hk).1; omega
  · rcases hk with e | e
    · exact (av k hA).2.1 e
    · exact (av k hA).2.2 e
theorem way_end {Wx w1 : World} {e : Se} {gg cap : Nat} (h : Fw 0 w f g v L) (hx : Below w.heap.size w Wx) (hgrow : Wx.grownBy w1 v.ownBlock)
    (hown1 : w1.ownsRow 0 118 6 (.slice (some ⟨gg, 0, none⟩) (L.length + 1) cap) (L.length + 1) (seC L ++ e.cells)) (hat : v.ownBlock = some gg ∨ gg = w.heap.size + 1) :
    WNew w (w1.setCell ⟨f, 1, none⟩ (.slice (some ⟨gg, 0, none⟩) (L.length + 1) cap)) f g v (L ++ [e]) (.slice (some ⟨gg, 0, none⟩) (L.length + 1) cap) := by
  have Rx := (hx.block f h.lt).trans h.row
  have hne := own_far h.its h.row (by decide : (99 : TypeId) ≠ 118)
  have R1 := (hgrow.block f (Nat.lt_of_lt_of_le h.lt hx.size) hne).trans Rx
  have GG : w1.grownBy (w1.setCell ⟨f, 1, none⟩ (.slice (some ⟨gg, 0, none⟩) (L.length + 1) cap)) (some f) := set_grownX
  refine ⟨⟨by simpa using setF R1 (j := 1) (.slice (some ⟨gg, 0, none⟩) (L.length + 1) cap), ?_⟩, ?_, fun k hk => ?_⟩
  · have := own_grown hown1 R1 (by decide) GG
    rw [seC_snoc]
    simpa using this
  · exact ((Far.of_ext hx).trans (Far.of_grown (S := SF f v) hgrow (fun k _ e => .inr e)) (fun k _ h => h)).trans (Far.of_grown (S := SF f v) GG (fun k _ e => .inl (by simpa using e.symm))) (fun k _ h => h)
  · obtain rfl : gg = k := by simpa [Value.ownBlock] using hk
    rcases hat with h | h
    · exact .inl h
    · exact .inr (by omega)
set_option maxHeartbeats 8000000 in
set_option maxRecDepth 100000 in
theorem send_ok (h : Fs A w f g T L) (t x : ByteArray) (q : Int) (r : Bool) (hq : q = 1 ∨ q = 2) (hf : L.length < 8) : Calls Tryz.prog 64 #[.pointer (some ⟨f, 0, none⟩), .agg #[.string t, .string x, .int .i64 q, .bool r]] w fun e w' => e = .returned (.tuple #[.int .i64 ((nxt T : Int) + 1), .int .i64 0]) ∧ Fs A w' f g (tk T) (L ++ [⟨(nxt T : Int) + 1, q, t, x, q, r⟩]) ∧ Kp A w w' := by
  obtain ⟨i3, hi3, hz0, hz1, hz2⟩ := info_parts info103
  obtain ⟨v, rw0, d, av⟩ := h.ex
  have hb := ext_alloc w (.cells #[.string t, .string x, .int .i64 q, .bool r] 33)
  have hrow : (w.alloc (.cells #[.string t, .string x, .int .i64 q, .bool r] 33)).heap[w.heap.size]? = some (.cells #[.string t, .string x, .int .i64 q, .bool r] 33 (0, 0)) := heap_alloc_new w _
  have N := Lib.hid (none_any (rw0.keep hb))
  have c0 := (rw0.keep hb).c0
  have d1 : Ds (fun k => AF A f v k ∨ k = w.heap.size) (w.alloc (.cells #[.string t, .string x, .int .i64 q, .bool r] 33)) g 8 T := d.more hb (Nat.le_refl _) (by simp)
  have TO := Lib.hid (take_ok d1 (by rw [h.tr]; exact hf))
  have hq8 : nxt T < 8 := by
    obtain ⟨tv, bv, H, i, G, av'⟩ := d.ex
    have h1 := (tk_get T).1
    have h2 := tk_len G (by rw [h.tr]; exact hf) d.le
    omega
  have htr : trues (tk T) = L.length + 1 := by
    obtain ⟨tv, bv, H, i, G, av'⟩ := d.ex
    rw [trues_tk G, h.tr]
  have hq8' : (nxt T : Int) ≤ 8 := by omega
  have hl8 : (L.length : Int) ≤ 8 := by omega
  obtain ⟨sn1, sn2⟩ := h.snoc_ids q t x q r
  generalize hW1 : w.alloc (.cells #[.string t, .string x, .int .i64 q, .bool r] 33) = W1 at *
  have FIN : Hid (∀ w2 v' w', Ds (fun k => AF A f v k ∨ k = w.heap.size) w2 g 8 (tk T) → Kp (fun k => AF A f v k ∨ k = w.heap.size) W1 w2 → WNew w2 w' f g v (L ++ [⟨(nxt T : Int) + 1, q, t, x, q, r⟩]) v' → Fs A w' f g (tk T) (L ++ [⟨(nxt T : Int) + 1, q, t, x, q, r⟩]) ∧ Kp A w w') := Lib.hid fun w2 v' w' d2 k2 n => by
    have z2 : w.heap.size ≤ w2.heap.size := Nat.le_trans hb.size k2.size
    obtain ⟨a1, a2⟩ := n.fs (A := A) (T' := tk T) (d2.weaken (fun k hk => .inl hk)) (fun k hk => ⟨by have := (av k hk).1; omega, (av k hk).2⟩) sn1 sn2 (by rw [htr]; simp)
    exact ⟨a1, ((Kp.of_ext hb).trans (k2.mono (fun k _ hk hA => hk (.inl (.inl hA))))).trans a2⟩
  have FWK : Hid (∀ w2, Kp (fun k => AF A f v k ∨ k = w.heap.size) W1 w2 → Fw 0 w2 f g v L ∧ w2.heap[w.heap.size]? = some (.cells #[.string t, .string x, .int .i64 q, .bool r] 33 (0, 0)) ∧ f < w2.heap.size) := Lib.hid fun w2 k2 => by
    have r1 := (rw0.keep hb).far k2 (fun e => e (.inl (.inr (.inl rfl)))) (fun k hk e => e (.inl (.inr (.inr hk))))
    exact ⟨r1, (k2.block _ (by rw [← hW1]; simp) (fun e => e (.inr rfl))).trans hrow, r1.lt⟩
  have e0 : W1.cell? ⟨w.heap.size, 2, none⟩ = some (.int .i64 q) := cell_of_row W1 _ 2 _ 33 (0, 0) hrow
  have hvf : v.ownBlock ≠ some f := Ne.symm (own_far rw0.its rw0.row (by decide))
  have hvb : v.ownBlock ≠ some w.heap.size := fun e => by have := (rw0.its.lt _ e).2; omega
  have hw1 : w.heap.size < W1.heap.size := by rw [← hW1]; simp
  replace hW1 := Lib.hid hW1
  clear h rw0 d av hb d1 hrow sn1 sn2
  have TAIL : Hid (∀ w2, Ds (fun k => AF A f v k ∨ k = w.heap.size) w2 g 8 (tk T) → Kp (fun k => AF A f v k ∨ k = w.heap.size) W1 w2 → Fw 0 w2 f g v L ∧ w2.heap[w.heap.size]? = some (.cells #[.string t, .string x, .int .i64 q, .bool r] 33 (0, 0)) ∧ f < w2.heap.size ∧ w.heap.size < w2.heap.size ∧ ∀ v' w', WNew w2 w' f g v (L ++ [⟨(nxt T : Int) + 1, q, t, x, q, r⟩]) v' → Fs A w' f g (tk T) (L ++ [⟨(nxt T : Int) + 1, q, t, x, q, r⟩]) ∧ Kp A w w') := Lib.hid fun w2 d2 k2 => by
    obtain ⟨r2, bx, flt⟩ := FWK.out w2 k2
    exact ⟨r2, bx, flt, Nat.lt_of_lt_of_le hw1 k2.size, fun v' w' n => FIN.out w2 v' w' d2 k2 n⟩
  clear FWK FIN
  replace hw1 := Lib.hid hw1
  generalize hbx : w.heap.size = bx at *
  replace hbx := Lib.hid hbx
  rcases hq with rfl | rfl
  · go_enter Tryz.func64, Tryz.ntmps64
    go_wp2_with fail
    rw [hbx.out, hW1.out]
    refine N.out.mono ?_
    rintro e w1 ⟨rfl, rfl⟩
    go_wp2_with fail
    refine TO.out.mono ?_
    rintro e w2 ⟨rfl, d2, k2⟩
    obtain ⟨r2, hx2, flt, blt, FF⟩ := TAIL.out w2 d2 k2
    replace FF := Lib.hid FF
    have b0 := cell_of_row w2 bx 0 _ 33 (0, 0) hx2
    have b1 := cell_of_row w2 bx 1 _ 33 (0, 0) hx2
    have b2 := cell_of_row w2 bx 2 _ 33 (0, 0) hx2
    have b3 := cell_of_row w2 bx 3 _ 33 (0, 0) hx2
    simp at b0 b1 b2 b3
    have c1 := r2.c1
    have f1 := r2.fz 1
    have KB : Hid (∀ W : World, Below w2.heap.size w2 W → W.ownsRow 0 118 6 v L.length (seC L)) := Lib.hid fun W hW => own_keep r2.its hW
    have R2 := Lib.hid r2
    clear d2 k2 r2 hx2 TO N c0 e0
    have KN : Hid (∀ W : World, W.heap[w2.heap.size]? = some (.cells #[.int .i64 ((nxt T : Int) + 1), .int .i64 1, .string t, .string x, .int .i64 1, .bool r] 118 (0, 0)) → ∀ j u, (Se.cells ⟨(nxt T : Int) + 1, 1, t, x, 1, r⟩)[j]? = some u → W.cell? ((⟨w2.heap.size, 0, none⟩ : Addr).add j) = some u) := Lib.hid (by
      intro W hW j u hj
      have := cell_of_row W w2.heap.size j _ 118 (0, 0) hW
      rw [add_off', Nat.zero_add, this, ← hj]
      simp [Se.cells])
    go_wp2_with fail
    go_region_law (go_must (refine step_append_lies _ rfl (.tmp 32) (.tmp 37) 97 rfl 0 118 i3 zS 6 64 Tryz.underlying97 hi3 hz0 hz1 hz2 rfl (by decide) v L.length (seC L) rfl (KB.out _ (by first | exact ext_alloc w2 _ | exact ext_trans (ext_alloc w2 _) (ext_drew _) | exact ext_trans (ext_drew w2) (ext_alloc w2.drew _))) ⟨w2.heap.size, 0, none⟩ 1 1 (Se.cells ⟨(nxt T : Int) + 1, 1, t, x, 1, r⟩) rfl rfl (KN.out _ (by first | exact heap_alloc_new w2 _ | exact heap_alloc_new w2.drew _)) (by intro u hu; simp [Se.cells] at hu; rcases hu with rfl | rfl | rfl | rfl | rfl | rfl <;> rfl) (by decide) (by unfold maxLen; omega) (by omega) (by simp) (w2.heap.size + 1) (by simp) ?_); intro gg cap w3 hown1 hgrow hat hlt1; have hc1 := (hgrow.cell_far ⟨f, 1, none⟩ (by simp; omega) (Ne.symm hvf)); have hf1 := (hgrow.frozen_far ⟨f, 1, none⟩ (by simp; omega) (Ne.symm hvf)); replace hat := Lib.hid hat; replace hgrow := Lib.hid hgrow; replace hown1 := Lib.hid hown1)
    all_goals go_wp2
    all_goals go_ret2
    all_goals exact ⟨rfl, FF.out _ _ (way_end R2.out (by first | exact ext_trans (ext_alloc w2 _) (ext_drew _) | exact ext_alloc w2 _ | exact ext_trans (ext_drew w2) (ext_alloc w2.drew _)) hgrow.out hown1.out hat.out)⟩
  · go_enter Tryz.func64, Tryz.ntmps64
    go_wp2_with fail
    rw [hbx.out, hW1.out]
    refine N.out.mono ?_
    rintro e w1 ⟨rfl, rfl⟩
    go_wp2_with fail
    refine TO.out.mono ?_
    rintro e w2 ⟨rfl, d2, k2⟩
    obtain ⟨r2, hx2, flt, blt, FF⟩ := TAIL.out w2 d2 k2
    replace FF := Lib.hid FF
    have b0 := cell_of_row w2 bx 0 _ 33 (0, 0) hx2
    have b1 := cell_of_row w2 bx 1 _ 33 (0, 0) hx2
    have b2 := cell_of_row w2 bx 2 _ 33 (0, 0) hx2
    have b3 := cell_of_row w2 bx 3 _ 33 (0, 0) hx2
    simp at b0 b1 b2 b3
    have c1 := r2.c1
    have f1 := r2.fz 1
    have KB : Hid (∀ W : World, Below w2.heap.size w2 W → W.ownsRow 0 118 6 v L.length (seC L)) := Lib.hid fun W hW => own_keep r2.its hW
    have R2 := Lib.hid r2
    clear d2 k2 r2 hx2 TO N c0 e0
    have KN : Hid (∀ W : World, W.heap[w2.heap.size]? = some (.cells #[.int .i64 ((nxt T : Int) + 1), .int .i64 2, .string t, .string x, .int .i64 2, .bool r] 118 (0, 0)) → ∀ j u, (Se.cells ⟨(nxt T : Int) + 1, 2, t, x, 2, r⟩)[j]? = some u → W.cell? ((⟨w2.heap.size, 0, none⟩ : Addr).add j) = some u) := Lib.hid (by
      intro W hW j u hj
      have := cell_of_row W w2.heap.size j _ 118 (0, 0) hW
      rw [add_off', Nat.zero_add, this, ← hj]
      simp [Se.cells])
    go_wp2_with fail
    go_region_law (go_must (refine step_append_lies _ rfl (.tmp 32) (.tmp 37) 97 rfl 0 118 i3 zS 6 64 Tryz.underlying97 hi3 hz0 hz1 hz2 rfl (by decide) v L.length (seC L) rfl (KB.out _ (by first | exact ext_alloc w2 _ | exact ext_trans (ext_alloc w2 _) (ext_drew _) | exact ext_trans (ext_drew w2) (ext_alloc w2.drew _))) ⟨w2.heap.size, 0, none⟩ 1 1 (Se.cells ⟨(nxt T : Int) + 1, 2, t, x, 2, r⟩) rfl rfl (KN.out _ (by first | exact heap_alloc_new w2 _ | exact heap_alloc_new w2.drew _)) (by intro u hu; simp [Se.cells] at hu; rcases hu with rfl | rfl | rfl | rfl | rfl | rfl <;> rfl) (by decide) (by unfold maxLen; omega) (by omega) (by simp) (w2.heap.size + 1) (by simp) ?_); intro gg cap w3 hown1 hgrow hat hlt1; have hc1 := (hgrow.cell_far ⟨f, 1, none⟩ (by simp; omega) (Ne.symm hvf)); have hf1 := (hgrow.frozen_far ⟨f, 1, none⟩ (by simp; omega) (Ne.symm hvf)); replace hat := Lib.hid hat; replace hgrow := Lib.hid hgrow; replace hown1 := Lib.hid hown1)
    all_goals go_wp2
    all_goals go_ret2
    all_goals exact ⟨rfl, FF.out _ _ (way_end R2.out (by first | exact ext_trans (ext_alloc w2 _) (ext_drew _) | exact ext_alloc w2 _ | exact ext_trans (ext_drew w2) (ext_alloc w2.drew _)) hgrow.out hown1.out hat.out)⟩
end
end Go.Proofs.YtceiipcdkonnlaaGreat.Fli
