/-
  LAYER 23: keep.
-/
import Derived.Test.YtceiipcdkonnlaaGreatFb
namespace Go.Proofs.YtceiipcdkonnlaaGreat.Fli
set_option linter.unusedSimpArgs false
set_option linter.unusedVariables false
open Go.RowKit Que Hp Ids
theorem stp_any (e : Se) (id : Int) (p : Nat) (w : World) (hp : w.cell? ⟨p, 0, none⟩ = some (.int .i64 id)) : Calls Tryz.prog 81 #[.agg #[.int .i64 e.i, .int .i64 e.s, .string e.t, .string e.x, .int .i64 e.q, .bool e.r], .pointer (some ⟨p, 0, none⟩)] w fun x w' => x = .returned (.bool (e.i != id)) ∧ Below w.heap.size w w' := by
  have hp2 := ((ext_alloc w (.cells #[.int .i64 e.i, .int .i64 e.s, .string e.t, .string e.x, .int .i64 e.q, .bool e.r] 118)).cell (p := ⟨p, 0, none⟩) (World.block_lt_of_cell? w _ hp)).trans hp
  obtain ⟨ei, es, et, ex, eq, er⟩ := e
  simp only at hp2 ⊢
  go_enter Tryz.func81, Tryz.ntmps81
  go_wp2
  go_ret
  exact ⟨rfl, ext_alloc _ _⟩
def oth (id : Int) (L : List Se) : List Se := L.filter fun e => e.i != id
theorem oth_snoc (id : Int) (L : List Se) (k : Nat) (e : Se) (h : L[k]? = some e) : oth id (L.take (k + 1)) = if e.i != id then oth id (L.take k) ++ [e] else oth id (L.take k) := by
  unfold oth
  obtain ⟨hk, rfl⟩ := List.getElem?_eq_some_iff.1 h
  rw [List.take_succ_eq_append_getElem hk, List.filter_append]
  by_cases hb : (L[k].i != id) = true
  · rw [if_pos hb]; simp [hb]
  · rw [if_neg hb]; simp [hb]
theorem oth_len (id : Int) (L : List Se) : (oth id L).length ≤ L.length := List.length_filter_le _ _
section
variable {w w' : World} {f g : Nat} {v : Value} {L : List Se}
theorem keep_end {W : World} {v' : Value} {L' : List Se} (h : Fw 0 w f g v L) (hb : Below w.heap.size w W) (o : W.ownsRow w.heap.size 118 6 v' L'.length (seC L')) : WNew w (W.setCell ⟨f, 1, none⟩ v') f g v L' v' := by
  have R1 := (hb.block f h.lt).trans h.row
  have GG : W.grownBy (W.setCell ⟨f, 1, none⟩ v') (some f) := set_grownX
  refine ⟨⟨by simpa using setF R1 (j := 1) v', own_base (own_grown o R1 (by decide) GG) (Nat.zero_le _)⟩, ?_, fun k hk => .inr (o.lt k hk).1⟩
  exact (Far.of_ext hb).trans (Far.of_grown (S := SF f v) GG (fun k _ e => .inl (by simpa using e.symm))) (fun k _ h => h)
set_option maxHeartbeats 8000000 in
set_option maxRecDepth 100000 in
theorem keep_any (h : Fw 0 w f g v L) (hL : L.length ≤ 8) (id : Int) (p : Nat) (hp : w.cell? ⟨p, 0, none⟩ = some (.int .i64 id)) : Calls Tryz.prog 80 #[.pointer (some ⟨f, 0, none⟩), .func (.func 81) #[] #[.pointer (some ⟨p, 0, none⟩)]] w fun e w' => e = .returned (.tuple #[]) ∧ ∃ v', WNew w w' f g v (oth id L) v' := by
  obtain ⟨i3, hi3, hz0, hz1, hz2⟩ := info_parts info103
  have hplt := World.block_lt_of_cell? w _ hp
  have IS := Lib.hid (fun (e : Se) W (hW : Below w.heap.size w W) => stp_any e id p W ((hW.cell (p := ⟨p, 0, none⟩) hplt).trans hp))
  have c1 := h.c1
  have f1 := h.fz 1
  have flt := h.lt
  obtain ⟨a, c, rfl⟩ := own_slice h.its
  have hL' : (L.length : Int) ≤ 8 := by omega
  replace h := Lib.hid h
  go_enter Tryz.func80, Tryz.ntmps80
  go_wp2_with fail
  go_loopw [4, 12] (fun v iv wr => ∃ k : Nat, iv = .int .i64 (k : Int) ∧ k ≤ L.length ∧ wr.ownsRow w.heap.size 118 6 v (oth id (L.take k)).length (seC (oth id (L.take k))) ∧ Below w.heap.size w wr) (fun _ iv _ => L.length - (intOf iv).toNat)
  case atStart => exact ⟨0, rfl, by omega, World.ownsRow_nil _ _ _ _, Below.refl _ _⟩
  case round =>
    obtain ⟨k, rfl, hk, o, hb⟩ := hrel
    have HB := Lib.hid hb
    have hll : (oth id (L.take k)).length ≤ 8 := Nat.le_trans (oth_len id (L.take k)) (by rw [List.length_take]; omega)
    obtain ⟨M, hM⟩ : ∃ M, M = oth id (L.take k) := ⟨_, rfl⟩
    rw [← hM] at o hll
    obtain ⟨va, vc, rfl⟩ := own_slice o
    by_cases hlt : k < L.length
    · have hlt' : (k : Int) < (L.length : Int) := by omega
      obtain ⟨e, he⟩ : ∃ e, L[k]? = some e := ⟨_, List.getElem?_eq_getElem hlt⟩
      obtain ⟨gb, cb, hv⟩ := own_slice' h.out.its (by omega)
      obtain ⟨q0, q1, q2, q3, q4, q5⟩ := (h.out.keep hb).at hv he
      simp only [Value.slice.injEq] at hv
      obtain ⟨rfl, -, rfl⟩ := hv
      have sz := hb.size
      have hba := ext_alloc wr (.cells #[.int .i64 e.i, .int .i64 e.s, .string e.t, .string e.x, .int .i64 e.q, .bool e.r] 118)
      have I := IS.out e _ (ext_trans hb hba)
      have E := oth_snoc id L k e he
      rw [← hM] at E
      replace hM := Lib.hid hM
      cases hne : (e.i != id)
      · rw [hne] at I E
        rw [if_neg (by simp)] at E
        replace I := Lib.hid I
        replace E := Lib.hid E
        replace hne := Lib.hid hne
        replace hba := Lib.hid hba
        replace o := Lib.hid o
        clear hb he
        go_wp2_with fail
        refine I.out.mono ?_
        rintro x w2 ⟨rfl, b2⟩
        have B2 := Lib.hid (ext_trans hba.out b2)
        clear b2 I
        go_wp2_with fail
        go_roundw
        case rel => exact ⟨k + 1, by simp, by omega, by rw [E.out]; exact own_keep o.out B2.out, ext_trans HB.out B2.out⟩
        case measure => simp [intOf]; omega
      · rw [hne] at I E
        rw [if_pos rfl] at E
        replace I := Lib.hid I
        replace E := Lib.hid E
        replace hne := Lib.hid hne
        have hrw := heap_alloc_new wr (.cells #[.int .i64 e.i, .int .i64 e.s, .string e.t, .string e.x, .int .i64 e.q, .bool e.r] 118)
        have hlt1 : wr.heap.size < (wr.alloc (.cells #[.int .i64 e.i, .int .i64 e.s, .string e.t, .string e.x, .int .i64 e.q, .bool e.r] 118)).heap.size := by simp
        replace hrw := Lib.hid hrw
        replace hlt1 := Lib.hid hlt1
        replace hba := Lib.hid hba
        replace o := Lib.hid o
        clear hb he
        go_wp2_with fail
        refine I.out.mono ?_
        rintro x w2 ⟨rfl, b2⟩
        have B2 := Lib.hid (ext_trans hba.out b2)
        have r2 := (b2.block _ hlt1.out).trans hrw.out
        have b0 := cell_of_row w2 wr.heap.size 0 _ 118 (0, 0) r2
        have b1 := cell_of_row w2 wr.heap.size 1 _ 118 (0, 0) r2
        have b2' := cell_of_row w2 wr.heap.size 2 _ 118 (0, 0) r2
        have b3 := cell_of_row w2 wr.heap.size 3 _ 118 (0, 0) r2
        have b4 := cell_of_row w2 wr.heap.size 4 _ 118 (0, 0) r2
        have b5 := cell_of_row w2 wr.heap.size 5 _ 118 (0, 0) r2
        simp at b0 b1 b2' b3 b4 b5
        have oA := Lib.hid (own_keep (own_keep o.out B2.out) (ext_alloc w2 (.cells #[.int .i64 e.i, .int .i64 e.s, .string e.t, .string e.x, .int .i64 e.q, .bool e.r] 118)))
        have sz2 : w.heap.size ≤ w2.heap.size := Nat.le_trans sz B2.out.size
        have hnew : Hid (∀ j u, e.cells[j]? = some u → (w2.alloc (.cells #[.int .i64 e.i, .int .i64 e.s, .string e.t, .string e.x, .int .i64 e.q, .bool e.r] 118)).cell? ((⟨w2.heap.size, 0, none⟩ : Addr).add j) = some u) := Lib.hid (by
          intro j u hj
          have := cell_of_row (w2.alloc (.cells #[.int .i64 e.i, .int .i64 e.s, .string e.t, .string e.x, .int .i64 e.q, .bool e.r] 118)) w2.heap.size j _ 118 (0, 0) (heap_alloc_new w2 _)
          rw [add_off', Nat.zero_add, this, ← hj]
          simp [Se.cells])
        clear b2 I r2
        go_wp2_with (first
          | (at_builtin; go_must (refine wpList_append_own _ rfl (.tmp 19) (.tmp 21) 97 rfl w.heap.size 118 i3 zS 6 64 Tryz.underlying97 hi3 hz0 hz1 hz2 rfl (by decide) (.slice va M.length vc) M.length (seC M) rfl oA.out ⟨w2.heap.size, 0, none⟩ 1 1 e.cells rfl rfl hnew.out (by intro u hu; simp [Se.cells] at hu; rcases hu with rfl | rfl | rfl | rfl | rfl | rfl <;> rfl) (by unfold maxLen; omega) (by omega) (by simp; omega) ?_); intro v3 w3 o3 g3 _))
        go_roundw
        case rel => exact ⟨k + 1, by simp, by omega, by rw [E.out, seC_snoc]; simpa using o3, (((HB.out.trans (B2.out.mono sz)).alloc sz2 _).grown g3 (by simp; omega) (fun j hj => (oA.out.lt j hj).1))⟩
        case measure => simp [intOf]; omega
    · obtain rfl : k = L.length := by omega
      rw [List.take_length] at hM
      subst hM
      have c1' := (hb.cell (p := ⟨f, 1, none⟩) flt).trans c1
      have f1' := (hb.frozen (p := ⟨f, 1, none⟩) flt).trans f1
      have Z := Lib.hid (keep_end h.out hb o)
      clear hb hk IS o
      go_wp2_with fail
      go_end0
      exact ⟨rfl, _, Z.out⟩
end
end Go.Proofs.YtceiipcdkonnlaaGreat.Fli

/-
  LAYER 23: step by Ack.
-/
namespace Go.Proofs.YtceiipcdkonnlaaGreat.Fli
set_option linter.unusedSimpArgs false
set_option linter.unusedVariables false
open Go.RowKit Que Hp Ids
theorem oth_one {id : Int} {L : List Se} (hn : L.Pairwise fun x y => x.i ≠ y.i) {e : Se} (he : e ∈ L) (hi : e.i = id) : (oth id L).length + 1 = L.length := by
  induction L with
  | nil => cases he
  | cons x L ih =>
    rw [List.pairwise_cons] at hn
    unfold oth
    rw [List.filter_cons]
    rcases List.mem_cons.1 he with he | he
    · subst he
      rw [if_neg (by simp [hi]), List.filter_eq_self.2 (fun y hy => by have := hn.1 y hy; simp; rw [← hi]; exact Ne.symm this)]
      rfl
    · rw [if_pos (by have := hn.1 e he; simp; rw [← hi]; exact this), List.length_cons, List.length_cons]
      have := ih hn.2 he
      unfold oth at this
      omega
/-- The one of a number. -/
theorem Fs.gone {A : Nat → Prop} {w w2 w3 w4 : World} {f g : Nat} {T : List Bool} {L : List Se} {v v' : Value} {e : Se} {j : Nat} (h : Fs A w f g T L) (d : Ds (AF A f v) w2 g 8 T) (b2 : Below w.heap.size w w2) (av : ∀ k, A k → k < w.heap.size ∧ k ≠ f ∧ v.ownBlock ≠ some k) (n : WNew w2 w3 f g v (oth e.i L) v') (he : e ∈ L) (hj : e.i = (j : Int) + 1)
    (d4 : Ds (AF A f v') w4 g 8 (T.set j false)) (k4 : Kp (AF A f v') w3 w4) (hjT : j < T.length) (hjt : T.getD j false = true) : Fs A w4 f g (T.set j false) (oth e.i L) ∧ Kp A w w4 := by
  have r4 := n.r.far k4 (fun e => e (.inr (.inl rfl))) (fun k hk e => e (.inr (.inr hk)))
  have hA3 : ∀ k, A k → k < w3.heap.size ∧ k ≠ f ∧ v'.ownBlock ≠ some k := fun k hk => by
    have h1 := (av k hk).1
    have z2 := b2.size
    have z3 := n.far.size
    refine ⟨by omega, (av k hk).2.1, fun e => ?_⟩
    rcases n.nb k e with e | e
    · exact (av k hk).2.2 e
    · omega
  refine ⟨⟨⟨v', r4, d4, fun k hk => ⟨Nat.lt_of_lt_of_le (hA3 k hk).1 k4.size, (hA3 k hk).2⟩⟩, fun x hx => ?_, List.Pairwise.sublist List.filter_sublist h.nd, ?_⟩, ?_⟩
  · obtain ⟨hx1, hx2⟩ := List.mem_filter.1 hx
    obtain ⟨i, h1, h2⟩ := h.ids x hx1
    refine ⟨i, h1, ?_⟩
    have hne : i ≠ j := fun e2 => by subst e2; rw [h1, ← hj] at hx2; simp at hx2
    rw [getD_set hjT, if_neg hne]; exact h2
  · have h1 := (trues_set_false hjT (by rw [getD_tf hjT]; exact hjt))
    have h2 := oth_one h.nd he rfl
    have h3 := h.tr
    omega
  · refine ((Kp.of_ext b2).trans (n.far.mono (fun k _ hk hA => ?_))).trans (k4.mono (fun k _ hk hA => hk (.inl hA)))
    rcases hk with e | e
    · exact (av k hA).2.1 e
    · exact (av k hA).2.2 e
set_option maxHeartbeats 4000000 in
set_option maxRecDepth 100000 in
theorem ack_none {A : Nat → Prop} {w : World} {f g : Nat} {T : List Bool} {L : List Se} (h : Fs A w f g T L) (id : Int) (hn : ∀ e ∈ L, e.i ≠ id) : Calls Tryz.prog 69 #[.pointer (some ⟨f, 0, none⟩), .int .i64 id, .func (.func 70) #[] #[]] w fun e w' => e = .returned (.bool false) ∧ Below w.heap.size w w' := by
  obtain ⟨v, r, d, av⟩ := h.ex
  have hL := h.le
  have hb0 := ext_alloc w (.cells #[.int .i64 id] 3)
  have N := Lib.hid (none_any (r.keep hb0))
  have c1 := (r.keep hb0).c1
  have hbx : (w.alloc (.cells #[.int .i64 id] 3)).cell? ⟨w.heap.size, 0, none⟩ = some (.int .i64 id) := by simp
  have hsz : w.heap.size < (w.alloc (.cells #[.int .i64 id] 3)).heap.size := by simp
  have R1 := r.keep hb0
  obtain ⟨a, c, hv⟩ := own_slice r.its
  rw [hv] at c1
  have hL' : (L.length : Int) ≤ 8 := by omega
  replace hv := Lib.hid hv
  replace R1 := Lib.hid R1
  replace hb0 := Lib.hid hb0
  replace hn := Lib.hid hn
  clear h r d av
  go_enter Tryz.func69, Tryz.ntmps69
  go_wp2_with fail
  refine N.out.mono ?_
  rintro e w1 ⟨rfl, rfl⟩
  generalize w.alloc (.cells #[.int .i64 id] 3) = w1 at *
  go_wp2_with fail
  go_loopw [18] (fun iv wr => ∃ k : Nat, iv = .int .i64 (k : Int) ∧ k ≤ L.length ∧ Below w1.heap.size w1 wr) (fun iv _ => L.length - (intOf iv).toNat)
  case atStart => exact ⟨0, rfl, by omega, Below.refl _ _⟩
  case round =>
    obtain ⟨k, rfl, hk, hb⟩ := hrel
    have HB := Lib.hid hb
    by_cases hlt : k < L.length
    · have hlt' : (k : Int) < (L.length : Int) := by omega
      obtain ⟨e, he⟩ : ∃ e, L[k]? = some e := ⟨_, List.getElem?_eq_getElem hlt⟩
      obtain ⟨gb, cb, hv2⟩ := own_slice' R1.out.its (by omega)
      obtain ⟨q0, q1, q2, q3, q4, q5⟩ := (R1.out.keep hb).at hv2 he
      rw [hv.out] at hv2
      simp only [Value.slice.injEq] at hv2
      obtain ⟨rfl, -, rfl⟩ := hv2
      have bx := (hb.cell (p := ⟨w.heap.size, 0, none⟩) hsz).trans hbx
      have bx2 := ((ext_alloc wr (.cells #[.int .i64 e.i, .int .i64 e.s, .string e.t, .string e.x, .int .i64 e.q, .bool e.r] 118)).cell (p := ⟨w.heap.size, 0, none⟩) (World.block_lt_of_cell? wr _ bx)).trans bx
      have hne : (e.i != id) = true := by have := hn.out e (List.mem_of_getElem? he); simpa using this
      have B2 := Lib.hid (ext_trans hb (ext_alloc wr (.cells #[.int .i64 e.i, .int .i64 e.s, .string e.t, .string e.x, .int .i64 e.q, .bool e.r] 118)))
      clear hb he bx
      go_wp2_with fail
      go_roundw
      case rel => exact ⟨k + 1, by simp, by omega, B2.out⟩
      case measure => simp [intOf]; omega
    · obtain rfl : k = L.length := by omega
      clear hb hk
      go_wp2_with fail
      go_ret
      exact ⟨rfl, ext_trans hb0.out HB.out⟩
set_option maxHeartbeats 8000000 in
set_option maxRecDepth 100000 in
theorem ack_no {A : Nat → Prop} {w : World} {f g : Nat} {T : List Bool} {L : List Se} (h : Fs A w f g T L) {q : Nat} {e : Se} (hq : L[q]? = some e) (hok : (e.s == 1) = false) : Calls Tryz.prog 69 #[.pointer (some ⟨f, 0, none⟩), .int .i64 e.i, .func (.func 70) #[] #[]] w fun x w' => x = .returned (.bool false) ∧ Below w.heap.size w w' := by
  obtain ⟨v, r, d, av⟩ := h.ex
  have hL := h.le
  have hb0 := ext_alloc w (.cells #[.int .i64 e.i] 3)
  have N := Lib.hid (none_any (r.keep hb0))
  have c1 := (r.keep hb0).c1
  have hbx : (w.alloc (.cells #[.int .i64 e.i] 3)).cell? ⟨w.heap.size, 0, none⟩ = some (.int .i64 e.i) := by simp
  have hsz : w.heap.size < (w.alloc (.cells #[.int .i64 e.i] 3)).heap.size := by simp
  have R1 := r.keep hb0
  have D1 := Lib.hid (d.ext hb0)
  have vlt := Lib.hid (fun k (hk : v.ownBlock = some k) => (r.its.lt k hk).2)
  have flt := r.lt
  obtain ⟨a, c, hv⟩ := own_slice r.its
  rw [hv] at c1
  have hL' : (L.length : Int) ≤ 8 := by omega
  have hqL : q < L.length := (List.getElem?_eq_some_iff.1 hq).1
  have NE : Hid (∀ i x, i < q → L[i]? = some x → (x.i != e.i) = true) := Lib.hid fun i x hi hx => by
    obtain ⟨h1, rfl⟩ := List.getElem?_eq_some_iff.1 hx
    obtain ⟨h2, rfl⟩ := List.getElem?_eq_some_iff.1 hq
    have := List.pairwise_iff_getElem.1 h.nd i q h1 h2 hi
    simpa using this
  have H := Lib.hid h
  replace av := Lib.hid av
  replace hv := Lib.hid hv
  replace R1 := Lib.hid R1
  replace hb0 := Lib.hid hb0
  clear h r d
  go_enter Tryz.func69, Tryz.ntmps69
  go_wp2_with fail
  refine N.out.mono ?_
  rintro x w1 ⟨rfl, rfl⟩
  generalize w.alloc (.cells #[.int .i64 e.i] 3) = w1 at *
  go_wp2_with fail
  go_loopw [18] (fun iv wr => ∃ k : Nat, iv = .int .i64 (k : Int) ∧ k ≤ q ∧ Below w1.heap.size w1 wr) (fun iv _ => L.length - (intOf iv).toNat)
  case atStart => exact ⟨0, rfl, by omega, Below.refl _ _⟩
  case round =>
    obtain ⟨k, rfl, hk, hb⟩ := hrel
    have HB := Lib.hid hb
    have hlt : k < L.length := by omega
    have hlt' : (k : Int) < (L.length : Int) := by omega
    obtain ⟨y, he⟩ : ∃ e, L[k]? = some e := ⟨_, List.getElem?_eq_getElem hlt⟩
    obtain ⟨gb, cb, hv2⟩ := own_slice' R1.out.its (by omega)
    obtain ⟨q0, q1, q2, q3, q4, q5⟩ := (R1.out.keep hb).at hv2 he
    have hvX := hv2
    rw [hv.out] at hv2
    simp only [Value.slice.injEq] at hv2
    obtain ⟨rfl, -, rfl⟩ := hv2
    have bx := (hb.cell (p := ⟨w.heap.size, 0, none⟩) hsz).trans hbx
    by_cases hkq : k < q
    · have bx2 := ((ext_alloc wr (.cells #[.int .i64 y.i, .int .i64 y.s, .string y.t, .string y.x, .int .i64 y.q, .bool y.r] 118)).cell (p := ⟨w.heap.size, 0, none⟩) (World.block_lt_of_cell? wr _ bx)).trans bx
      have hne := NE.out k y hkq he
      have B2 := Lib.hid (ext_trans hb (ext_alloc wr (.cells #[.int .i64 y.i, .int .i64 y.s, .string y.t, .string y.x, .int .i64 y.q, .bool y.r] 118)))
      clear hb he bx hvX
      go_wp2_with fail
      go_roundw
      case rel => exact ⟨k + 1, by simp, by omega, B2.out⟩
      case measure => simp [intOf]; omega
    · obtain rfl : k = q := by omega
      rw [hq] at he
      obtain rfl : e = y := by simpa using he
      have hba := ext_alloc wr (.cells #[.int .i64 e.i, .int .i64 e.s, .string e.t, .string e.x, .int .i64 e.q, .bool e.r] 118)
      have bx2 := (hba.cell (p := ⟨w.heap.size, 0, none⟩) (World.block_lt_of_cell? wr _ bx)).trans bx
      have rr : (wr.alloc (.cells #[.int .i64 e.i, .int .i64 e.s, .string e.t, .string e.x, .int .i64 e.q, .bool e.r] 118)).heap[wr.heap.size]? = some (.cells #[.int .i64 e.i, .int .i64 e.s, .string e.t, .string e.x, .int .i64 e.q, .bool e.r] 118 (0, 0)) := heap_alloc_new wr _
      have NX := ack_any e (wr.alloc (.cells #[.int .i64 e.i, .int .i64 e.s, .string e.t, .string e.x, .int .i64 e.q, .bool e.r] 118))
      rw [hok] at NX
      replace NX := Lib.hid NX
      have hlt2 : w.heap.size < (wr.alloc (.cells #[.int .i64 e.i, .int .i64 e.s, .string e.t, .string e.x, .int .i64 e.q, .bool e.r] 118)).heap.size := Nat.lt_of_lt_of_le (World.block_lt_of_cell? wr _ bx) hba.size
      replace hba := Lib.hid (ext_trans hb hba)
      replace rr := Lib.hid rr
      clear hb he bx hkq hk
      go_wp2_with fail
      refine NX.out.mono ?_
      rintro x w2 ⟨rfl, b2⟩
      have B2 := Lib.hid (ext_trans hb0.out (ext_trans hba.out b2))
      clear b2
      go_wp2_with fail
      go_ret
      exact ⟨rfl, B2.out⟩
set_option maxHeartbeats 8000000 in
set_option maxRecDepth 100000 in
theorem ack_yes {A : Nat → Prop} {w : World} {f g : Nat} {T : List Bool} {L : List Se} (h : Fs A w f g T L) {q : Nat} {e : Se} (hq : L[q]? = some e) (hok : (e.s == 1) = true) : Calls Tryz.prog 69 #[.pointer (some ⟨f, 0, none⟩), .int .i64 e.i, .func (.func 70) #[] #[]] w fun x w' => x = .returned (.bool true) ∧ ∃ T' L', L' = oth e.i L ∧ Fs A w' f g T' L' ∧ Kp A w w' := by
  obtain ⟨v, r, d, av⟩ := h.ex
  have hL := h.le
  have hb0 := ext_alloc w (.cells #[.int .i64 e.i] 3)
  have N := Lib.hid (none_any (r.keep hb0))
  have c1 := (r.keep hb0).c1
  have hbx : (w.alloc (.cells #[.int .i64 e.i] 3)).cell? ⟨w.heap.size, 0, none⟩ = some (.int .i64 e.i) := by simp
  have hsz : w.heap.size < (w.alloc (.cells #[.int .i64 e.i] 3)).heap.size := by simp
  have R1 := r.keep hb0
  have D1 := Lib.hid (d.ext hb0)
  have vlt := Lib.hid (fun k (hk : v.ownBlock = some k) => (r.its.lt k hk).2)
  have flt := r.lt
  obtain ⟨a, c, hv⟩ := own_slice r.its
  rw [hv] at c1
  have hL' : (L.length : Int) ≤ 8 := by omega
  have hqL : q < L.length := (List.getElem?_eq_some_iff.1 hq).1
  have NE : Hid (∀ i x, i < q → L[i]? = some x → (x.i != e.i) = true) := Lib.hid fun i x hi hx => by
    obtain ⟨h1, rfl⟩ := List.getElem?_eq_some_iff.1 hx
    obtain ⟨h2, rfl⟩ := List.getElem?_eq_some_iff.1 hq
    have := List.pairwise_iff_getElem.1 h.nd i q h1 h2 hi
    simpa using this
  have H := Lib.hid h
  replace av := Lib.hid av
  replace hv := Lib.hid hv
  replace R1 := Lib.hid R1
  replace hb0 := Lib.hid hb0
  clear h r d
  go_enter Tryz.func69, Tryz.ntmps69
  go_wp2_with fail
  refine N.out.mono ?_
  rintro x w1 ⟨rfl, rfl⟩
  generalize w.alloc (.cells #[.int .i64 e.i] 3) = w1 at *
  go_wp2_with fail
  go_loopw [18] (fun iv wr => ∃ k : Nat, iv = .int .i64 (k : Int) ∧ k ≤ q ∧ Below w1.heap.size w1 wr) (fun iv _ => L.length - (intOf iv).toNat)
  case atStart => exact ⟨0, rfl, by omega, Below.refl _ _⟩
  case round =>
    obtain ⟨k, rfl, hk, hb⟩ := hrel
    have HB := Lib.hid hb
    have hlt : k < L.length := by omega
    have hlt' : (k : Int) < (L.length : Int) := by omega
    obtain ⟨y, he⟩ : ∃ e, L[k]? = some e := ⟨_, List.getElem?_eq_getElem hlt⟩
    obtain ⟨gb, cb, hv2⟩ := own_slice' R1.out.its (by omega)
    obtain ⟨q0, q1, q2, q3, q4, q5⟩ := (R1.out.keep hb).at hv2 he
    have hvX := hv2
    rw [hv.out] at hv2
    simp only [Value.slice.injEq] at hv2
    obtain ⟨rfl, -, rfl⟩ := hv2
    have bx := (hb.cell (p := ⟨w.heap.size, 0, none⟩) hsz).trans hbx
    by_cases hkq : k < q
    · have bx2 := ((ext_alloc wr (.cells #[.int .i64 y.i, .int .i64 y.s, .string y.t, .string y.x, .int .i64 y.q, .bool y.r] 118)).cell (p := ⟨w.heap.size, 0, none⟩) (World.block_lt_of_cell? wr _ bx)).trans bx
      have hne := NE.out k y hkq he
      have B2 := Lib.hid (ext_trans hb (ext_alloc wr (.cells #[.int .i64 y.i, .int .i64 y.s, .string y.t, .string y.x, .int .i64 y.q, .bool y.r] 118)))
      clear hb he bx hvX
      go_wp2_with fail
      go_roundw
      case rel => exact ⟨k + 1, by simp, by omega, B2.out⟩
      case measure => simp [intOf]; omega
    · obtain rfl : k = q := by omega
      rw [hq] at he
      obtain rfl : e = y := by simpa using he
      have hba := ext_alloc wr (.cells #[.int .i64 e.i, .int .i64 e.s, .string e.t, .string e.x, .int .i64 e.q, .bool e.r] 118)
      have bx2 := (hba.cell (p := ⟨w.heap.size, 0, none⟩) (World.block_lt_of_cell? wr _ bx)).trans bx
      have rr : (wr.alloc (.cells #[.int .i64 e.i, .int .i64 e.s, .string e.t, .string e.x, .int .i64 e.q, .bool e.r] 118)).heap[wr.heap.size]? = some (.cells #[.int .i64 e.i, .int .i64 e.s, .string e.t, .string e.x, .int .i64 e.q, .bool e.r] 118 (0, 0)) := heap_alloc_new wr _
      have NX := ack_any e (wr.alloc (.cells #[.int .i64 e.i, .int .i64 e.s, .string e.t, .string e.x, .int .i64 e.q, .bool e.r] 118))
      rw [hok] at NX
      replace NX := Lib.hid NX
      have hlt2 : w.heap.size < (wr.alloc (.cells #[.int .i64 e.i, .int .i64 e.s, .string e.t, .string e.x, .int .i64 e.q, .bool e.r] 118)).heap.size := Nat.lt_of_lt_of_le (World.block_lt_of_cell? wr _ bx) hba.size
      replace hba := Lib.hid (ext_trans hb hba)
      replace rr := Lib.hid rr
      clear hb he bx hkq hk
      go_wp2_with fail
      refine NX.out.mono ?_
      rintro x w2 ⟨rfl, b2⟩
      have B2 := Lib.hid (ext_trans hba.out b2)
      have bx3 := (b2.cell (p := ⟨w.heap.size, 0, none⟩) hlt2).trans bx2
      obtain ⟨j, hj, hjt⟩ := H.out.ids e (List.mem_of_getElem? hq)
      have hjT : j < T.length := by
        apply Classical.byContradiction
        intro hn
        rw [List.getD_eq_getElem?_getD, List.getElem?_eq_none (by omega)] at hjt
        cases hjt
      have R2 := Lib.hid (R1.out.keep B2.out)
      have KE := Lib.hid (keep_any (R1.out.keep B2.out) hL e.i w.heap.size bx3)
      have D2 := Lib.hid (D1.out.ext B2.out)
      have f2 := R2.out.c0
      have hw2 : w.heap.size < w2.heap.size := World.block_lt_of_cell? w2 _ bx3
      have hwf : w.heap.size ≠ f := by omega
      clear b2 bx2 hlt2 rr hba NX
      go_wp2_with fail
      refine KE.out.mono ?_
      rintro x w3 ⟨rfl, v', n3⟩
      have far3 := n3.far
      have bx4 : w3.cell? ⟨w.heap.size, 0, none⟩ = some (.int .i64 e.i) := by
        rw [← bx3]
        have := far3.block w.heap.size hw2 (fun hh => hh.elim (fun e => hwf e) (fun e => by have := vlt.out _ e; omega))
        simp only [World.cell?, this]
      have f3 := n3.r.c0
      have d3 : Ds (AF A f v') w3 g 8 T := Ds.others D2.out far3 (fun k hk => hk.elim (fun e => .inr (.inl e)) (fun e => .inr (.inr e))) (fun k hk => by
        rcases hk with hk | hk | hk
        · exact .inl (.inl hk)
        · exact .inl (.inr (.inl hk))
        · rcases n3.nb k hk with e | e
          · exact .inl (.inr (.inr e))
          · exact .inr ⟨e, (n3.r.its.lt k hk).2⟩)
      have GV : Hid (∀ n, Calls Tryz.prog 82 #[.pointer (some ⟨g, 0, none⟩), .int .i64 e.i] (w3.drewN n) fun x w' => x = .returned (.int .i64 0) ∧ ∃ T' L', L' = oth e.i L ∧ Fs A w' f g T' L' ∧ Kp A w w') := Lib.hid fun n => by
        have GO := give_ok (d3.ext (ext_drewN w3 n)) hjT hjt
        rw [← hj] at GO
        refine GO.mono ?_
        rintro x w4 ⟨rfl, d4, k4⟩
        obtain ⟨z1, z2⟩ := Fs.gone H.out D2.out (ext_trans hb0.out B2.out) av.out n3 (List.mem_of_getElem? hq) hj d4 ((Kp.of_ext (ext_drewN w3 n)).trans k4) hjT hjt
        exact ⟨rfl, _, _, rfl, z1, z2⟩
      clear n3 far3 d3 KE bx3 f2 hj
      go_wp2_with fail
      go_still_tail 5, (by kernel_rfl)
      repeat still_step
      change wpList _ _ _ _ _ w3.drew
      go_wp2_with fail
      refine (GV.out 1).mono ?_
      rintro x w4 ⟨rfl, T', L', q1, q2, q3⟩
      have Z : Hid (∃ T' L', L' = oth e.i L ∧ Fs A w4 f g T' L' ∧ Kp A w w4) := Lib.hid ⟨T', L', q1, q2, q3⟩
      clear q1 q2 q3 GV
      go_wp2_with fail
      go_ret
      exact ⟨rfl, Z.out⟩
end Go.Proofs.YtceiipcdkonnlaaGreat.Fli
