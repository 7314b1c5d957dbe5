/-
  LAYER 28: Deliver to a session that is not online; its queue.
-/
import Derived.Test.YtdcfenkllpfbaaaBc
namespace Go.Proofs.Ytdcfenkllpfbaaa.Sns
set_option linter.unusedVariables false
set_option linter.unusedSimpArgs false
open Go.Proofs.Ytdcfenkllpfbaaa
open Go.RowKit Que
variable {w w' : World} {s p g c : Nat} {cl : ByteArray} {cn : Bool} {l : List Mg} {lost : Int}
theorem ne_ty {x y : Nat} {a b : Array Value} {t u : TypeId} (hx : w.heap[x]? = some (.cells a t (0, 0))) (hy : w.heap[y]? = some (.cells b u (0, 0))) (h : t ≠ u) : x ≠ y := fun e => by
  subst e
  rw [hx] at hy
  simp only [Option.some.injEq, Obj.cells.injEq] at hy
  exact h hy.2.1
theorem ne_ch {x y : Nat} {a : Array Value} {t : TypeId} {o : Obj} (hx : w.heap[x]? = some (.cells a t (0, 0))) (hy : w.heap[y]? = some o) (h : ∀ c t p, o ≠ .cells c t p) : x ≠ y := fun e => by
  subst e
  rw [hx] at hy
  exact h _ _ _ (by simpa using hy.symm)
theorem Sn.apart (h : Sn w s p g cl cn) (q : Quu.Qu w g c 16 l lost) : s ≠ g ∧ s ≠ c ∧ p ≠ g ∧ p ≠ c := by
  obtain ⟨f, i, hp⟩ := h.prow
  obtain ⟨s0, r0, hc⟩ := q.ch
  exact ⟨ne_ty h.row q.row (by decide), ne_ch h.row hc (by intros; simp), ne_ty hp q.row (by decide), ne_ch hp hc (by intros; simp)⟩
theorem Sn.far {S : Nat → Prop} (h : Sn w s p g cl cn) (F : Far S w w') (h1 : ¬ S s) (h2 : ¬ S p) : Sn w' s p g cl cn := by
  obtain ⟨f, i, hp⟩ := h.prow
  exact ⟨(F.block s h.lts h1).trans h.row, f, i, (F.block p h.ltp h2).trans hp⟩
/-- What Deliver leaves. -/
def PutIs (w : World) (s p g c : Nat) (cl : ByteArray) (cn : Bool) (l : List Mg) (lost : Int) (m : Mg) (w' : World) : Prop :=
  Sn w' s p g cl cn ∧ Quu.Qu w' g c 16 (if l.length < 16 then l ++ [m] else l) (if l.length < 16 then lost else lost + 1) ∧ Far (fun k => k = g ∨ k = c) w w'
theorem put_any (h : Sn w s p g cl cn) (q : Quu.Qu w g c 16 l lost) (m : Mg) (hl0 : 0 ≤ lost) (hl1 : lost ≤ 1000000) :
    Calls Try.prog 31 #[.pointer (some ⟨g, 0, none⟩), .agg #[.string m.a0, .string m.a1, .int .i64 m.a2, .bool m.a3]] w fun e w' => e = .returned (.bool (decide (l.length < 16))) ∧ PutIs w s p g c cl cn l lost m w' := by
  obtain ⟨n1, n2, n3, n4⟩ := h.apart q
  by_cases hr : l.length < 16
  · refine (Quu.put_yes q m hr).mono ?_
    rintro e w' ⟨rfl, q1, g1⟩
    have F : Far (fun k => k = g ∨ k = c) w w' := Far.of_grown g1 (fun k _ e => .inr (by simpa using e.symm))
    unfold PutIs
    rw [if_pos hr, if_pos hr, decide_eq_true hr]
    exact ⟨rfl, h.far F (by omega) (by omega), q1, F⟩
  · refine (Quu.put_no q m (by omega) hl0 hl1).mono ?_
    rintro e w' ⟨rfl, q1, g1⟩
    have F : Far (fun k => k = g ∨ k = c) w w' := Far.of_grown g1 (fun k _ e => .inl (by simpa using e.symm))
    unfold PutIs
    rw [if_neg hr, if_neg hr, decide_eq_false hr]
    exact ⟨rfl, h.far F (by omega) (by omega), q1, F⟩
theorem PutIs.from {m : Mg} {w0 : World} (h : PutIs w s p g c cl cn l lost m w') (b : Below w0.heap.size w0 w) : PutIs w0 s p g c cl cn l lost m w' :=
  ⟨h.1, h.2.1, (Far.of_ext b).trans h.2.2 (fun k _ hk => hk)⟩
def DelIs (w : World) (s p g c : Nat) (cl : ByteArray) (cn : Bool) (l : List Mg) (lost : Int) (m : Mg) (e : Ending) (w' : World) : Prop :=
  ∃ v, e = .returned (.tuple #[.slice none 0 0, v]) ∧ PutIs w s p g c cl cn l lost m w'
theorem nog {k : Nat} {a : Array Value} (h : Sn w s p g cl cn) (q : Quu.Qu w g c 16 l lost) (hk : w.heap[k]? = some (.cells a 46 (0, 0))) : ¬ (k = g ∨ k = c) := by
  obtain ⟨s0, r0, hc⟩ := q.ch
  exact fun e => e.elim (ne_ty hk q.row (by decide)) (ne_ch hk hc (by intros; simp))
theorem msg_cells {m : Mg} {w0 w4 W : World} {bx : Nat} (h : PutIs w0 s p g c cl cn l lost m w4) (R : w4.heap[bx]? = some (.cells #[.string m.a0, .string m.a1, .int .i64 m.a2, .bool m.a3] 46 (0, 0))) (hb : Below w4.heap.size w4 W) :
    W.cell? ⟨s, 3, none⟩ = some (.pointer (some ⟨p, 0, none⟩)) ∧ W.cell? ⟨p, 0, none⟩ = some (.pointer (some ⟨g, 0, none⟩)) ∧ W.cell? ⟨bx, 0, none⟩ = some (.string m.a0) ∧ W.cell? ⟨bx, 1, none⟩ = some (.string m.a1) ∧ W.cell? ⟨bx, 2, none⟩ = some (.int .i64 m.a2) ∧ W.cell? ⟨bx, 3, none⟩ = some (.bool m.a3) := by
  have R' := (hb.block bx (Array.getElem?_eq_some_iff.1 R).1).trans R
  exact ⟨(h.1.ext hb).s3, (h.1.ext hb).p0, cell_of_row _ _ 0 _ 46 (0, 0) R', cell_of_row _ _ 1 _ 46 (0, 0) R', cell_of_row _ _ 2 _ 46 (0, 0) R', cell_of_row _ _ 3 _ 46 (0, 0) R'⟩
set_option maxHeartbeats 8000000 in
set_option maxRecDepth 100000 in
theorem deliver (h : Sn w s p g cl cn) (q : Quu.Qu w g c 16 l lost) (t x : ByteArray) (r : Bool) (hl0 : 0 ≤ lost) (hl1 : lost ≤ 1000000) :
    Calls Try.prog 15 #[.pointer (some ⟨s, 0, none⟩), .agg #[.string t, .string x, .int .i64 1, .bool r], .int .i64 1] w (DelIs w s p g c cl cn l lost ⟨t, x, 1, r⟩) := by
  have e0 := ext_alloc w (.cells #[.string t, .string x, .int .i64 1, .bool r] 46)
  have r0 := heap_alloc_new w (.cells #[.string t, .string x, .int .i64 1, .bool r] 46)
  have S1 := Lib.hid (h.ext e0)
  have Q1 := Lib.hid (q.keep e0)
  have N1 := Lib.hid (s_none (h.ext e0))
  have c0 : (w.alloc (.cells #[.string t, .string x, .int .i64 1, .bool r] 46)).cell? ⟨w.heap.size, 2, none⟩ = some (.int .i64 1) := cell_of_row _ _ 2 _ 46 (0, 0) r0
  have z0 := frozen_of_row _ w.heap.size 2 _ 46 r0
  have R1 := Lib.hid r0
  replace e0 := Lib.hid e0
  replace r0 := Lib.hid r0
  clear h q
  go_enter Try.func15, Try.ntmps15
  go_wp2_with fail
  refine N1.out.mono ?_
  rintro e w1 ⟨rfl, rfl⟩
  go_wp2_with fail
  have KO := Lib.hid (fun W (hb : Below (w.alloc (.cells #[.string t, .string x, .int .i64 1, .bool r] 46)).heap.size (w.alloc (.cells #[.string t, .string x, .int .i64 1, .bool r] 46)) W) => (show W.cell? ⟨s, 3, none⟩ = some (.pointer (some ⟨p, 0, none⟩)) ∧ W.cell? ⟨p, 0, none⟩ = some (.pointer (some ⟨g, 0, none⟩)) ∧ W.cell? ⟨w.heap.size, 0, none⟩ = some (.string t) ∧ W.cell? ⟨w.heap.size, 1, none⟩ = some (.string x) ∧ W.cell? ⟨w.heap.size, 2, none⟩ = some (.int .i64 1) ∧ W.cell? ⟨w.heap.size, 3, none⟩ = some (.bool r) from
    ⟨(S1.out.ext hb).s3, (S1.out.ext hb).p0, (hb.cell (by simp)).trans (cell_of_row _ _ 0 _ 46 (0, 0) R1.out), (hb.cell (by simp)).trans (cell_of_row _ _ 1 _ 46 (0, 0) R1.out), (hb.cell (by simp)).trans (cell_of_row _ _ 2 _ 46 (0, 0) R1.out), (hb.cell (by simp)).trans (cell_of_row _ _ 3 _ 46 (0, 0) R1.out)⟩))
  have SE := Lib.hid (fun W (hb : Below (w.alloc (.cells #[.string t, .string x, .int .i64 1, .bool r] 46)).heap.size (w.alloc (.cells #[.string t, .string x, .int .i64 1, .bool r] 46)) W) => (put_any (S1.out.ext hb) (Q1.out.keep hb) ⟨t, x, 1, r⟩ hl0 hl1).mono (fun e w' he => (⟨he.1, he.2.from (ext_trans e0.out hb), (he.2.2.2.block _ (Nat.lt_of_lt_of_le (by simp) hb.size) (nog (S1.out.ext hb) (Q1.out.keep hb) ((hb.block _ (by simp)).trans R1.out))).trans ((hb.block _ (by simp)).trans R1.out)⟩ : _ ∧ PutIs w s p g c cl cn l lost ⟨t, x, 1, r⟩ w' ∧ w'.heap[w.heap.size]? = some (.cells #[.string t, .string x, .int .i64 1, .bool r] 46 (0, 0)))))
  generalize hW1 : (w.alloc (.cells #[.string t, .string x, .int .i64 1, .bool r] 46)) = w1 at *
  go_region_held3 (fun W => W.cell? ⟨s, 3, none⟩ = some (.pointer (some ⟨p, 0, none⟩)) ∧ W.cell? ⟨p, 0, none⟩ = some (.pointer (some ⟨g, 0, none⟩)) ∧ W.cell? ⟨w.heap.size, 0, none⟩ = some (.string t) ∧ W.cell? ⟨w.heap.size, 1, none⟩ = some (.string x) ∧ W.cell? ⟨w.heap.size, 2, none⟩ = some (.int .i64 1) ∧ W.cell? ⟨w.heap.size, 3, none⟩ = some (.bool r))
    (first | exact KO.out _ (by first | exact Below.refl _ _ | exact ext_drew _ | assumption) | exact KA.out _ (by first | exact Below.refl _ _ | exact ext_drew _ | assumption))
    (first
      | (go_at_call 31; refine (SE.out _ (by first | exact Below.refl _ _ | exact ext_drew _ | assumption)).mono ?_; rintro e w4 ⟨rfl, p4⟩; have X4 : Hid (PutIs w s p g c cl cn l lost ⟨t, x, 1, r⟩ w4 ∧ w4.heap[w.heap.size]? = some (.cells #[.string t, .string x, .int .i64 1, .bool r] 46 (0, 0))) := Lib.hid p4; clear p4; have KA := Lib.hid (fun W (hb : Below w4.heap.size w4 W) => msg_cells (m := ⟨t, x, 1, r⟩) X4.out.1 X4.out.2 hb)))
  all_goals
    have FL := Lib.hid (s_fill X4.out.1.1)
    clear KA KO SE
    go_wp2_with fail
    refine FL.out.mono ?_
    rintro e w5 ⟨rfl, rfl⟩
    go_wp2_with fail
    go_ret2
    exact ⟨_, rfl, X4.out.1⟩
end Go.Proofs.Ytdcfenkllpfbaaa.Sns
