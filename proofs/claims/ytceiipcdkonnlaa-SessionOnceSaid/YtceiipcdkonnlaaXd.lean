/-
  LAYER 25: Deliver, of a QoS above 0.
-/
import Derived.Test.YtceiipcdkonnlaaXc
namespace Go.Proofs.Ytceiipcdkonnlaa.Ses
open Go.RowKit Que Hp Ids Fli
set_option linter.unusedSimpArgs false
set_option linter.unusedVariables false
def DelIs (A : Nat → Prop) (w : World) (a : Ad) (cl : ByteArray) (cn on : Bool) (T : List Bool) (L : List Se) (l : List Mg) (lost : Int) (m : Mg) (e : Ending) (w' : World) : Prop :=
  ∃ v T' L' l' P, e = .returned (.tuple #[v, .bool (decide (l.length < 16))]) ∧ Ss (fun k => A k ∨ v.ownBlock = some k) w' a cl cn on T' L' l' (if l.length < 16 then lost else lost + 1) ∧ Kp A w w' ∧ w'.ownsRow w.heap.size 78 24 v P.length (pfC P) ∧ fl on T L (if l.length < 16 then l ++ [m] else l) = (T', L', l', P)
section
variable {A : Nat → Prop} {w : World} {a : Ad} {cl : ByteArray} {cn on : Bool} {T : List Bool} {L : List Se} {l : List Mg} {lost : Int}
theorem put_any (h : Ss A w a cl cn on T L l lost) (m : Mg) (hq : m.a2 = 1 ∨ m.a2 = 2) (hl0 : 0 ≤ lost) (hl1 : lost ≤ 1000000) :
    Calls Try.prog 35 #[.pointer (some ⟨a.qg, 0, none⟩), .agg #[.string m.a0, .string m.a1, .int .i64 m.a2, .bool m.a3]] w fun e w' => e = .returned (.bool (decide (l.length < 16))) ∧ Ss A w' a cl cn on T L (if l.length < 16 then l ++ [m] else l) (if l.length < 16 then lost else lost + 1) ∧ Kp A w w' := by
  by_cases hr : l.length < 16
  · refine (Quu.put_yes h.qu m hr).mono ?_
    rintro e w' ⟨rfl, q1, g1⟩
    rw [if_pos hr, if_pos hr, decide_eq_true hr]
    have hql : ∀ x ∈ l ++ [m], x.a2 = 1 ∨ x.a2 = 2 := fun x hx => (List.mem_append.1 hx).elim (h.ql x) (fun e => by rw [List.mem_singleton.1 e]; exact hq)
    exact ⟨rfl, h.onQ q1 g1 (.inl rfl) (by simp; omega) hql⟩
  · refine (Quu.put_no h.qu m (by omega) hl0 hl1).mono ?_
    rintro e w' ⟨rfl, q1, g1⟩
    rw [if_neg hr, if_neg hr, decide_eq_false hr]
    exact ⟨rfl, h.onQ q1 g1 (.inr rfl) h.le h.ql⟩
end
theorem put_end {A : Nat → Prop} {w w1 W w4 : World} {a : Ad} {cl : ByteArray} {cn on : Bool} {T1 : List Bool} {L1 : List Se} {r : List Mg} {lost : Int} {m : Mg}
    (K1 : Kp A w w1) (R1 : w1.heap[w.heap.size]? = some (.cells #[.string m.a0, .string m.a1, .int .i64 m.a2, .bool m.a3] 30 (0, 0))) (hb : Below w1.heap.size w1 W)
    (s4 : Ss (fun k => A k ∨ k = w.heap.size) w4 a cl cn on T1 L1 r lost) (k4 : Kp (fun k => A k ∨ k = w.heap.size) W w4) :
    Ss A w4 a cl cn on T1 L1 r lost ∧ Kp A w w4 ∧ w4.heap[w.heap.size]? = some (.cells #[.string m.a0, .string m.a1, .int .i64 m.a2, .bool m.a3] 30 (0, 0)) := by
  have hl : w.heap.size < w1.heap.size := (Array.getElem?_eq_some_iff.1 R1).1
  exact ⟨s4.weaken (fun k hk => .inl hk), (K1.trans (Kp.of_ext hb)).trans (k4.mono fun k _ e hk => e (.inl hk)), (k4.block _ (Nat.lt_of_lt_of_le hl hb.size) (fun e => e (.inr rfl))).trans ((hb.block _ hl).trans R1)⟩
theorem msg_cells0 {A : Nat → Prop} {w4 W : World} {a : Ad} {cl : ByteArray} {cn on : Bool} {T1 : List Bool} {L1 : List Se} {r : List Mg} {lost : Int} {m : Mg} {bx : Nat}
    (h : Ss A w4 a cl cn on T1 L1 r lost) (R : w4.heap[bx]? = some (.cells #[.string m.a0, .string m.a1, .int .i64 m.a2, .bool m.a3] 30 (0, 0))) (hb : Below w4.heap.size w4 W) :
    W.cell? ⟨a.s, 3, none⟩ = some (.pointer (some ⟨a.ps, 0, none⟩)) ∧ W.cell? ⟨a.ps, 0, none⟩ = some (.pointer (some ⟨a.qg, 0, none⟩)) ∧ W.cell? ⟨bx, 0, none⟩ = some (.string m.a0) ∧ W.cell? ⟨bx, 1, none⟩ = some (.string m.a1) ∧ W.cell? ⟨bx, 2, none⟩ = some (.int .i64 m.a2) ∧ W.cell? ⟨bx, 3, none⟩ = some (.bool m.a3) := by
  have R' := (hb.block bx (Array.getElem?_eq_some_iff.1 R).1).trans R
  exact ⟨(h.ext hb).s3, (h.ext hb).p0, cell_of_row _ _ 0 _ 30 (0, 0) R', cell_of_row _ _ 1 _ 30 (0, 0) R', cell_of_row _ _ 2 _ 30 (0, 0) R', cell_of_row _ _ 3 _ 30 (0, 0) R'⟩
set_option maxHeartbeats 8000000 in
set_option maxRecDepth 100000 in
theorem deliver {A : Nat → Prop} {w : World} {a : Ad} {cl : ByteArray} {cn on : Bool} {T : List Bool} {L : List Se} {l : List Mg} {lost : Int} (h : Ss A w a cl cn on T L l lost) (t x : ByteArray) (q qos : Int) (r : Bool) (hq : q = 1 ∨ q = 2) (hqq : q ≤ qos) (hqos : qos ≤ 2) (hl0 : 0 ≤ lost) (hl1 : lost ≤ 1000000) (hA : ∀ k, A k → k < w.heap.size) :
    Calls Try.prog 9 #[.pointer (some ⟨a.s, 0, none⟩), .agg #[.string t, .string x, .int .i64 q, .bool r], .int .i64 qos] w (DelIs A w a cl cn on T L l lost ⟨t, x, q, r⟩) := by
  have e0 := ext_alloc w (.cells #[.string t, .string x, .int .i64 q, .bool r] 30)
  have r0 := heap_alloc_new w (.cells #[.string t, .string x, .int .i64 q, .bool r] 30)
  have S1 : Hid (Ss (fun k => A k ∨ k = w.heap.size) (w.alloc (.cells #[.string t, .string x, .int .i64 q, .bool r] 30)) a cl cn on T L l lost) := Lib.hid (h.others (S := fun _ => False) (Far.of_ext e0) (fun _ e => e.elim) (fun k hk => hk.imp id (fun e => by subst e; exact ⟨Nat.le_refl _, by simp⟩)))
  have N1 := Lib.hid (s_none (h.ext e0))
  have K1 : Hid (Kp A w (w.alloc (.cells #[.string t, .string x, .int .i64 q, .bool r] 30))) := Lib.hid (Kp.of_ext e0)
  have c0 : (w.alloc (.cells #[.string t, .string x, .int .i64 q, .bool r] 30)).cell? ⟨w.heap.size, 2, none⟩ = some (.int .i64 q) := cell_of_row _ _ 2 _ 30 (0, 0) r0
  have z0 := frozen_of_row _ w.heap.size 2 _ 30 r0
  have R1 := Lib.hid r0
  replace e0 := Lib.hid e0
  have hA' := Lib.hid hA
  replace h := Lib.hid h
  have q1 : 1 ≤ q := by omega
  have q2 : q ≤ 2 := by omega
  have hmin : min q qos = q := by omega
  have hmax : max q 0 = q := by omega
  have hmin2 : min q 2 = q := by omega
  replace r0 := Lib.hid r0
  clear hA
  go_enter Try.func9, Try.ntmps9
  go_wp2_with fail
  refine N1.out.mono ?_
  rintro e w1 ⟨rfl, rfl⟩
  go_wp2_with fail
  have KO := Lib.hid (fun W (hb : Below (w.alloc (.cells #[.string t, .string x, .int .i64 q, .bool r] 30)).heap.size (w.alloc (.cells #[.string t, .string x, .int .i64 q, .bool r] 30)) W) => (show W.cell? ⟨a.s, 3, none⟩ = some (.pointer (some ⟨a.ps, 0, none⟩)) ∧ W.cell? ⟨a.ps, 0, none⟩ = some (.pointer (some ⟨a.qg, 0, none⟩)) ∧ W.cell? ⟨w.heap.size, 0, none⟩ = some (.string t) ∧ W.cell? ⟨w.heap.size, 1, none⟩ = some (.string x) ∧ W.cell? ⟨w.heap.size, 2, none⟩ = some (.int .i64 q) ∧ W.cell? ⟨w.heap.size, 3, none⟩ = some (.bool r) from
    ⟨(S1.out.ext hb).s3, (S1.out.ext hb).p0, (hb.cell (by simp)).trans (cell_of_row _ _ 0 _ 30 (0, 0) R1.out), (hb.cell (by simp)).trans (cell_of_row _ _ 1 _ 30 (0, 0) R1.out), (hb.cell (by simp)).trans (cell_of_row _ _ 2 _ 30 (0, 0) R1.out), (hb.cell (by simp)).trans (cell_of_row _ _ 3 _ 30 (0, 0) R1.out)⟩))
  have SE := Lib.hid (fun W (hb : Below (w.alloc (.cells #[.string t, .string x, .int .i64 q, .bool r] 30)).heap.size (w.alloc (.cells #[.string t, .string x, .int .i64 q, .bool r] 30)) W) => put_any (S1.out.ext hb) ⟨t, x, q, r⟩ hq hl0 hl1)
  generalize hW1 : (w.alloc (.cells #[.string t, .string x, .int .i64 q, .bool r] 30)) = w1 at *
  go_region_held3 (fun W => W.cell? ⟨a.s, 3, none⟩ = some (.pointer (some ⟨a.ps, 0, none⟩)) ∧ W.cell? ⟨a.ps, 0, none⟩ = some (.pointer (some ⟨a.qg, 0, none⟩)) ∧ W.cell? ⟨w.heap.size, 0, none⟩ = some (.string t) ∧ W.cell? ⟨w.heap.size, 1, none⟩ = some (.string x) ∧ W.cell? ⟨w.heap.size, 2, none⟩ = some (.int .i64 q) ∧ W.cell? ⟨w.heap.size, 3, none⟩ = some (.bool r))
    (first | exact KO.out _ (by first | exact Below.refl _ _ | exact ext_drew _ | assumption) | exact KA.out _ (by first | exact Below.refl _ _ | exact ext_drew _ | assumption))
    (first
      | (go_at_call 35; refine (SE.out _ (by first | exact Below.refl _ _ | exact ext_drew _ | assumption)).mono ?_; rintro e w4 ⟨rfl, s4, k4⟩; have X4 : Hid (Ss A w4 a cl cn on T L (if l.length < 16 then l ++ [⟨t, x, q, r⟩] else l) (if l.length < 16 then lost else lost + 1) ∧ Kp A w w4 ∧ w4.heap[w.heap.size]? = some (.cells #[.string t, .string x, .int .i64 q, .bool r] 30 (0, 0))) := Lib.hid (put_end (m := ⟨t, x, q, r⟩) K1.out R1.out (by first | exact Below.refl _ _ | exact ext_drew _) s4 k4); clear s4 k4; have KA := Lib.hid (fun W (hb : Below w4.heap.size w4 W) => msg_cells0 (m := ⟨t, x, q, r⟩) X4.out.1 X4.out.2.2 hb)))
  all_goals
    obtain ⟨s4, k4, r4⟩ := X4.out
    have FL := Lib.hid (fill_any s4 (fun k hk => Nat.lt_of_lt_of_le (hA'.out k hk) k4.size))
    replace k4 := Lib.hid k4
    clear KA KO SE X4 s4 r4
    go_wp2_with fail
    refine FL.out.mono ?_
    rintro e w5 ⟨v, T', L', l', P, rfl, s5, k5, o5, e5⟩
    obtain ⟨va, vc, rfl⟩ := own_slice o5
    have X5 := Lib.hid (⟨s5, k4.out.trans k5, own_base o5 k4.out.size, e5⟩ : _ ∧ _ ∧ _ ∧ _)
    clear s5 k5 o5 e5
    go_wp2_with fail
    go_ret2
    exact ⟨_, T', L', l', P, rfl, X5.out⟩
end Go.Proofs.Ytceiipcdkonnlaa.Ses
