/-
  LAYER 25: New, and what only looks.
-/
import Derived.Test.YtceiipcdkonnlaaGreatXb
import Derived.Test.YtceiipcdkonnlaaGreatQg
import Derived.Test.YtceiipcdkonnlaaGreatUc
import Derived.Test.YtceiipcdkonnlaaGreatJd
namespace Go.Proofs.YtceiipcdkonnlaaGreat.Ses
open Go.RowKit Que Hp Ids Fli
set_option linter.unusedSimpArgs false
set_option linter.unusedVariables false
section
variable {A : Nat → Prop} {w : World} {a : Ad} {cl : ByteArray} {cn on : Bool} {T : List Bool} {L : List Se} {l : List Mg} {lost : Int}
theorem s_none (h : Ss A w a cl cn on T L l lost) : Calls Tryz.prog 37 #[.pointer (some ⟨a.s, 0, none⟩)] w fun e w' => e = .returned (.bool false) ∧ w = w' := by
  have s3 := h.s3
  replace h := Lib.hid h
  go_enter Tryz.func37, Tryz.ntmps37
  go_wp2
  go_ret
  exact ⟨rfl, rfl⟩
theorem s_in (h : Ss A w a cl cn on T L l lost) : Calls Tryz.prog 41 #[.pointer (some ⟨a.s, 0, none⟩)] w fun e w' => e = .returned (.pointer (some ⟨a.ps, 0, none⟩)) ∧ w = w' := by
  have s3 := h.s3
  have N := Lib.hid (s_none h)
  replace h := Lib.hid h
  go_enter Tryz.func41, Tryz.ntmps41
  go_wp2_with fail
  refine N.out.mono ?_
  rintro e w1 ⟨rfl, rfl⟩
  go_wp2_with fail
  go_ret
  exact ⟨rfl, rfl⟩
theorem s_online (h : Ss A w a cl cn on T L l lost) : Calls Tryz.prog 31 #[.pointer (some ⟨a.s, 0, none⟩)] w fun e w' => e = .returned (.bool on) ∧ w = w' := by
  have s2 := h.s2
  have N := Lib.hid (s_none h)
  replace h := Lib.hid h
  go_enter Tryz.func31, Tryz.ntmps31
  go_wp2_with fail
  refine N.out.mono ?_
  rintro e w1 ⟨rfl, rfl⟩
  go_wp2_with fail
  go_ret
  exact ⟨rfl, rfl⟩
theorem s_lost (h : Ss A w a cl cn on T L l lost) : Calls Tryz.prog 30 #[.pointer (some ⟨a.s, 0, none⟩)] w fun e w' => e = .returned (.int .i64 lost) ∧ w = w' := by
  have p0 := h.p0
  have N := Lib.hid (s_in h)
  have Q := Lib.hid (Quu.lost_any h.qu)
  replace h := Lib.hid h
  go_enter Tryz.func30, Tryz.ntmps30
  go_wp2_with fail
  refine N.out.mono ?_
  rintro e w1 ⟨rfl, rfl⟩
  go_wp2_with fail
  refine Q.out.mono ?_
  rintro e w1 ⟨rfl, rfl⟩
  go_wp2_with fail
  go_ret
  exact ⟨rfl, rfl⟩
/-- What is on its way. -/
theorem s_flight (h : Ss A w a cl cn on T L l lost) : Calls Tryz.prog 17 #[.pointer (some ⟨a.s, 0, none⟩)] w (AllF L w) := by
  have p1 := h.p1
  have N := Lib.hid (s_in h)
  have F := Lib.hid (f_all h.fs)
  replace h := Lib.hid h
  go_enter Tryz.func17, Tryz.ntmps17
  go_wp2_with fail
  refine N.out.mono ?_
  rintro e w1 ⟨rfl, rfl⟩
  go_wp2_with fail
  refine F.out.mono ?_
  rintro e w1 ⟨v, rfl, o1, b1⟩
  go_wp2_with fail
  go_ret
  exact ⟨v, rfl, o1, b1⟩
/-- What waits. -/
theorem s_queue (h : Ss A w a cl cn on T L l lost) : Calls Tryz.prog 28 #[.pointer (some ⟨a.s, 0, none⟩)] w fun e w' => ∃ v, e = .returned v ∧ w'.ownsRow w.heap.size 33 4 v l.length (msAtC l) ∧ Ss A w' a cl cn on T L l lost ∧ Kp A w w' ∧ w.grownBy w' (some a.qc) := by
  have p0 := h.p0
  have N := Lib.hid (s_in h)
  have Q := Lib.hid (Quu.all_any h.qu (by have := h.le; omega) h.le)
  have H := Lib.hid h
  clear h
  go_enter Tryz.func28, Tryz.ntmps28
  go_wp2_with fail
  refine N.out.mono ?_
  rintro e w1 ⟨rfl, rfl⟩
  go_wp2_with fail
  refine Q.out.mono ?_
  rintro e w1 ⟨v, rfl, o1, q1, g1⟩
  obtain ⟨S1, K1⟩ := H.out.onQ q1 g1 (.inl rfl) H.out.le H.out.ql
  replace S1 := Lib.hid S1
  replace K1 := Lib.hid K1
  replace o1 := Lib.hid o1
  replace g1 := Lib.hid g1
  clear q1
  go_wp2_with fail
  go_ret
  exact ⟨v, rfl, o1.out, S1.out, K1.out, g1.out⟩
end
set_option maxHeartbeats 4000000 in
theorem new_ok (cl : ByteArray) (cn : Bool) (w : World) (hs : cl.size ≤ 32) (hne : cl.toList.isEmpty = false) (hr : rightB cl = true) : Calls Tryz.prog 4 #[.string cl, .bool cn] w fun e w' => ∃ a, e = .returned (.tuple #[.pointer (some ⟨a.s, 0, none⟩), .int .i64 0]) ∧ Ss (fun k => k < w.heap.size ∨ k = a.ib) w' a cl cn false [] [] [] 0 ∧ Inb.Box w' a.ib (List.replicate 16 0) 0 ∧ Below w.heap.size w w' := by
  have RA := right_any cl w
  rw [hr] at RA
  replace RA := Lib.hid RA
  have QN : Hid (∀ w1 : World, Calls Tryz.prog 10 #[.int .i64 16] w1 fun e w' => e = .returned (.tuple #[.pointer (some ⟨w1.heap.size + 1, 0, none⟩), .int .i64 0]) ∧ Quu.Qu w' (w1.heap.size + 1) w1.heap.size 16 [] 0 ∧ Below w1.heap.size w1 w' ∧ w'.heap.size = w1.heap.size + 2) := Lib.hid fun w1 => Quu.new_any 16 w1 (by decide) (by decide)
  have hs' : (cl.size : Int) ≤ 32 := by omega
  replace hr := Lib.hid hr
  clear hs
  go_enter Tryz.func4, Tryz.ntmps4
  go_wp2_with fail
  refine RA.out.mono ?_
  rintro e w1 ⟨rfl, b1⟩
  replace b1 := Lib.hid b1
  clear RA
  go_wp2_with fail
  refine (QN.out _).mono ?_
  rintro e w2 ⟨rfl, q2, b2, z2⟩
  replace b2 := Lib.hid b2
  replace q2 := Lib.hid q2
  replace z2 := Lib.hid z2
  clear QN
  go_wp2_with fail
  refine (f_new _).mono ?_
  rintro e w3 ⟨f, g, rfl, f3, b3⟩
  replace b3 := Lib.hid b3
  replace f3 := Lib.hid f3
  go_wp2_with fail
  refine (Inb.new24_any _).mono ?_
  rintro e w4 ⟨rfl, x4, b4⟩
  replace b4 := Lib.hid b4
  replace x4 := Lib.hid x4
  go_wp2_with fail
  go_ret2
  have l4 := x4.out.lt
  have y1 := b1.out.size
  have y2 := z2.out
  have y3 := b3.out.size
  have B35 : Below w3.heap.size w3 ((w4.alloc (.cells #[.pointer (some ⟨w1.heap.size + 1, 0, none⟩), .pointer (some ⟨f, 0, none⟩), .pointer (some ⟨w3.heap.size, 0, none⟩)] 48)).alloc (.cells #[.string cl, .bool cn, .bool false, .pointer (some ⟨w4.heap.size, 0, none⟩)] 50)) := (b4.out.alloc b4.out.size _).alloc (by have := b4.out.size; simp; omega) _
  have B25 := b3.out.trans (B35.mono y3)
  refine ⟨⟨w4.heap.size + 1, w4.heap.size, w1.heap.size + 1, w1.heap.size, f, g, w3.heap.size⟩, by simp, ⟨?_, ?_, q2.out.keep B25, ?_, ?_, by simp, by simp⟩, ?_, (b1.out.trans ((b2.out.trans (B25.mono b2.out.size)).mono y1))⟩
  · have := heap_alloc_new (w4.alloc (.cells #[.pointer (some ⟨w1.heap.size + 1, 0, none⟩), .pointer (some ⟨f, 0, none⟩), .pointer (some ⟨w3.heap.size, 0, none⟩)] 48)) (.cells #[.string cl, .bool cn, .bool false, .pointer (some ⟨w4.heap.size, 0, none⟩)] 50)
    simpa using this
  · show ((w4.alloc _).alloc _).heap[w4.heap.size]? = _
    rw [Below.heap_alloc _ _ _ (by simp)]
    exact heap_alloc_new w4 _
  · refine f3.out.more B35 ?_
    rintro k ((hk | rfl) | rfl | rfl | rfl | rfl | rfl)
    · have hk' : k < w.heap.size := hk
      left; show k < w2.heap.size; omega
    · right; simp; omega
    · right; simp; omega
    · right; simp; omega
    · left; show w1.heap.size + 1 < w2.heap.size; omega
    · left; show w1.heap.size < w2.heap.size; omega
    · right; simp; omega
  · rintro k (hk | rfl)
    · have hk' : k < w.heap.size := hk
      have := b2.out.size
      have := b4.out.size
      show k ≠ w4.heap.size + 1 ∧ k ≠ w4.heap.size ∧ k ≠ w1.heap.size + 1 ∧ k ≠ w1.heap.size
      omega
    · have := b2.out.size
      have := b4.out.size
      show w3.heap.size ≠ w4.heap.size + 1 ∧ w3.heap.size ≠ w4.heap.size ∧ w3.heap.size ≠ w1.heap.size + 1 ∧ w3.heap.size ≠ w1.heap.size
      omega
  · exact x4.out.keep ((Below.refl _ _).alloc (Nat.le_refl _) _ |>.alloc (by simp) _) l4
/-- A client's id that can't be. -/
theorem new_bad (cl : ByteArray) (cn : Bool) (w : World) (h : cl.size = 0 ∨ 32 < cl.size ∨ rightB cl = false) (hz : cl.size ≤ 140737488351232) : Calls Tryz.prog 4 #[.string cl, .bool cn] w fun e w' => e = .returned (.tuple #[.pointer none, .int .i64 1]) ∧ Below w.heap.size w w' := by
  by_cases h0 : cl.size = 0
  · have he : cl = ⟨#[]⟩ := by
      obtain ⟨⟨l⟩⟩ := cl
      cases l with
      | nil => rfl
      | cons a l => simp [ByteArray.size] at h0
    subst he
    go_enter Tryz.func4, Tryz.ntmps4
    go_wp2_with fail
    go_ret2
    exact ⟨rfl, Below.refl _ _⟩
  have hne : cl.toList.isEmpty = false := by
    rw [ByteArray.toList_eq]
    obtain ⟨⟨l⟩⟩ := cl
    cases l with
    | nil => simp [ByteArray.size] at h0
    | cons a l => rfl
  by_cases h32 : 32 < cl.size
  · have h' : (32 : Int) < (cl.size : Int) := by omega
    clear h h0
    go_enter Tryz.func4, Tryz.ntmps4
    go_wp2_with fail
    go_ret2
    exact ⟨rfl, Below.refl _ _⟩
  · have h' : ¬ (32 : Int) < (cl.size : Int) := by omega
    have hr : rightB cl = false := (h.resolve_left h0).resolve_left h32
    have RA := right_any cl w
    rw [hr] at RA
    replace RA := Lib.hid RA
    clear h h0 hr
    go_enter Tryz.func4, Tryz.ntmps4
    go_wp2_with fail
    refine RA.out.mono ?_
    rintro e w1 ⟨rfl, b1⟩
    go_wp2_with fail
    go_ret2
    exact ⟨rfl, b1⟩
end Go.Proofs.YtceiipcdkonnlaaGreat.Ses

/-
  LAYER 25: Deliver, of a QoS above 0.
-/
namespace Go.Proofs.YtceiipcdkonnlaaGreat.Ses
open Go.RowKit Que Hp Ids Fli
set_option linter.unusedSimpArgs false
set_option linter.unusedVariables false
def DelIs (A : Nat → Prop) (w : World) (a : Ad) (cl : ByteArray) (cn on : Bool) (T : List Bool) (L : List Se) (l : List Mg) (lost : Int) (m : Mg) (e : Ending) (w' : World) : Prop :=
  ∃ v T' L' l' P, e = .returned (.tuple #[v, .bool (decide (l.length < 16))]) ∧ Ss (fun k => A k ∨ v.ownBlock = some k) w' a cl cn on T' L' l' (if l.length < 16 then lost else lost + 1) ∧ Kp A w w' ∧ w'.ownsRow w.heap.size 72 24 v P.length (pfC P) ∧ fl on T L (if l.length < 16 then l ++ [m] else l) = (T', L', l', P)
section
variable {A : Nat → Prop} {w : World} {a : Ad} {cl : ByteArray} {cn on : Bool} {T : List Bool} {L : List Se} {l : List Mg} {lost : Int}
theorem put_any (h : Ss A w a cl cn on T L l lost) (m : Mg) (hq : m.a2 = 1 ∨ m.a2 = 2) (hl0 : 0 ≤ lost) (hl1 : lost ≤ 1000000) :
    Calls Tryz.prog 38 #[.pointer (some ⟨a.qg, 0, none⟩), .agg #[.string m.a0, .string m.a1, .int .i64 m.a2, .bool m.a3]] w fun e w' => e = .returned (.bool (decide (l.length < 16))) ∧ Ss A w' a cl cn on T L (if l.length < 16 then l ++ [m] else l) (if l.length < 16 then lost else lost + 1) ∧ Kp A w w' := by
  by_cases hr : l.length < 16
  · refine (Quu.put_yes h.qu m hr).mono ?_
    rintro e w' ⟨rfl, q1, g1⟩
    rw [if_pos hr, if_pos hr, decide_eq_true hr]
    have hql : ∀ x ∈ l ++ [m], x.a2 = 1 ∨ x.a2 = 2 := fun x hx => (List.mem_append.1 hx).elim (h.ql x) (fun e => by rw [List.mem_singleton.1 e]; exact hq)
    exact ⟨rfl, h.onQ q1 g1 (.inl rfl) (by simp; omega) hql⟩
  · refine (Quu.put_no h.qu m (by omega) hl0 hl1).mono ?_
    rintro e w' ⟨rfl, q1, g1⟩
    rw [if_neg hr, if_neg hr, decide_eq_false hr]
    exact ⟨rfl, h.onQ q1 g1 (.inr rfl) h.le h.ql⟩
end
theorem put_end {A : Nat → Prop} {w w1 W w4 : World} {a : Ad} {cl : ByteArray} {cn on : Bool} {T1 : List Bool} {L1 : List Se} {r : List Mg} {lost : Int} {m : Mg}
    (K1 : Kp A w w1) (R1 : w1.heap[w.heap.size]? = some (.cells #[.string m.a0, .string m.a1, .int .i64 m.a2, .bool m.a3] 33 (0, 0))) (hb : Below w1.heap.size w1 W)
    (s4 : Ss (fun k => A k ∨ k = w.heap.size) w4 a cl cn on T1 L1 r lost) (k4 : Kp (fun k => A k ∨ k = w.heap.size) W w4) :
    Ss A w4 a cl cn on T1 L1 r lost ∧ Kp A w w4 ∧ w4.heap[w.heap.size]? = some (.cells #[.string m.a0, .string m.a1, .int .i64 m.a2, .bool m.a3] 33 (0, 0)) := by
  have hl : w.heap.size < w1.heap.size := (Array.getElem?_eq_some_iff.1 R1).1
  exact ⟨s4.weaken (fun k hk => .inl hk), (K1.trans (Kp.of_ext hb)).trans (k4.mono fun k _ e hk => e (.inl hk)), (k4.block _ (Nat.lt_of_lt_of_le hl hb.size) (fun e => e (.inr rfl))).trans ((hb.block _ hl).trans R1)⟩
theorem msg_cells0 {A : Nat → Prop} {w4 W : World} {a : Ad} {cl : ByteArray} {cn on : Bool} {T1 : List Bool} {L1 : List Se} {r : List Mg} {lost : Int} {m : Mg} {bx : Nat}
    (h : Ss A w4 a cl cn on T1 L1 r lost) (R : w4.heap[bx]? = some (.cells #[.string m.a0, .string m.a1, .int .i64 m.a2, .bool m.a3] 33 (0, 0))) (hb : Below w4.heap.size w4 W) :
    W.cell? ⟨a.s, 3, none⟩ = some (.pointer (some ⟨a.ps, 0, none⟩)) ∧ W.cell? ⟨a.ps, 0, none⟩ = some (.pointer (some ⟨a.qg, 0, none⟩)) ∧ W.cell? ⟨bx, 0, none⟩ = some (.string m.a0) ∧ W.cell? ⟨bx, 1, none⟩ = some (.string m.a1) ∧ W.cell? ⟨bx, 2, none⟩ = some (.int .i64 m.a2) ∧ W.cell? ⟨bx, 3, none⟩ = some (.bool m.a3) := by
  have R' := (hb.block bx (Array.getElem?_eq_some_iff.1 R).1).trans R
  exact ⟨(h.ext hb).s3, (h.ext hb).p0, cell_of_row _ _ 0 _ 33 (0, 0) R', cell_of_row _ _ 1 _ 33 (0, 0) R', cell_of_row _ _ 2 _ 33 (0, 0) R', cell_of_row _ _ 3 _ 33 (0, 0) R'⟩
set_option maxHeartbeats 8000000 in
set_option maxRecDepth 100000 in
theorem deliver {A : Nat → Prop} {w : World} {a : Ad} {cl : ByteArray} {cn on : Bool} {T : List Bool} {L : List Se} {l : List Mg} {lost : Int} (h : Ss A w a cl cn on T L l lost) (t x : ByteArray) (q qos : Int) (r : Bool) (hq : q = 1 ∨ q = 2) (hqq : q ≤ qos) (hqos : qos ≤ 2) (hl0 : 0 ≤ lost) (hl1 : lost ≤ 1000000) (hA : ∀ k, A k → k < w.heap.size) :
    Calls Tryz.prog 15 #[.pointer (some ⟨a.s, 0, none⟩), .agg #[.string t, .string x, .int .i64 q, .bool r], .int .i64 qos] w (DelIs A w a cl cn on T L l lost ⟨t, x, q, r⟩) := by
  have e0 := ext_alloc w (.cells #[.string t, .string x, .int .i64 q, .bool r] 33)
  have r0 := heap_alloc_new w (.cells #[.string t, .string x, .int .i64 q, .bool r] 33)
  have S1 : Hid (Ss (fun k => A k ∨ k = w.heap.size) (w.alloc (.cells #[.string t, .string x, .int .i64 q, .bool r] 33)) a cl cn on T L l lost) := Lib.hid (h.others (S := fun _ => False) (Far.of_ext e0) (fun _ e => e.elim) (fun k hk => hk.imp id (fun e => by subst e; exact ⟨Nat.le_refl _, by simp⟩)))
  have N1 := Lib.hid (s_none (h.ext e0))
  have K1 : Hid (Kp A w (w.alloc (.cells #[.string t, .string x, .int .i64 q, .bool r] 33))) := Lib.hid (Kp.of_ext e0)
  have c0 : (w.alloc (.cells #[.string t, .string x, .int .i64 q, .bool r] 33)).cell? ⟨w.heap.size, 2, none⟩ = some (.int .i64 q) := cell_of_row _ _ 2 _ 33 (0, 0) r0
  have z0 := frozen_of_row _ w.heap.size 2 _ 33 r0
  have R1 := Lib.hid r0
  replace e0 := Lib.hid e0
  have hA' := Lib.hid hA
  replace h := Lib.hid h
  have q1 : 1 ≤ q := by omega
  have q2 : q ≤ 2 := by omega
  have hmin : min q qos = q := by omega
  have hmax : max q 0 = q := by omega
  have hmin2 : min q 2 = q := by omega
  replace r0 := Lib.hid r0
  clear hA
  go_enter Tryz.func15, Tryz.ntmps15
  go_wp2_with fail
  refine N1.out.mono ?_
  rintro e w1 ⟨rfl, rfl⟩
  go_wp2_with fail
  have KO := Lib.hid (fun W (hb : Below (w.alloc (.cells #[.string t, .string x, .int .i64 q, .bool r] 33)).heap.size (w.alloc (.cells #[.string t, .string x, .int .i64 q, .bool r] 33)) W) => (show W.cell? ⟨a.s, 3, none⟩ = some (.pointer (some ⟨a.ps, 0, none⟩)) ∧ W.cell? ⟨a.ps, 0, none⟩ = some (.pointer (some ⟨a.qg, 0, none⟩)) ∧ W.cell? ⟨w.heap.size, 0, none⟩ = some (.string t) ∧ W.cell? ⟨w.heap.size, 1, none⟩ = some (.string x) ∧ W.cell? ⟨w.heap.size, 2, none⟩ = some (.int .i64 q) ∧ W.cell? ⟨w.heap.size, 3, none⟩ = some (.bool r) from
    ⟨(S1.out.ext hb).s3, (S1.out.ext hb).p0, (hb.cell (by simp)).trans (cell_of_row _ _ 0 _ 33 (0, 0) R1.out), (hb.cell (by simp)).trans (cell_of_row _ _ 1 _ 33 (0, 0) R1.out), (hb.cell (by simp)).trans (cell_of_row _ _ 2 _ 33 (0, 0) R1.out), (hb.cell (by simp)).trans (cell_of_row _ _ 3 _ 33 (0, 0) R1.out)⟩))
  have SE := Lib.hid (fun W (hb : Below (w.alloc (.cells #[.string t, .string x, .int .i64 q, .bool r] 33)).heap.size (w.alloc (.cells #[.string t, .string x, .int .i64 q, .bool r] 33)) W) => put_any (S1.out.ext hb) ⟨t, x, q, r⟩ hq hl0 hl1)
  generalize hW1 : (w.alloc (.cells #[.string t, .string x, .int .i64 q, .bool r] 33)) = w1 at *
  go_region_held3 (fun W => W.cell? ⟨a.s, 3, none⟩ = some (.pointer (some ⟨a.ps, 0, none⟩)) ∧ W.cell? ⟨a.ps, 0, none⟩ = some (.pointer (some ⟨a.qg, 0, none⟩)) ∧ W.cell? ⟨w.heap.size, 0, none⟩ = some (.string t) ∧ W.cell? ⟨w.heap.size, 1, none⟩ = some (.string x) ∧ W.cell? ⟨w.heap.size, 2, none⟩ = some (.int .i64 q) ∧ W.cell? ⟨w.heap.size, 3, none⟩ = some (.bool r))
    (first | exact KO.out _ (by first | exact Below.refl _ _ | exact ext_drew _ | assumption) | exact KA.out _ (by first | exact Below.refl _ _ | exact ext_drew _ | assumption))
    (first
      | (go_at_call 38; refine (SE.out _ (by first | exact Below.refl _ _ | exact ext_drew _ | assumption)).mono ?_; rintro e w4 ⟨rfl, s4, k4⟩; have X4 : Hid (Ss A w4 a cl cn on T L (if l.length < 16 then l ++ [⟨t, x, q, r⟩] else l) (if l.length < 16 then lost else lost + 1) ∧ Kp A w w4 ∧ w4.heap[w.heap.size]? = some (.cells #[.string t, .string x, .int .i64 q, .bool r] 33 (0, 0))) := Lib.hid (put_end (m := ⟨t, x, q, r⟩) K1.out R1.out (by first | exact Below.refl _ _ | exact ext_drew _) s4 k4); clear s4 k4; have KA := Lib.hid (fun W (hb : Below w4.heap.size w4 W) => msg_cells0 (m := ⟨t, x, q, r⟩) X4.out.1 X4.out.2.2 hb)))
  all_goals
    obtain ⟨s4, k4, r4⟩ := X4.out
    have FL := Lib.hid (fill_any s4 (fun k hk => Nat.lt_of_lt_of_le (hA'.out k hk) k4.size))
    replace k4 := Lib.hid k4
    clear KA KO SE X4 s4 r4
    go_wp2_with fail
    refine FL.out.mono ?_
    rintro e w5 ⟨v, T', L', l', P, rfl, s5, k5, o5, e5⟩
    obtain ⟨va, vc, rfl⟩ := own_slice o5
    have X5 := Lib.hid (⟨s5, k4.out.trans k5, own_base o5 k4.out.size, e5⟩ : _ ∧ _ ∧ _ ∧ _)
    clear s5 k5 o5 e5
    go_wp2_with fail
    go_ret2
    exact ⟨_, T', L', l', P, rfl, X5.out⟩
end Go.Proofs.YtceiipcdkonnlaaGreat.Ses
