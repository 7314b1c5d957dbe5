/-
  LAYER 25: the document's Deliver.
-/
import Derived.Test.YtceiipcdkonnlaaGreatYc
namespace Go.Proofs.YtceiipcdkonnlaaGreat.Ses
open Go.RowKit Que Hp Ids Fli
set_option linter.unusedSimpArgs false
set_option linter.unusedVariables false
/-- The QoS with which a message is delivered. -/
def dq (q qos : Int) : Int := if min q qos < 0 then 0 else if 2 < min q qos then 2 else min q qos
def e0 (t x : ByteArray) (r : Bool) : Se := ⟨0, 0, t, x, 0, r⟩
/-- What Deliver does: kept, lost, what fill does with what then waits; of QoS 0 what is sent at once. -/
def XDelIs (A : Nat → Prop) (w : World) (d : Ax) (cl : ByteArray) (cn on : Bool) (T : List Bool) (L : List Se) (l : List Mg) (lost : Int) (t x : ByteArray) (R : Int) (r : Bool) (e : Ending) (w' : World) : Prop :=
  ∃ v vq vf T' L' l' P kept lost', e = .returned (.tuple #[v, .bool kept]) ∧ Xs (fun k => A k ∨ v.ownBlock = some k) w' d cl cn on vq vf L' l' lost' ∧ Tk T' L' ∧ Kp A w w' ∧ w'.ownsRow w.heap.size 72 24 v P.length (pfC P) ∧
    (R = 0 → kept = on ∧ lost' = lost ∧ T' = T ∧ L' = L ∧ l' = l ∧ P = if on = true then [e0 t x r] else []) ∧
    (R ≠ 0 → kept = decide (l.length < 16) ∧ lost' = (if l.length < 16 then lost else lost + 1) ∧ fl on T L (if l.length < 16 then l ++ [⟨t, x, R, r⟩] else l) = (T', L', l', P))
section
variable {A : Nat → Prop} {w : World} {d : Ax} {cl : ByteArray} {cn on : Bool} {T : List Bool} {L : List Se} {l : List Mg} {lost : Int} {vq vf : Value}
theorem xput_any (h : Xs A w d cl cn on vq vf L l lost) (m : Mg) (hq : m.a2 = 1 ∨ m.a2 = 2) (hl0 : 0 ≤ lost) (hl1 : lost ≤ 1000000) :
    Calls Tryz.prog 46 #[.pointer (some ⟨d.q, 0, none⟩), .agg #[.string m.a0, .string m.a1, .int .i64 m.a2, .bool m.a3]] w fun e w' => e = .returned (.bool (decide (l.length < 16))) ∧ ∃ vq', Xs A w' d cl cn on vq' vf L (if l.length < 16 then l ++ [m] else l) (if l.length < 16 then lost else lost + 1) ∧ Kp A w w' := by
  have hle := h.le
  by_cases hr : l.length < 16
  · refine (Quu.xput_yes h.xq m (by omega) (by omega) (Nat.zero_le _)).mono ?_
    rintro e w' ⟨rfl, v', n⟩
    rw [if_pos hr, if_pos hr, decide_eq_true hr]
    have hql : ∀ x ∈ l ++ [m], x.a2 = 1 ∨ x.a2 = 2 := fun x hx => (List.mem_append.1 hx).elim (h.ql x) (fun e => by rw [List.mem_singleton.1 e]; exact hq)
    exact ⟨rfl, v', h.onQ n (by simp; omega) hql⟩
  · refine (Quu.xput_no h.xq m (by omega) ⟨hl0, hl1⟩ (by omega)).mono ?_
    rintro e w' ⟨rfl, v', n⟩
    rw [if_neg hr, if_neg hr, decide_eq_false hr]
    exact ⟨rfl, v', h.onQ n h.le h.ql⟩
end
theorem xput_end {A : Nat → Prop} {w w1 W w4 : World} {d : Ax} {cl : ByteArray} {cn on : Bool} {L1 : List Se} {r : List Mg} {lost : Int} {vq vf : Value} {m : Mg} {bx : Nat}
    (K1 : Kp A w w1) (R1 : w1.heap[bx]? = some (.cells #[.string m.a0, .string m.a1, .int .i64 m.a2, .bool m.a3] 33 (0, 0))) (hb : Below w1.heap.size w1 W)
    (s4 : Xs (fun k => A k ∨ k = bx) w4 d cl cn on vq vf L1 r lost) (k4 : Kp (fun k => A k ∨ k = bx) W w4) :
    Xs A w4 d cl cn on vq vf L1 r lost ∧ Kp A w w4 ∧ w4.heap[bx]? = some (.cells #[.string m.a0, .string m.a1, .int .i64 m.a2, .bool m.a3] 33 (0, 0)) := by
  have hl : bx < w1.heap.size := (Array.getElem?_eq_some_iff.1 R1).1
  exact ⟨s4.weaken (fun k hk => .inl hk), (K1.trans (Kp.of_ext hb)).trans (k4.mono fun k _ e hk => e (.inl hk)), (k4.block _ (Nat.lt_of_lt_of_le hl hb.size) (fun e => e (.inr rfl))).trans ((hb.block _ hl).trans R1)⟩
theorem xmsg_cells0 {A : Nat → Prop} {w4 W : World} {d : Ax} {cl : ByteArray} {cn on : Bool} {L1 : List Se} {r : List Mg} {lost : Int} {vq vf : Value} {m : Mg} {bx : Nat}
    (h : Xs A w4 d cl cn on vq vf L1 r lost) (R : w4.heap[bx]? = some (.cells #[.string m.a0, .string m.a1, .int .i64 m.a2, .bool m.a3] 33 (0, 0))) (hb : Below w4.heap.size w4 W) :
    W.cell? ⟨d.x, 3, none⟩ = some (.pointer (some ⟨d.q, 0, none⟩)) ∧ W.cell? ⟨bx, 0, none⟩ = some (.string m.a0) ∧ W.cell? ⟨bx, 1, none⟩ = some (.string m.a1) ∧ W.cell? ⟨bx, 2, none⟩ = some (.int .i64 m.a2) ∧ W.cell? ⟨bx, 3, none⟩ = some (.bool m.a3) := by
  have R' := (hb.block bx (Array.getElem?_eq_some_iff.1 R).1).trans R
  exact ⟨(h.ext hb).x3, cell_of_row _ _ 0 _ 33 (0, 0) R', cell_of_row _ _ 1 _ 33 (0, 0) R', cell_of_row _ _ 2 _ 33 (0, 0) R', cell_of_row _ _ 3 _ 33 (0, 0) R'⟩
set_option maxHeartbeats 16000000 in
set_option maxRecDepth 100000 in
theorem xdeliver {A : Nat → Prop} {w : World} {d : Ax} {cl : ByteArray} {cn on : Bool} {T : List Bool} {L : List Se} {l : List Mg} {lost : Int} {vq vf : Value} (h : Xs A w d cl cn on vq vf L l lost) (hT : Tk T L) (t x : ByteArray) (q qos : Int) (r : Bool) (hl0 : 0 ≤ lost) (hl1 : lost ≤ 1000000) (hA : ∀ k, A k → k < w.heap.size) :
    Calls Tryz.prog 21 #[.pointer (some ⟨d.x, 0, none⟩), .agg #[.string t, .string x, .int .i64 q, .bool r], .int .i64 qos] w (XDelIs A w d cl cn on T L l lost t x (dq q qos) r) := by
  replace hT := Lib.hid hT
  replace hA := Lib.hid hA
  by_cases h1 : q ≤ qos
  · have hmn : min q qos = q := by omega
    by_cases hn : q < 0
    · skip
      have hdq : dq q qos = 0 := by unfold dq; omega
      rw [hdq]
      clear hdq
      have e0 := ext_two w (.cells #[.string t, .string x, .int .i64 q, .bool r] 33) (.cells #[.string t, .string x, .int .i64 0, .bool r] 33)
      have R1 : ((w.alloc (.cells #[.string t, .string x, .int .i64 q, .bool r] 33)).alloc (.cells #[.string t, .string x, .int .i64 0, .bool r] 33)).heap[w.heap.size + 1]? = some (.cells #[.string t, .string x, .int .i64 0, .bool r] 33 (0, 0)) := by
        have h' := heap_alloc_new (w.alloc (.cells #[.string t, .string x, .int .i64 q, .bool r] 33)) (.cells #[.string t, .string x, .int .i64 0, .bool r] 33)
        simpa using h'
      have S1 : Hid (Xs (fun k => A k ∨ k = w.heap.size + 1) ((w.alloc (.cells #[.string t, .string x, .int .i64 q, .bool r] 33)).alloc (.cells #[.string t, .string x, .int .i64 0, .bool r] 33)) d cl cn on vq vf L l lost) := Lib.hid (h.others (S := fun _ => False) (Far.of_ext e0) (fun _ e => e.elim) (fun k hk => hk.imp id (fun e => by subst e; exact ⟨by omega, by simp⟩)))
      have K1 : Hid (Kp A w ((w.alloc (.cells #[.string t, .string x, .int .i64 q, .bool r] 33)).alloc (.cells #[.string t, .string x, .int .i64 0, .bool r] 33))) := Lib.hid (Kp.of_ext e0)
      have x2 := S1.out.x2
      have o1 := cell_of_row _ _ 0 _ 33 (0, 0) R1
      clear o1
      replace R1 := Lib.hid R1
      replace h := Lib.hid h
      replace e0 := Lib.hid e0
      cases on with
      | false =>
        go_enter Tryz.func21, Tryz.ntmps21
        go_wp2_with fail
        go_ret2
        exact ⟨_, vq, vf, T, L, l, [], _, _, rfl, S1.out.weaken (fun k hk => .inl (hk.elim id (fun e => by cases e))), hT.out, K1.out, World.ownsRow_nil _ _ _ _, fun _ => ⟨rfl, rfl, rfl, rfl, rfl, by simp⟩, fun e => absurd rfl e⟩
      | true =>
        go_enter Tryz.func21, Tryz.ntmps21
        go_wp2_with fail
        go_ret2
        have hx : (((w.alloc (.cells #[.string t, .string x, .int .i64 q, .bool r] 33)).alloc (.cells #[.string t, .string x, .int .i64 0, .bool r] 33)).alloc (.cells #[.int .i64 3, .int .i64 0, .bool false, .string t, .string x, .int .i64 0, .bool r, .int .i64 0, .bool false, .int .i64 0, .string { data := #[] }, .bool false, .string { data := #[] }, .string { data := #[] }, .int .i64 0, .bool false, .bool false, .string { data := #[] }, .bool false, .string { data := #[] }, .bool false, .int .i64 0, .slice none 0 0, .slice none 0 0] 72)).heap[w.heap.size + 1 + 1]? = some (.cells #[.int .i64 3, .int .i64 0, .bool false, .string t, .string x, .int .i64 0, .bool r, .int .i64 0, .bool false, .int .i64 0, .string { data := #[] }, .bool false, .string { data := #[] }, .string { data := #[] }, .int .i64 0, .bool false, .bool false, .string { data := #[] }, .bool false, .string { data := #[] }, .bool false, .int .i64 0, .slice none 0 0, .slice none 0 0] 72 (0, 0)) := by
          have h' := heap_alloc_new ((w.alloc (.cells #[.string t, .string x, .int .i64 q, .bool r] 33)).alloc (.cells #[.string t, .string x, .int .i64 0, .bool r] 33)) (.cells #[.int .i64 3, .int .i64 0, .bool false, .string t, .string x, .int .i64 0, .bool r, .int .i64 0, .bool false, .int .i64 0, .string { data := #[] }, .bool false, .string { data := #[] }, .string { data := #[] }, .int .i64 0, .bool false, .bool false, .string { data := #[] }, .bool false, .string { data := #[] }, .bool false, .int .i64 0, .slice none 0 0, .slice none 0 0] 72)
          simpa using h'
        have B2 := ext_alloc ((w.alloc (.cells #[.string t, .string x, .int .i64 q, .bool r] 33)).alloc (.cells #[.string t, .string x, .int .i64 0, .bool r] 33)) (.cells #[.int .i64 3, .int .i64 0, .bool false, .string t, .string x, .int .i64 0, .bool r, .int .i64 0, .bool false, .int .i64 0, .string { data := #[] }, .bool false, .string { data := #[] }, .string { data := #[] }, .int .i64 0, .bool false, .bool false, .string { data := #[] }, .bool false, .string { data := #[] }, .bool false, .int .i64 0, .slice none 0 0, .slice none 0 0] 72)
        refine ⟨.slice (some ⟨w.heap.size + 1 + 1, 0, none⟩) 1 1, vq, vf, T, L, l, [Ses.e0 t x r], true, lost, rfl, S1.out.others (S := fun _ => False) (Far.of_ext B2) (fun _ e => e.elim) ?_, hT.out, K1.out.trans (Kp.of_ext B2), ⟨rfl, .inr ⟨_, 1, _, rfl, by omega, hx, Nat.le_refl _, by unfold maxLen; omega, rfl, rfl⟩⟩, fun _ => ⟨rfl, rfl, rfl, rfl, rfl, by simp⟩, fun e => absurd rfl e⟩
        rintro k (hk | hk)
        · exact .inl (.inl hk)
        · simp only [Value.ownBlock, Option.some.injEq] at hk
          subst hk
          exact .inr ⟨by simp, by simp⟩
    by_cases hb : 2 < q
    · skip
      have hdq : dq q qos = 2 := by unfold dq; omega
      rw [hdq]
      clear hdq
      have e0 := ext_two w (.cells #[.string t, .string x, .int .i64 q, .bool r] 33) (.cells #[.string t, .string x, .int .i64 2, .bool r] 33)
      have R1 : ((w.alloc (.cells #[.string t, .string x, .int .i64 q, .bool r] 33)).alloc (.cells #[.string t, .string x, .int .i64 2, .bool r] 33)).heap[w.heap.size + 1]? = some (.cells #[.string t, .string x, .int .i64 2, .bool r] 33 (0, 0)) := by
        have h' := heap_alloc_new (w.alloc (.cells #[.string t, .string x, .int .i64 q, .bool r] 33)) (.cells #[.string t, .string x, .int .i64 2, .bool r] 33)
        simpa using h'
      have S1 : Hid (Xs (fun k => A k ∨ k = w.heap.size + 1) ((w.alloc (.cells #[.string t, .string x, .int .i64 q, .bool r] 33)).alloc (.cells #[.string t, .string x, .int .i64 2, .bool r] 33)) d cl cn on vq vf L l lost) := Lib.hid (h.others (S := fun _ => False) (Far.of_ext e0) (fun _ e => e.elim) (fun k hk => hk.imp id (fun e => by subst e; exact ⟨by omega, by simp⟩)))
      have K1 : Hid (Kp A w ((w.alloc (.cells #[.string t, .string x, .int .i64 q, .bool r] 33)).alloc (.cells #[.string t, .string x, .int .i64 2, .bool r] 33))) := Lib.hid (Kp.of_ext e0)
      have x2 := S1.out.x2
      have o1 := cell_of_row _ _ 0 _ 33 (0, 0) R1
      clear o1
      replace R1 := Lib.hid R1
      replace h := Lib.hid h
      replace e0 := Lib.hid e0
      have KO := Lib.hid (fun W (hb : Below ((w.alloc (.cells #[.string t, .string x, .int .i64 q, .bool r] 33)).alloc (.cells #[.string t, .string x, .int .i64 2, .bool r] 33)).heap.size ((w.alloc (.cells #[.string t, .string x, .int .i64 q, .bool r] 33)).alloc (.cells #[.string t, .string x, .int .i64 2, .bool r] 33)) W) => xmsg_cells0 (m := ⟨t, x, 2, r⟩) (S1.out) R1.out hb)
      have SE := Lib.hid (fun W (hb : Below ((w.alloc (.cells #[.string t, .string x, .int .i64 q, .bool r] 33)).alloc (.cells #[.string t, .string x, .int .i64 2, .bool r] 33)).heap.size ((w.alloc (.cells #[.string t, .string x, .int .i64 q, .bool r] 33)).alloc (.cells #[.string t, .string x, .int .i64 2, .bool r] 33)) W) => xput_any (S1.out.ext hb) ⟨t, x, 2, r⟩ (.inr rfl) hl0 hl1)
      obtain ⟨k0, k1, k2, k3, k5⟩ := KO.out _ (Below.refl _ _)
      have k0 := k0
      go_enter Tryz.func21, Tryz.ntmps21
      go_wp2_with fail
      generalize hW1 : ((w.alloc (.cells #[.string t, .string x, .int .i64 q, .bool r] 33)).alloc (.cells #[.string t, .string x, .int .i64 2, .bool r] 33)) = w1 at *
      go_region_held3 (fun W => W.cell? ⟨d.x, 3, none⟩ = some (.pointer (some ⟨d.q, 0, none⟩)) ∧ W.cell? ⟨w.heap.size + 1, 0, none⟩ = some (.string t) ∧ W.cell? ⟨w.heap.size + 1, 1, none⟩ = some (.string x) ∧ W.cell? ⟨w.heap.size + 1, 2, none⟩ = some (.int .i64 2) ∧ W.cell? ⟨w.heap.size + 1, 3, none⟩ = some (.bool r))
        (first | exact KO.out _ (by first | exact Below.refl _ _ | exact ext_drew _ | assumption) | exact KA.out _ (by first | exact Below.refl _ _ | exact ext_drew _ | assumption))
        (first
          | (go_at_call 46; refine (SE.out _ (by first | exact Below.refl _ _ | exact ext_drew _ | assumption)).mono ?_; rintro e w4 ⟨rfl, vq4, s4, k4⟩; have X4 := Lib.hid (xput_end (m := ⟨t, x, 2, r⟩) K1.out R1.out (by first | exact Below.refl _ _ | exact ext_drew _) s4 k4); clear s4 k4; have KA := Lib.hid (fun W (hb : Below w4.heap.size w4 W) => xmsg_cells0 (m := ⟨t, x, 2, r⟩) X4.out.1 X4.out.2.2 hb)))
      all_goals
        obtain ⟨s4, k4, r4⟩ := X4.out
        have FL := Lib.hid (xfill_any s4 hT.out (fun k hk => Nat.lt_of_lt_of_le (hA.out k hk) k4.size))
        replace k4 := Lib.hid k4
        clear KA KO SE X4 s4 r4
        go_wp2_with fail
        refine FL.out.mono ?_
        rintro e w5 ⟨v, vq5, vf5, T', L', l', P, rfl, s5, t5, k6, o5, e5⟩
        obtain ⟨va, vc, rfl⟩ := own_slice o5
        have X5 := Lib.hid (⟨s5, t5, k4.out.trans k6, own_base o5 k4.out.size, e5⟩ : _ ∧ _ ∧ _ ∧ _ ∧ _)
        clear s5 t5 k6 o5 e5
        go_wp2_with fail
        go_ret2
        exact ⟨_, vq5, vf5, T', L', l', P, _, _, rfl, X5.out.1, X5.out.2.1, X5.out.2.2.1, X5.out.2.2.2.1, fun e => by simp at e, fun _ => ⟨rfl, rfl, X5.out.2.2.2.2⟩⟩
    by_cases hz : q = 0
    · subst hz
      have hdq : dq 0 qos = 0 := by unfold dq; omega
      rw [hdq]
      clear hdq
      have e0 := ext_two w (.cells #[.string t, .string x, .int .i64 0, .bool r] 33) (.cells #[.string t, .string x, .int .i64 0, .bool r] 33)
      have R1 : ((w.alloc (.cells #[.string t, .string x, .int .i64 0, .bool r] 33)).alloc (.cells #[.string t, .string x, .int .i64 0, .bool r] 33)).heap[w.heap.size + 1]? = some (.cells #[.string t, .string x, .int .i64 0, .bool r] 33 (0, 0)) := by
        have h' := heap_alloc_new (w.alloc (.cells #[.string t, .string x, .int .i64 0, .bool r] 33)) (.cells #[.string t, .string x, .int .i64 0, .bool r] 33)
        simpa using h'
      have S1 : Hid (Xs (fun k => A k ∨ k = w.heap.size + 1) ((w.alloc (.cells #[.string t, .string x, .int .i64 0, .bool r] 33)).alloc (.cells #[.string t, .string x, .int .i64 0, .bool r] 33)) d cl cn on vq vf L l lost) := Lib.hid (h.others (S := fun _ => False) (Far.of_ext e0) (fun _ e => e.elim) (fun k hk => hk.imp id (fun e => by subst e; exact ⟨by omega, by simp⟩)))
      have K1 : Hid (Kp A w ((w.alloc (.cells #[.string t, .string x, .int .i64 0, .bool r] 33)).alloc (.cells #[.string t, .string x, .int .i64 0, .bool r] 33))) := Lib.hid (Kp.of_ext e0)
      have x2 := S1.out.x2
      have o1 := cell_of_row _ _ 0 _ 33 (0, 0) R1
      clear o1
      replace R1 := Lib.hid R1
      replace h := Lib.hid h
      replace e0 := Lib.hid e0
      cases on with
      | false =>
        go_enter Tryz.func21, Tryz.ntmps21
        go_wp2_with fail
        go_ret2
        exact ⟨_, vq, vf, T, L, l, [], _, _, rfl, S1.out.weaken (fun k hk => .inl (hk.elim id (fun e => by cases e))), hT.out, K1.out, World.ownsRow_nil _ _ _ _, fun _ => ⟨rfl, rfl, rfl, rfl, rfl, by simp⟩, fun e => absurd rfl e⟩
      | true =>
        go_enter Tryz.func21, Tryz.ntmps21
        go_wp2_with fail
        go_ret2
        have hx : (((w.alloc (.cells #[.string t, .string x, .int .i64 0, .bool r] 33)).alloc (.cells #[.string t, .string x, .int .i64 0, .bool r] 33)).alloc (.cells #[.int .i64 3, .int .i64 0, .bool false, .string t, .string x, .int .i64 0, .bool r, .int .i64 0, .bool false, .int .i64 0, .string { data := #[] }, .bool false, .string { data := #[] }, .string { data := #[] }, .int .i64 0, .bool false, .bool false, .string { data := #[] }, .bool false, .string { data := #[] }, .bool false, .int .i64 0, .slice none 0 0, .slice none 0 0] 72)).heap[w.heap.size + 1 + 1]? = some (.cells #[.int .i64 3, .int .i64 0, .bool false, .string t, .string x, .int .i64 0, .bool r, .int .i64 0, .bool false, .int .i64 0, .string { data := #[] }, .bool false, .string { data := #[] }, .string { data := #[] }, .int .i64 0, .bool false, .bool false, .string { data := #[] }, .bool false, .string { data := #[] }, .bool false, .int .i64 0, .slice none 0 0, .slice none 0 0] 72 (0, 0)) := by
          have h' := heap_alloc_new ((w.alloc (.cells #[.string t, .string x, .int .i64 0, .bool r] 33)).alloc (.cells #[.string t, .string x, .int .i64 0, .bool r] 33)) (.cells #[.int .i64 3, .int .i64 0, .bool false, .string t, .string x, .int .i64 0, .bool r, .int .i64 0, .bool false, .int .i64 0, .string { data := #[] }, .bool false, .string { data := #[] }, .string { data := #[] }, .int .i64 0, .bool false, .bool false, .string { data := #[] }, .bool false, .string { data := #[] }, .bool false, .int .i64 0, .slice none 0 0, .slice none 0 0] 72)
          simpa using h'
        have B2 := ext_alloc ((w.alloc (.cells #[.string t, .string x, .int .i64 0, .bool r] 33)).alloc (.cells #[.string t, .string x, .int .i64 0, .bool r] 33)) (.cells #[.int .i64 3, .int .i64 0, .bool false, .string t, .string x, .int .i64 0, .bool r, .int .i64 0, .bool false, .int .i64 0, .string { data := #[] }, .bool false, .string { data := #[] }, .string { data := #[] }, .int .i64 0, .bool false, .bool false, .string { data := #[] }, .bool false, .string { data := #[] }, .bool false, .int .i64 0, .slice none 0 0, .slice none 0 0] 72)
        refine ⟨.slice (some ⟨w.heap.size + 1 + 1, 0, none⟩) 1 1, vq, vf, T, L, l, [Ses.e0 t x r], true, lost, rfl, S1.out.others (S := fun _ => False) (Far.of_ext B2) (fun _ e => e.elim) ?_, hT.out, K1.out.trans (Kp.of_ext B2), ⟨rfl, .inr ⟨_, 1, _, rfl, by omega, hx, Nat.le_refl _, by unfold maxLen; omega, rfl, rfl⟩⟩, fun _ => ⟨rfl, rfl, rfl, rfl, rfl, by simp⟩, fun e => absurd rfl e⟩
        rintro k (hk | hk)
        · exact .inl (.inl hk)
        · simp only [Value.ownBlock, Option.some.injEq] at hk
          subst hk
          exact .inr ⟨by simp, by simp⟩
    by_cases ho : q = 1
    · subst ho
      have hdq : dq 1 qos = 1 := by unfold dq; omega
      rw [hdq]
      clear hdq
      have e0 := ext_two w (.cells #[.string t, .string x, .int .i64 1, .bool r] 33) (.cells #[.string t, .string x, .int .i64 1, .bool r] 33)
      have R1 : ((w.alloc (.cells #[.string t, .string x, .int .i64 1, .bool r] 33)).alloc (.cells #[.string t, .string x, .int .i64 1, .bool r] 33)).heap[w.heap.size + 1]? = some (.cells #[.string t, .string x, .int .i64 1, .bool r] 33 (0, 0)) := by
        have h' := heap_alloc_new (w.alloc (.cells #[.string t, .string x, .int .i64 1, .bool r] 33)) (.cells #[.string t, .string x, .int .i64 1, .bool r] 33)
        simpa using h'
      have S1 : Hid (Xs (fun k => A k ∨ k = w.heap.size + 1) ((w.alloc (.cells #[.string t, .string x, .int .i64 1, .bool r] 33)).alloc (.cells #[.string t, .string x, .int .i64 1, .bool r] 33)) d cl cn on vq vf L l lost) := Lib.hid (h.others (S := fun _ => False) (Far.of_ext e0) (fun _ e => e.elim) (fun k hk => hk.imp id (fun e => by subst e; exact ⟨by omega, by simp⟩)))
      have K1 : Hid (Kp A w ((w.alloc (.cells #[.string t, .string x, .int .i64 1, .bool r] 33)).alloc (.cells #[.string t, .string x, .int .i64 1, .bool r] 33))) := Lib.hid (Kp.of_ext e0)
      have x2 := S1.out.x2
      have o1 := cell_of_row _ _ 0 _ 33 (0, 0) R1
      clear o1
      replace R1 := Lib.hid R1
      replace h := Lib.hid h
      replace e0 := Lib.hid e0
      have KO := Lib.hid (fun W (hb : Below ((w.alloc (.cells #[.string t, .string x, .int .i64 1, .bool r] 33)).alloc (.cells #[.string t, .string x, .int .i64 1, .bool r] 33)).heap.size ((w.alloc (.cells #[.string t, .string x, .int .i64 1, .bool r] 33)).alloc (.cells #[.string t, .string x, .int .i64 1, .bool r] 33)) W) => xmsg_cells0 (m := ⟨t, x, 1, r⟩) (S1.out) R1.out hb)
      have SE := Lib.hid (fun W (hb : Below ((w.alloc (.cells #[.string t, .string x, .int .i64 1, .bool r] 33)).alloc (.cells #[.string t, .string x, .int .i64 1, .bool r] 33)).heap.size ((w.alloc (.cells #[.string t, .string x, .int .i64 1, .bool r] 33)).alloc (.cells #[.string t, .string x, .int .i64 1, .bool r] 33)) W) => xput_any (S1.out.ext hb) ⟨t, x, 1, r⟩ (.inl rfl) hl0 hl1)
      obtain ⟨k0, k1, k2, k3, k5⟩ := KO.out _ (Below.refl _ _)
      have k0 := k0
      go_enter Tryz.func21, Tryz.ntmps21
      go_wp2_with fail
      generalize hW1 : ((w.alloc (.cells #[.string t, .string x, .int .i64 1, .bool r] 33)).alloc (.cells #[.string t, .string x, .int .i64 1, .bool r] 33)) = w1 at *
      go_region_held3 (fun W => W.cell? ⟨d.x, 3, none⟩ = some (.pointer (some ⟨d.q, 0, none⟩)) ∧ W.cell? ⟨w.heap.size + 1, 0, none⟩ = some (.string t) ∧ W.cell? ⟨w.heap.size + 1, 1, none⟩ = some (.string x) ∧ W.cell? ⟨w.heap.size + 1, 2, none⟩ = some (.int .i64 1) ∧ W.cell? ⟨w.heap.size + 1, 3, none⟩ = some (.bool r))
        (first | exact KO.out _ (by first | exact Below.refl _ _ | exact ext_drew _ | assumption) | exact KA.out _ (by first | exact Below.refl _ _ | exact ext_drew _ | assumption))
        (first
          | (go_at_call 46; refine (SE.out _ (by first | exact Below.refl _ _ | exact ext_drew _ | assumption)).mono ?_; rintro e w4 ⟨rfl, vq4, s4, k4⟩; have X4 := Lib.hid (xput_end (m := ⟨t, x, 1, r⟩) K1.out R1.out (by first | exact Below.refl _ _ | exact ext_drew _) s4 k4); clear s4 k4; have KA := Lib.hid (fun W (hb : Below w4.heap.size w4 W) => xmsg_cells0 (m := ⟨t, x, 1, r⟩) X4.out.1 X4.out.2.2 hb)))
      all_goals
        obtain ⟨s4, k4, r4⟩ := X4.out
        have FL := Lib.hid (xfill_any s4 hT.out (fun k hk => Nat.lt_of_lt_of_le (hA.out k hk) k4.size))
        replace k4 := Lib.hid k4
        clear KA KO SE X4 s4 r4
        go_wp2_with fail
        refine FL.out.mono ?_
        rintro e w5 ⟨v, vq5, vf5, T', L', l', P, rfl, s5, t5, k6, o5, e5⟩
        obtain ⟨va, vc, rfl⟩ := own_slice o5
        have X5 := Lib.hid (⟨s5, t5, k4.out.trans k6, own_base o5 k4.out.size, e5⟩ : _ ∧ _ ∧ _ ∧ _ ∧ _)
        clear s5 t5 k6 o5 e5
        go_wp2_with fail
        go_ret2
        exact ⟨_, vq5, vf5, T', L', l', P, _, _, rfl, X5.out.1, X5.out.2.1, X5.out.2.2.1, X5.out.2.2.2.1, fun e => by simp at e, fun _ => ⟨rfl, rfl, X5.out.2.2.2.2⟩⟩
    · obtain rfl : q = 2 := by omega
      have hdq : dq 2 qos = 2 := by unfold dq; omega
      rw [hdq]
      clear hdq
      have e0 := ext_two w (.cells #[.string t, .string x, .int .i64 2, .bool r] 33) (.cells #[.string t, .string x, .int .i64 2, .bool r] 33)
      have R1 : ((w.alloc (.cells #[.string t, .string x, .int .i64 2, .bool r] 33)).alloc (.cells #[.string t, .string x, .int .i64 2, .bool r] 33)).heap[w.heap.size + 1]? = some (.cells #[.string t, .string x, .int .i64 2, .bool r] 33 (0, 0)) := by
        have h' := heap_alloc_new (w.alloc (.cells #[.string t, .string x, .int .i64 2, .bool r] 33)) (.cells #[.string t, .string x, .int .i64 2, .bool r] 33)
        simpa using h'
      have S1 : Hid (Xs (fun k => A k ∨ k = w.heap.size + 1) ((w.alloc (.cells #[.string t, .string x, .int .i64 2, .bool r] 33)).alloc (.cells #[.string t, .string x, .int .i64 2, .bool r] 33)) d cl cn on vq vf L l lost) := Lib.hid (h.others (S := fun _ => False) (Far.of_ext e0) (fun _ e => e.elim) (fun k hk => hk.imp id (fun e => by subst e; exact ⟨by omega, by simp⟩)))
      have K1 : Hid (Kp A w ((w.alloc (.cells #[.string t, .string x, .int .i64 2, .bool r] 33)).alloc (.cells #[.string t, .string x, .int .i64 2, .bool r] 33))) := Lib.hid (Kp.of_ext e0)
      have x2 := S1.out.x2
      have o1 := cell_of_row _ _ 0 _ 33 (0, 0) R1
      clear o1
      replace R1 := Lib.hid R1
      replace h := Lib.hid h
      replace e0 := Lib.hid e0
      have KO := Lib.hid (fun W (hb : Below ((w.alloc (.cells #[.string t, .string x, .int .i64 2, .bool r] 33)).alloc (.cells #[.string t, .string x, .int .i64 2, .bool r] 33)).heap.size ((w.alloc (.cells #[.string t, .string x, .int .i64 2, .bool r] 33)).alloc (.cells #[.string t, .string x, .int .i64 2, .bool r] 33)) W) => xmsg_cells0 (m := ⟨t, x, 2, r⟩) (S1.out) R1.out hb)
      have SE := Lib.hid (fun W (hb : Below ((w.alloc (.cells #[.string t, .string x, .int .i64 2, .bool r] 33)).alloc (.cells #[.string t, .string x, .int .i64 2, .bool r] 33)).heap.size ((w.alloc (.cells #[.string t, .string x, .int .i64 2, .bool r] 33)).alloc (.cells #[.string t, .string x, .int .i64 2, .bool r] 33)) W) => xput_any (S1.out.ext hb) ⟨t, x, 2, r⟩ (.inr rfl) hl0 hl1)
      obtain ⟨k0, k1, k2, k3, k5⟩ := KO.out _ (Below.refl _ _)
      have k0 := k0
      go_enter Tryz.func21, Tryz.ntmps21
      go_wp2_with fail
      generalize hW1 : ((w.alloc (.cells #[.string t, .string x, .int .i64 2, .bool r] 33)).alloc (.cells #[.string t, .string x, .int .i64 2, .bool r] 33)) = w1 at *
      go_region_held3 (fun W => W.cell? ⟨d.x, 3, none⟩ = some (.pointer (some ⟨d.q, 0, none⟩)) ∧ W.cell? ⟨w.heap.size + 1, 0, none⟩ = some (.string t) ∧ W.cell? ⟨w.heap.size + 1, 1, none⟩ = some (.string x) ∧ W.cell? ⟨w.heap.size + 1, 2, none⟩ = some (.int .i64 2) ∧ W.cell? ⟨w.heap.size + 1, 3, none⟩ = some (.bool r))
        (first | exact KO.out _ (by first | exact Below.refl _ _ | exact ext_drew _ | assumption) | exact KA.out _ (by first | exact Below.refl _ _ | exact ext_drew _ | assumption))
        (first
          | (go_at_call 46; refine (SE.out _ (by first | exact Below.refl _ _ | exact ext_drew _ | assumption)).mono ?_; rintro e w4 ⟨rfl, vq4, s4, k4⟩; have X4 := Lib.hid (xput_end (m := ⟨t, x, 2, r⟩) K1.out R1.out (by first | exact Below.refl _ _ | exact ext_drew _) s4 k4); clear s4 k4; have KA := Lib.hid (fun W (hb : Below w4.heap.size w4 W) => xmsg_cells0 (m := ⟨t, x, 2, r⟩) X4.out.1 X4.out.2.2 hb)))
      all_goals
        obtain ⟨s4, k4, r4⟩ := X4.out
        have FL := Lib.hid (xfill_any s4 hT.out (fun k hk => Nat.lt_of_lt_of_le (hA.out k hk) k4.size))
        replace k4 := Lib.hid k4
        clear KA KO SE X4 s4 r4
        go_wp2_with fail
        refine FL.out.mono ?_
        rintro e w5 ⟨v, vq5, vf5, T', L', l', P, rfl, s5, t5, k6, o5, e5⟩
        obtain ⟨va, vc, rfl⟩ := own_slice o5
        have X5 := Lib.hid (⟨s5, t5, k4.out.trans k6, own_base o5 k4.out.size, e5⟩ : _ ∧ _ ∧ _ ∧ _ ∧ _)
        clear s5 t5 k6 o5 e5
        go_wp2_with fail
        go_ret2
        exact ⟨_, vq5, vf5, T', L', l', P, _, _, rfl, X5.out.1, X5.out.2.1, X5.out.2.2.1, X5.out.2.2.2.1, fun e => by simp at e, fun _ => ⟨rfl, rfl, X5.out.2.2.2.2⟩⟩
  · have hmn : min q qos = qos := by omega
    have h1' : qos < q := by omega
    by_cases hn : qos < 0
    · skip
      have hdq : dq q qos = 0 := by unfold dq; omega
      rw [hdq]
      clear hdq
      have e0 := ext_two w (.cells #[.string t, .string x, .int .i64 q, .bool r] 33) (.cells #[.string t, .string x, .int .i64 0, .bool r] 33)
      have R1 : ((w.alloc (.cells #[.string t, .string x, .int .i64 q, .bool r] 33)).alloc (.cells #[.string t, .string x, .int .i64 0, .bool r] 33)).heap[w.heap.size + 1]? = some (.cells #[.string t, .string x, .int .i64 0, .bool r] 33 (0, 0)) := by
        have h' := heap_alloc_new (w.alloc (.cells #[.string t, .string x, .int .i64 q, .bool r] 33)) (.cells #[.string t, .string x, .int .i64 0, .bool r] 33)
        simpa using h'
      have S1 : Hid (Xs (fun k => A k ∨ k = w.heap.size + 1) ((w.alloc (.cells #[.string t, .string x, .int .i64 q, .bool r] 33)).alloc (.cells #[.string t, .string x, .int .i64 0, .bool r] 33)) d cl cn on vq vf L l lost) := Lib.hid (h.others (S := fun _ => False) (Far.of_ext e0) (fun _ e => e.elim) (fun k hk => hk.imp id (fun e => by subst e; exact ⟨by omega, by simp⟩)))
      have K1 : Hid (Kp A w ((w.alloc (.cells #[.string t, .string x, .int .i64 q, .bool r] 33)).alloc (.cells #[.string t, .string x, .int .i64 0, .bool r] 33))) := Lib.hid (Kp.of_ext e0)
      have x2 := S1.out.x2
      have o1 := cell_of_row _ _ 0 _ 33 (0, 0) R1
      clear o1
      replace R1 := Lib.hid R1
      replace h := Lib.hid h
      replace e0 := Lib.hid e0
      cases on with
      | false =>
        go_enter Tryz.func21, Tryz.ntmps21
        go_wp2_with fail
        go_ret2
        exact ⟨_, vq, vf, T, L, l, [], _, _, rfl, S1.out.weaken (fun k hk => .inl (hk.elim id (fun e => by cases e))), hT.out, K1.out, World.ownsRow_nil _ _ _ _, fun _ => ⟨rfl, rfl, rfl, rfl, rfl, by simp⟩, fun e => absurd rfl e⟩
      | true =>
        go_enter Tryz.func21, Tryz.ntmps21
        go_wp2_with fail
        go_ret2
        have hx : (((w.alloc (.cells #[.string t, .string x, .int .i64 q, .bool r] 33)).alloc (.cells #[.string t, .string x, .int .i64 0, .bool r] 33)).alloc (.cells #[.int .i64 3, .int .i64 0, .bool false, .string t, .string x, .int .i64 0, .bool r, .int .i64 0, .bool false, .int .i64 0, .string { data := #[] }, .bool false, .string { data := #[] }, .string { data := #[] }, .int .i64 0, .bool false, .bool false, .string { data := #[] }, .bool false, .string { data := #[] }, .bool false, .int .i64 0, .slice none 0 0, .slice none 0 0] 72)).heap[w.heap.size + 1 + 1]? = some (.cells #[.int .i64 3, .int .i64 0, .bool false, .string t, .string x, .int .i64 0, .bool r, .int .i64 0, .bool false, .int .i64 0, .string { data := #[] }, .bool false, .string { data := #[] }, .string { data := #[] }, .int .i64 0, .bool false, .bool false, .string { data := #[] }, .bool false, .string { data := #[] }, .bool false, .int .i64 0, .slice none 0 0, .slice none 0 0] 72 (0, 0)) := by
          have h' := heap_alloc_new ((w.alloc (.cells #[.string t, .string x, .int .i64 q, .bool r] 33)).alloc (.cells #[.string t, .string x, .int .i64 0, .bool r] 33)) (.cells #[.int .i64 3, .int .i64 0, .bool false, .string t, .string x, .int .i64 0, .bool r, .int .i64 0, .bool false, .int .i64 0, .string { data := #[] }, .bool false, .string { data := #[] }, .string { data := #[] }, .int .i64 0, .bool false, .bool false, .string { data := #[] }, .bool false, .string { data := #[] }, .bool false, .int .i64 0, .slice none 0 0, .slice none 0 0] 72)
          simpa using h'
        have B2 := ext_alloc ((w.alloc (.cells #[.string t, .string x, .int .i64 q, .bool r] 33)).alloc (.cells #[.string t, .string x, .int .i64 0, .bool r] 33)) (.cells #[.int .i64 3, .int .i64 0, .bool false, .string t, .string x, .int .i64 0, .bool r, .int .i64 0, .bool false, .int .i64 0, .string { data := #[] }, .bool false, .string { data := #[] }, .string { data := #[] }, .int .i64 0, .bool false, .bool false, .string { data := #[] }, .bool false, .string { data := #[] }, .bool false, .int .i64 0, .slice none 0 0, .slice none 0 0] 72)
        refine ⟨.slice (some ⟨w.heap.size + 1 + 1, 0, none⟩) 1 1, vq, vf, T, L, l, [Ses.e0 t x r], true, lost, rfl, S1.out.others (S := fun _ => False) (Far.of_ext B2) (fun _ e => e.elim) ?_, hT.out, K1.out.trans (Kp.of_ext B2), ⟨rfl, .inr ⟨_, 1, _, rfl, by omega, hx, Nat.le_refl _, by unfold maxLen; omega, rfl, rfl⟩⟩, fun _ => ⟨rfl, rfl, rfl, rfl, rfl, by simp⟩, fun e => absurd rfl e⟩
        rintro k (hk | hk)
        · exact .inl (.inl hk)
        · simp only [Value.ownBlock, Option.some.injEq] at hk
          subst hk
          exact .inr ⟨by simp, by simp⟩
    by_cases hb : 2 < qos
    · skip
      have hdq : dq q qos = 2 := by unfold dq; omega
      rw [hdq]
      clear hdq
      have e0 := ext_two w (.cells #[.string t, .string x, .int .i64 q, .bool r] 33) (.cells #[.string t, .string x, .int .i64 2, .bool r] 33)
      have R1 : ((w.alloc (.cells #[.string t, .string x, .int .i64 q, .bool r] 33)).alloc (.cells #[.string t, .string x, .int .i64 2, .bool r] 33)).heap[w.heap.size + 1]? = some (.cells #[.string t, .string x, .int .i64 2, .bool r] 33 (0, 0)) := by
        have h' := heap_alloc_new (w.alloc (.cells #[.string t, .string x, .int .i64 q, .bool r] 33)) (.cells #[.string t, .string x, .int .i64 2, .bool r] 33)
        simpa using h'
      have S1 : Hid (Xs (fun k => A k ∨ k = w.heap.size + 1) ((w.alloc (.cells #[.string t, .string x, .int .i64 q, .bool r] 33)).alloc (.cells #[.string t, .string x, .int .i64 2, .bool r] 33)) d cl cn on vq vf L l lost) := Lib.hid (h.others (S := fun _ => False) (Far.of_ext e0) (fun _ e => e.elim) (fun k hk => hk.imp id (fun e => by subst e; exact ⟨by omega, by simp⟩)))
      have K1 : Hid (Kp A w ((w.alloc (.cells #[.string t, .string x, .int .i64 q, .bool r] 33)).alloc (.cells #[.string t, .string x, .int .i64 2, .bool r] 33))) := Lib.hid (Kp.of_ext e0)
      have x2 := S1.out.x2
      have o1 := cell_of_row _ _ 0 _ 33 (0, 0) R1
      clear o1
      replace R1 := Lib.hid R1
      replace h := Lib.hid h
      replace e0 := Lib.hid e0
      have KO := Lib.hid (fun W (hb : Below ((w.alloc (.cells #[.string t, .string x, .int .i64 q, .bool r] 33)).alloc (.cells #[.string t, .string x, .int .i64 2, .bool r] 33)).heap.size ((w.alloc (.cells #[.string t, .string x, .int .i64 q, .bool r] 33)).alloc (.cells #[.string t, .string x, .int .i64 2, .bool r] 33)) W) => xmsg_cells0 (m := ⟨t, x, 2, r⟩) (S1.out) R1.out hb)
      have SE := Lib.hid (fun W (hb : Below ((w.alloc (.cells #[.string t, .string x, .int .i64 q, .bool r] 33)).alloc (.cells #[.string t, .string x, .int .i64 2, .bool r] 33)).heap.size ((w.alloc (.cells #[.string t, .string x, .int .i64 q, .bool r] 33)).alloc (.cells #[.string t, .string x, .int .i64 2, .bool r] 33)) W) => xput_any (S1.out.ext hb) ⟨t, x, 2, r⟩ (.inr rfl) hl0 hl1)
      obtain ⟨k0, k1, k2, k3, k5⟩ := KO.out _ (Below.refl _ _)
      have k0 := k0
      go_enter Tryz.func21, Tryz.ntmps21
      go_wp2_with fail
      generalize hW1 : ((w.alloc (.cells #[.string t, .string x, .int .i64 q, .bool r] 33)).alloc (.cells #[.string t, .string x, .int .i64 2, .bool r] 33)) = w1 at *
      go_region_held3 (fun W => W.cell? ⟨d.x, 3, none⟩ = some (.pointer (some ⟨d.q, 0, none⟩)) ∧ W.cell? ⟨w.heap.size + 1, 0, none⟩ = some (.string t) ∧ W.cell? ⟨w.heap.size + 1, 1, none⟩ = some (.string x) ∧ W.cell? ⟨w.heap.size + 1, 2, none⟩ = some (.int .i64 2) ∧ W.cell? ⟨w.heap.size + 1, 3, none⟩ = some (.bool r))
        (first | exact KO.out _ (by first | exact Below.refl _ _ | exact ext_drew _ | assumption) | exact KA.out _ (by first | exact Below.refl _ _ | exact ext_drew _ | assumption))
        (first
          | (go_at_call 46; refine (SE.out _ (by first | exact Below.refl _ _ | exact ext_drew _ | assumption)).mono ?_; rintro e w4 ⟨rfl, vq4, s4, k4⟩; have X4 := Lib.hid (xput_end (m := ⟨t, x, 2, r⟩) K1.out R1.out (by first | exact Below.refl _ _ | exact ext_drew _) s4 k4); clear s4 k4; have KA := Lib.hid (fun W (hb : Below w4.heap.size w4 W) => xmsg_cells0 (m := ⟨t, x, 2, r⟩) X4.out.1 X4.out.2.2 hb)))
      all_goals
        obtain ⟨s4, k4, r4⟩ := X4.out
        have FL := Lib.hid (xfill_any s4 hT.out (fun k hk => Nat.lt_of_lt_of_le (hA.out k hk) k4.size))
        replace k4 := Lib.hid k4
        clear KA KO SE X4 s4 r4
        go_wp2_with fail
        refine FL.out.mono ?_
        rintro e w5 ⟨v, vq5, vf5, T', L', l', P, rfl, s5, t5, k6, o5, e5⟩
        obtain ⟨va, vc, rfl⟩ := own_slice o5
        have X5 := Lib.hid (⟨s5, t5, k4.out.trans k6, own_base o5 k4.out.size, e5⟩ : _ ∧ _ ∧ _ ∧ _ ∧ _)
        clear s5 t5 k6 o5 e5
        go_wp2_with fail
        go_ret2
        exact ⟨_, vq5, vf5, T', L', l', P, _, _, rfl, X5.out.1, X5.out.2.1, X5.out.2.2.1, X5.out.2.2.2.1, fun e => by simp at e, fun _ => ⟨rfl, rfl, X5.out.2.2.2.2⟩⟩
    by_cases hz : qos = 0
    · subst hz
      have hdq : dq q 0 = 0 := by unfold dq; omega
      rw [hdq]
      clear hdq
      have e0 := ext_two w (.cells #[.string t, .string x, .int .i64 q, .bool r] 33) (.cells #[.string t, .string x, .int .i64 0, .bool r] 33)
      have R1 : ((w.alloc (.cells #[.string t, .string x, .int .i64 q, .bool r] 33)).alloc (.cells #[.string t, .string x, .int .i64 0, .bool r] 33)).heap[w.heap.size + 1]? = some (.cells #[.string t, .string x, .int .i64 0, .bool r] 33 (0, 0)) := by
        have h' := heap_alloc_new (w.alloc (.cells #[.string t, .string x, .int .i64 q, .bool r] 33)) (.cells #[.string t, .string x, .int .i64 0, .bool r] 33)
        simpa using h'
      have S1 : Hid (Xs (fun k => A k ∨ k = w.heap.size + 1) ((w.alloc (.cells #[.string t, .string x, .int .i64 q, .bool r] 33)).alloc (.cells #[.string t, .string x, .int .i64 0, .bool r] 33)) d cl cn on vq vf L l lost) := Lib.hid (h.others (S := fun _ => False) (Far.of_ext e0) (fun _ e => e.elim) (fun k hk => hk.imp id (fun e => by subst e; exact ⟨by omega, by simp⟩)))
      have K1 : Hid (Kp A w ((w.alloc (.cells #[.string t, .string x, .int .i64 q, .bool r] 33)).alloc (.cells #[.string t, .string x, .int .i64 0, .bool r] 33))) := Lib.hid (Kp.of_ext e0)
      have x2 := S1.out.x2
      have o1 := cell_of_row _ _ 0 _ 33 (0, 0) R1
      clear o1
      replace R1 := Lib.hid R1
      replace h := Lib.hid h
      replace e0 := Lib.hid e0
      cases on with
      | false =>
        go_enter Tryz.func21, Tryz.ntmps21
        go_wp2_with fail
        go_ret2
        exact ⟨_, vq, vf, T, L, l, [], _, _, rfl, S1.out.weaken (fun k hk => .inl (hk.elim id (fun e => by cases e))), hT.out, K1.out, World.ownsRow_nil _ _ _ _, fun _ => ⟨rfl, rfl, rfl, rfl, rfl, by simp⟩, fun e => absurd rfl e⟩
      | true =>
        go_enter Tryz.func21, Tryz.ntmps21
        go_wp2_with fail
        go_ret2
        have hx : (((w.alloc (.cells #[.string t, .string x, .int .i64 q, .bool r] 33)).alloc (.cells #[.string t, .string x, .int .i64 0, .bool r] 33)).alloc (.cells #[.int .i64 3, .int .i64 0, .bool false, .string t, .string x, .int .i64 0, .bool r, .int .i64 0, .bool false, .int .i64 0, .string { data := #[] }, .bool false, .string { data := #[] }, .string { data := #[] }, .int .i64 0, .bool false, .bool false, .string { data := #[] }, .bool false, .string { data := #[] }, .bool false, .int .i64 0, .slice none 0 0, .slice none 0 0] 72)).heap[w.heap.size + 1 + 1]? = some (.cells #[.int .i64 3, .int .i64 0, .bool false, .string t, .string x, .int .i64 0, .bool r, .int .i64 0, .bool false, .int .i64 0, .string { data := #[] }, .bool false, .string { data := #[] }, .string { data := #[] }, .int .i64 0, .bool false, .bool false, .string { data := #[] }, .bool false, .string { data := #[] }, .bool false, .int .i64 0, .slice none 0 0, .slice none 0 0] 72 (0, 0)) := by
          have h' := heap_alloc_new ((w.alloc (.cells #[.string t, .string x, .int .i64 q, .bool r] 33)).alloc (.cells #[.string t, .string x, .int .i64 0, .bool r] 33)) (.cells #[.int .i64 3, .int .i64 0, .bool false, .string t, .string x, .int .i64 0, .bool r, .int .i64 0, .bool false, .int .i64 0, .string { data := #[] }, .bool false, .string { data := #[] }, .string { data := #[] }, .int .i64 0, .bool false, .bool false, .string { data := #[] }, .bool false, .string { data := #[] }, .bool false, .int .i64 0, .slice none 0 0, .slice none 0 0] 72)
          simpa using h'
        have B2 := ext_alloc ((w.alloc (.cells #[.string t, .string x, .int .i64 q, .bool r] 33)).alloc (.cells #[.string t, .string x, .int .i64 0, .bool r] 33)) (.cells #[.int .i64 3, .int .i64 0, .bool false, .string t, .string x, .int .i64 0, .bool r, .int .i64 0, .bool false, .int .i64 0, .string { data := #[] }, .bool false, .string { data := #[] }, .string { data := #[] }, .int .i64 0, .bool false, .bool false, .string { data := #[] }, .bool false, .string { data := #[] }, .bool false, .int .i64 0, .slice none 0 0, .slice none 0 0] 72)
        refine ⟨.slice (some ⟨w.heap.size + 1 + 1, 0, none⟩) 1 1, vq, vf, T, L, l, [Ses.e0 t x r], true, lost, rfl, S1.out.others (S := fun _ => False) (Far.of_ext B2) (fun _ e => e.elim) ?_, hT.out, K1.out.trans (Kp.of_ext B2), ⟨rfl, .inr ⟨_, 1, _, rfl, by omega, hx, Nat.le_refl _, by unfold maxLen; omega, rfl, rfl⟩⟩, fun _ => ⟨rfl, rfl, rfl, rfl, rfl, by simp⟩, fun e => absurd rfl e⟩
        rintro k (hk | hk)
        · exact .inl (.inl hk)
        · simp only [Value.ownBlock, Option.some.injEq] at hk
          subst hk
          exact .inr ⟨by simp, by simp⟩
    by_cases ho : qos = 1
    · subst ho
      have hdq : dq q 1 = 1 := by unfold dq; omega
      rw [hdq]
      clear hdq
      have e0 := ext_two w (.cells #[.string t, .string x, .int .i64 q, .bool r] 33) (.cells #[.string t, .string x, .int .i64 1, .bool r] 33)
      have R1 : ((w.alloc (.cells #[.string t, .string x, .int .i64 q, .bool r] 33)).alloc (.cells #[.string t, .string x, .int .i64 1, .bool r] 33)).heap[w.heap.size + 1]? = some (.cells #[.string t, .string x, .int .i64 1, .bool r] 33 (0, 0)) := by
        have h' := heap_alloc_new (w.alloc (.cells #[.string t, .string x, .int .i64 q, .bool r] 33)) (.cells #[.string t, .string x, .int .i64 1, .bool r] 33)
        simpa using h'
      have S1 : Hid (Xs (fun k => A k ∨ k = w.heap.size + 1) ((w.alloc (.cells #[.string t, .string x, .int .i64 q, .bool r] 33)).alloc (.cells #[.string t, .string x, .int .i64 1, .bool r] 33)) d cl cn on vq vf L l lost) := Lib.hid (h.others (S := fun _ => False) (Far.of_ext e0) (fun _ e => e.elim) (fun k hk => hk.imp id (fun e => by subst e; exact ⟨by omega, by simp⟩)))
      have K1 : Hid (Kp A w ((w.alloc (.cells #[.string t, .string x, .int .i64 q, .bool r] 33)).alloc (.cells #[.string t, .string x, .int .i64 1, .bool r] 33))) := Lib.hid (Kp.of_ext e0)
      have x2 := S1.out.x2
      have o1 := cell_of_row _ _ 0 _ 33 (0, 0) R1
      clear o1
      replace R1 := Lib.hid R1
      replace h := Lib.hid h
      replace e0 := Lib.hid e0
      have KO := Lib.hid (fun W (hb : Below ((w.alloc (.cells #[.string t, .string x, .int .i64 q, .bool r] 33)).alloc (.cells #[.string t, .string x, .int .i64 1, .bool r] 33)).heap.size ((w.alloc (.cells #[.string t, .string x, .int .i64 q, .bool r] 33)).alloc (.cells #[.string t, .string x, .int .i64 1, .bool r] 33)) W) => xmsg_cells0 (m := ⟨t, x, 1, r⟩) (S1.out) R1.out hb)
      have SE := Lib.hid (fun W (hb : Below ((w.alloc (.cells #[.string t, .string x, .int .i64 q, .bool r] 33)).alloc (.cells #[.string t, .string x, .int .i64 1, .bool r] 33)).heap.size ((w.alloc (.cells #[.string t, .string x, .int .i64 q, .bool r] 33)).alloc (.cells #[.string t, .string x, .int .i64 1, .bool r] 33)) W) => xput_any (S1.out.ext hb) ⟨t, x, 1, r⟩ (.inl rfl) hl0 hl1)
      obtain ⟨k0, k1, k2, k3, k5⟩ := KO.out _ (Below.refl _ _)
      have k0 := k0
      go_enter Tryz.func21, Tryz.ntmps21
      go_wp2_with fail
      generalize hW1 : ((w.alloc (.cells #[.string t, .string x, .int .i64 q, .bool r] 33)).alloc (.cells #[.string t, .string x, .int .i64 1, .bool r] 33)) = w1 at *
      go_region_held3 (fun W => W.cell? ⟨d.x, 3, none⟩ = some (.pointer (some ⟨d.q, 0, none⟩)) ∧ W.cell? ⟨w.heap.size + 1, 0, none⟩ = some (.string t) ∧ W.cell? ⟨w.heap.size + 1, 1, none⟩ = some (.string x) ∧ W.cell? ⟨w.heap.size + 1, 2, none⟩ = some (.int .i64 1) ∧ W.cell? ⟨w.heap.size + 1, 3, none⟩ = some (.bool r))
        (first | exact KO.out _ (by first | exact Below.refl _ _ | exact ext_drew _ | assumption) | exact KA.out _ (by first | exact Below.refl _ _ | exact ext_drew _ | assumption))
        (first
          | (go_at_call 46; refine (SE.out _ (by first | exact Below.refl _ _ | exact ext_drew _ | assumption)).mono ?_; rintro e w4 ⟨rfl, vq4, s4, k4⟩; have X4 := Lib.hid (xput_end (m := ⟨t, x, 1, r⟩) K1.out R1.out (by first | exact Below.refl _ _ | exact ext_drew _) s4 k4); clear s4 k4; have KA := Lib.hid (fun W (hb : Below w4.heap.size w4 W) => xmsg_cells0 (m := ⟨t, x, 1, r⟩) X4.out.1 X4.out.2.2 hb)))
      all_goals
        obtain ⟨s4, k4, r4⟩ := X4.out
        have FL := Lib.hid (xfill_any s4 hT.out (fun k hk => Nat.lt_of_lt_of_le (hA.out k hk) k4.size))
        replace k4 := Lib.hid k4
        clear KA KO SE X4 s4 r4
        go_wp2_with fail
        refine FL.out.mono ?_
        rintro e w5 ⟨v, vq5, vf5, T', L', l', P, rfl, s5, t5, k6, o5, e5⟩
        obtain ⟨va, vc, rfl⟩ := own_slice o5
        have X5 := Lib.hid (⟨s5, t5, k4.out.trans k6, own_base o5 k4.out.size, e5⟩ : _ ∧ _ ∧ _ ∧ _ ∧ _)
        clear s5 t5 k6 o5 e5
        go_wp2_with fail
        go_ret2
        exact ⟨_, vq5, vf5, T', L', l', P, _, _, rfl, X5.out.1, X5.out.2.1, X5.out.2.2.1, X5.out.2.2.2.1, fun e => by simp at e, fun _ => ⟨rfl, rfl, X5.out.2.2.2.2⟩⟩
    · obtain rfl : qos = 2 := by omega
      have hdq : dq q 2 = 2 := by unfold dq; omega
      rw [hdq]
      clear hdq
      have e0 := ext_two w (.cells #[.string t, .string x, .int .i64 q, .bool r] 33) (.cells #[.string t, .string x, .int .i64 2, .bool r] 33)
      have R1 : ((w.alloc (.cells #[.string t, .string x, .int .i64 q, .bool r] 33)).alloc (.cells #[.string t, .string x, .int .i64 2, .bool r] 33)).heap[w.heap.size + 1]? = some (.cells #[.string t, .string x, .int .i64 2, .bool r] 33 (0, 0)) := by
        have h' := heap_alloc_new (w.alloc (.cells #[.string t, .string x, .int .i64 q, .bool r] 33)) (.cells #[.string t, .string x, .int .i64 2, .bool r] 33)
        simpa using h'
      have S1 : Hid (Xs (fun k => A k ∨ k = w.heap.size + 1) ((w.alloc (.cells #[.string t, .string x, .int .i64 q, .bool r] 33)).alloc (.cells #[.string t, .string x, .int .i64 2, .bool r] 33)) d cl cn on vq vf L l lost) := Lib.hid (h.others (S := fun _ => False) (Far.of_ext e0) (fun _ e => e.elim) (fun k hk => hk.imp id (fun e => by subst e; exact ⟨by omega, by simp⟩)))
      have K1 : Hid (Kp A w ((w.alloc (.cells #[.string t, .string x, .int .i64 q, .bool r] 33)).alloc (.cells #[.string t, .string x, .int .i64 2, .bool r] 33))) := Lib.hid (Kp.of_ext e0)
      have x2 := S1.out.x2
      have o1 := cell_of_row _ _ 0 _ 33 (0, 0) R1
      clear o1
      replace R1 := Lib.hid R1
      replace h := Lib.hid h
      replace e0 := Lib.hid e0
      have KO := Lib.hid (fun W (hb : Below ((w.alloc (.cells #[.string t, .string x, .int .i64 q, .bool r] 33)).alloc (.cells #[.string t, .string x, .int .i64 2, .bool r] 33)).heap.size ((w.alloc (.cells #[.string t, .string x, .int .i64 q, .bool r] 33)).alloc (.cells #[.string t, .string x, .int .i64 2, .bool r] 33)) W) => xmsg_cells0 (m := ⟨t, x, 2, r⟩) (S1.out) R1.out hb)
      have SE := Lib.hid (fun W (hb : Below ((w.alloc (.cells #[.string t, .string x, .int .i64 q, .bool r] 33)).alloc (.cells #[.string t, .string x, .int .i64 2, .bool r] 33)).heap.size ((w.alloc (.cells #[.string t, .string x, .int .i64 q, .bool r] 33)).alloc (.cells #[.string t, .string x, .int .i64 2, .bool r] 33)) W) => xput_any (S1.out.ext hb) ⟨t, x, 2, r⟩ (.inr rfl) hl0 hl1)
      obtain ⟨k0, k1, k2, k3, k5⟩ := KO.out _ (Below.refl _ _)
      have k0 := k0
      go_enter Tryz.func21, Tryz.ntmps21
      go_wp2_with fail
      generalize hW1 : ((w.alloc (.cells #[.string t, .string x, .int .i64 q, .bool r] 33)).alloc (.cells #[.string t, .string x, .int .i64 2, .bool r] 33)) = w1 at *
      go_region_held3 (fun W => W.cell? ⟨d.x, 3, none⟩ = some (.pointer (some ⟨d.q, 0, none⟩)) ∧ W.cell? ⟨w.heap.size + 1, 0, none⟩ = some (.string t) ∧ W.cell? ⟨w.heap.size + 1, 1, none⟩ = some (.string x) ∧ W.cell? ⟨w.heap.size + 1, 2, none⟩ = some (.int .i64 2) ∧ W.cell? ⟨w.heap.size + 1, 3, none⟩ = some (.bool r))
        (first | exact KO.out _ (by first | exact Below.refl _ _ | exact ext_drew _ | assumption) | exact KA.out _ (by first | exact Below.refl _ _ | exact ext_drew _ | assumption))
        (first
          | (go_at_call 46; refine (SE.out _ (by first | exact Below.refl _ _ | exact ext_drew _ | assumption)).mono ?_; rintro e w4 ⟨rfl, vq4, s4, k4⟩; have X4 := Lib.hid (xput_end (m := ⟨t, x, 2, r⟩) K1.out R1.out (by first | exact Below.refl _ _ | exact ext_drew _) s4 k4); clear s4 k4; have KA := Lib.hid (fun W (hb : Below w4.heap.size w4 W) => xmsg_cells0 (m := ⟨t, x, 2, r⟩) X4.out.1 X4.out.2.2 hb)))
      all_goals
        obtain ⟨s4, k4, r4⟩ := X4.out
        have FL := Lib.hid (xfill_any s4 hT.out (fun k hk => Nat.lt_of_lt_of_le (hA.out k hk) k4.size))
        replace k4 := Lib.hid k4
        clear KA KO SE X4 s4 r4
        go_wp2_with fail
        refine FL.out.mono ?_
        rintro e w5 ⟨v, vq5, vf5, T', L', l', P, rfl, s5, t5, k6, o5, e5⟩
        obtain ⟨va, vc, rfl⟩ := own_slice o5
        have X5 := Lib.hid (⟨s5, t5, k4.out.trans k6, own_base o5 k4.out.size, e5⟩ : _ ∧ _ ∧ _ ∧ _ ∧ _)
        clear s5 t5 k6 o5 e5
        go_wp2_with fail
        go_ret2
        exact ⟨_, vq5, vf5, T', L', l', P, _, _, rfl, X5.out.1, X5.out.2.1, X5.out.2.2.1, X5.out.2.2.2.1, fun e => by simp at e, fun _ => ⟨rfl, rfl, X5.out.2.2.2.2⟩⟩
end Go.Proofs.YtceiipcdkonnlaaGreat.Ses
