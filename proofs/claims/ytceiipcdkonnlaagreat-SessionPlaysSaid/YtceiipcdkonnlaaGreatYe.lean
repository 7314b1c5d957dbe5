/-
  LAYER 25: Deliver, of any QoS.
-/
import Derived.Test.YtceiipcdkonnlaaGreatYd
namespace Go.Proofs.YtceiipcdkonnlaaGreat.Ses
open Go.RowKit Que Hp Ids Fli
set_option linter.unusedSimpArgs false
set_option linter.unusedVariables false
def DelG (A : Nat → Prop) (w : World) (a : Ad) (cl : ByteArray) (cn on : Bool) (T : List Bool) (L : List Se) (l : List Mg) (lost : Int) (t x : ByteArray) (R : Int) (r : Bool) (e : Ending) (w' : World) : Prop :=
  ∃ v T' L' l' P kept lost', e = .returned (.tuple #[v, .bool kept]) ∧ Ss (fun k => A k ∨ v.ownBlock = some k) w' a cl cn on T' L' l' lost' ∧ Kp A w w' ∧ w'.ownsRow w.heap.size 72 24 v P.length (pfC P) ∧
    (R = 0 → kept = on ∧ lost' = lost ∧ T' = T ∧ L' = L ∧ l' = l ∧ P = if on = true then [e0 t x r] else []) ∧
    (R ≠ 0 → kept = decide (l.length < 16) ∧ lost' = (if l.length < 16 then lost else lost + 1) ∧ fl on T L (if l.length < 16 then l ++ [⟨t, x, R, r⟩] else l) = (T', L', l', P))
set_option maxHeartbeats 16000000 in
set_option maxRecDepth 100000 in
theorem deliver_g {A : Nat → Prop} {w : World} {a : Ad} {cl : ByteArray} {cn on : Bool} {T : List Bool} {L : List Se} {l : List Mg} {lost : Int} (h : Ss A w a cl cn on T L l lost) (t x : ByteArray) (q qos : Int) (r : Bool) (hl0 : 0 ≤ lost) (hl1 : lost ≤ 1000000) (hA : ∀ k, A k → k < w.heap.size) :
    Calls Tryz.prog 15 #[.pointer (some ⟨a.s, 0, none⟩), .agg #[.string t, .string x, .int .i64 q, .bool r], .int .i64 qos] w (DelG A w a cl cn on T L l lost t x (dq q qos) r) := by
  replace hA := Lib.hid hA
  by_cases h1 : q ≤ qos
  · have hmn : min q qos = q := by omega
    by_cases hn : q < 0
    · skip
      have hdq : dq q qos = 0 := by unfold dq; omega
      rw [hdq]
      clear hdq
      have hm1 : min q qos = q := by omega
      have hm2 : max q 0 = 0 := by omega
      have hm3 : min 0 2 = 0 := by omega
      have e0 := ext_alloc w (.cells #[.string t, .string x, .int .i64 q, .bool r] 33)
      have f0 := ext_alloc w (.cells #[.string t, .string x, .int .i64 0, .bool r] 33)
      have r0 := heap_alloc_new w (.cells #[.string t, .string x, .int .i64 q, .bool r] 33)
      have R1 := heap_alloc_new w (.cells #[.string t, .string x, .int .i64 0, .bool r] 33)
      have S1 : Hid (Ss (fun k => A k ∨ k = w.heap.size) (w.alloc (.cells #[.string t, .string x, .int .i64 0, .bool r] 33)) a cl cn on T L l lost) := Lib.hid (h.others (S := fun _ => False) (Far.of_ext f0) (fun _ e => e.elim) (fun k hk => hk.imp id (fun e => by subst e; exact ⟨Nat.le_refl _, by simp⟩)))
      have K1 : Hid (Kp A w (w.alloc (.cells #[.string t, .string x, .int .i64 0, .bool r] 33))) := Lib.hid (Kp.of_ext f0)
      have N1 := Lib.hid (s_none (h.ext e0))
      have c0 : (w.alloc (.cells #[.string t, .string x, .int .i64 q, .bool r] 33)).cell? ⟨w.heap.size, 2, none⟩ = some (.int .i64 q) := cell_of_row _ _ 2 _ 33 (0, 0) r0
      have z0 := frozen_of_row _ w.heap.size 2 _ 33 r0
      have s2 := S1.out.s2
      replace r0 := Lib.hid r0
      replace R1 := Lib.hid R1
      replace h := Lib.hid h
      replace e0 := Lib.hid e0
      replace f0 := Lib.hid f0
      cases on with
      | false =>
        go_enter Tryz.func15, Tryz.ntmps15
        go_wp2_with fail
        refine N1.out.mono ?_
        rintro e w1 ⟨rfl, rfl⟩
        go_wp2_with fail
        go_ret2
        exact ⟨_, T, L, l, [], _, _, rfl, S1.out.weaken (fun k hk => .inl (hk.elim id (fun e => by cases e))), K1.out, World.ownsRow_nil _ _ _ _, fun _ => ⟨rfl, rfl, rfl, rfl, rfl, by simp⟩, fun e => absurd rfl e⟩
      | true =>
        go_enter Tryz.func15, Tryz.ntmps15
        go_wp2_with fail
        refine N1.out.mono ?_
        rintro e w1 ⟨rfl, rfl⟩
        go_wp2_with fail
        go_ret2
        have hx : ((w.alloc (.cells #[.string t, .string x, .int .i64 0, .bool r] 33)).alloc (.cells #[.int .i64 3, .int .i64 0, .bool false, .string t, .string x, .int .i64 0, .bool r, .int .i64 0, .bool false, .int .i64 0, .string { data := #[] }, .bool false, .string { data := #[] }, .string { data := #[] }, .int .i64 0, .bool false, .bool false, .string { data := #[] }, .bool false, .string { data := #[] }, .bool false, .int .i64 0, .slice none 0 0, .slice none 0 0] 72)).heap[w.heap.size + 1]? = some (.cells #[.int .i64 3, .int .i64 0, .bool false, .string t, .string x, .int .i64 0, .bool r, .int .i64 0, .bool false, .int .i64 0, .string { data := #[] }, .bool false, .string { data := #[] }, .string { data := #[] }, .int .i64 0, .bool false, .bool false, .string { data := #[] }, .bool false, .string { data := #[] }, .bool false, .int .i64 0, .slice none 0 0, .slice none 0 0] 72 (0, 0)) := by
          have h' := heap_alloc_new (w.alloc (.cells #[.string t, .string x, .int .i64 0, .bool r] 33)) (.cells #[.int .i64 3, .int .i64 0, .bool false, .string t, .string x, .int .i64 0, .bool r, .int .i64 0, .bool false, .int .i64 0, .string { data := #[] }, .bool false, .string { data := #[] }, .string { data := #[] }, .int .i64 0, .bool false, .bool false, .string { data := #[] }, .bool false, .string { data := #[] }, .bool false, .int .i64 0, .slice none 0 0, .slice none 0 0] 72)
          simpa using h'
        have B2 := ext_alloc (w.alloc (.cells #[.string t, .string x, .int .i64 0, .bool r] 33)) (.cells #[.int .i64 3, .int .i64 0, .bool false, .string t, .string x, .int .i64 0, .bool r, .int .i64 0, .bool false, .int .i64 0, .string { data := #[] }, .bool false, .string { data := #[] }, .string { data := #[] }, .int .i64 0, .bool false, .bool false, .string { data := #[] }, .bool false, .string { data := #[] }, .bool false, .int .i64 0, .slice none 0 0, .slice none 0 0] 72)
        refine ⟨.slice (some ⟨w.heap.size + 1, 0, none⟩) 1 1, T, L, l, [Ses.e0 t x r], true, lost, rfl, S1.out.others (S := fun _ => False) (Far.of_ext B2) (fun _ e => e.elim) ?_, K1.out.trans (Kp.of_ext B2), ⟨rfl, .inr ⟨_, 1, _, rfl, by omega, hx, Nat.le_refl _, by unfold maxLen; omega, rfl, rfl⟩⟩, fun _ => ⟨rfl, rfl, rfl, rfl, rfl, by simp⟩, fun e => absurd rfl e⟩
        rintro k (hk | hk)
        · exact .inl (.inl hk)
        · simp only [Value.ownBlock, Option.some.injEq] at hk
          subst hk
          exact .inr ⟨by simp, by simp⟩
    by_cases hb : 2 < q
    · skip
      have hdq : dq q qos = 2 := by unfold dq; omega
      rw [hdq]
      clear hdq
      have hm1 : min q qos = q := by omega
      have hm2 : max q 0 = q := by omega
      have hm3 : min q 2 = 2 := by omega
      have e0 := ext_alloc w (.cells #[.string t, .string x, .int .i64 q, .bool r] 33)
      have f0 := ext_alloc w (.cells #[.string t, .string x, .int .i64 2, .bool r] 33)
      have r0 := heap_alloc_new w (.cells #[.string t, .string x, .int .i64 q, .bool r] 33)
      have R1 := heap_alloc_new w (.cells #[.string t, .string x, .int .i64 2, .bool r] 33)
      have S1 : Hid (Ss (fun k => A k ∨ k = w.heap.size) (w.alloc (.cells #[.string t, .string x, .int .i64 2, .bool r] 33)) a cl cn on T L l lost) := Lib.hid (h.others (S := fun _ => False) (Far.of_ext f0) (fun _ e => e.elim) (fun k hk => hk.imp id (fun e => by subst e; exact ⟨Nat.le_refl _, by simp⟩)))
      have K1 : Hid (Kp A w (w.alloc (.cells #[.string t, .string x, .int .i64 2, .bool r] 33))) := Lib.hid (Kp.of_ext f0)
      have N1 := Lib.hid (s_none (h.ext e0))
      have c0 : (w.alloc (.cells #[.string t, .string x, .int .i64 q, .bool r] 33)).cell? ⟨w.heap.size, 2, none⟩ = some (.int .i64 q) := cell_of_row _ _ 2 _ 33 (0, 0) r0
      have z0 := frozen_of_row _ w.heap.size 2 _ 33 r0
      have s2 := S1.out.s2
      replace r0 := Lib.hid r0
      replace R1 := Lib.hid R1
      replace h := Lib.hid h
      replace e0 := Lib.hid e0
      replace f0 := Lib.hid f0
      have KO := Lib.hid (fun W (hb : Below (w.alloc (.cells #[.string t, .string x, .int .i64 2, .bool r] 33)).heap.size (w.alloc (.cells #[.string t, .string x, .int .i64 2, .bool r] 33)) W) => msg_cells0 (m := ⟨t, x, 2, r⟩) (S1.out) R1.out hb)
      have SE := Lib.hid (fun W (hb : Below (w.alloc (.cells #[.string t, .string x, .int .i64 2, .bool r] 33)).heap.size (w.alloc (.cells #[.string t, .string x, .int .i64 2, .bool r] 33)) W) => put_any (S1.out.ext hb) ⟨t, x, 2, r⟩ (.inr rfl) hl0 hl1)
      go_enter Tryz.func15, Tryz.ntmps15
      go_wp2_with fail
      refine N1.out.mono ?_
      rintro e w1 ⟨rfl, rfl⟩
      go_wp2_with fail
      generalize hW1 : (w.alloc (.cells #[.string t, .string x, .int .i64 2, .bool r] 33)) = w1 at *
      go_region_held3 (fun W => W.cell? ⟨a.s, 3, none⟩ = some (.pointer (some ⟨a.ps, 0, none⟩)) ∧ W.cell? ⟨a.ps, 0, none⟩ = some (.pointer (some ⟨a.qg, 0, none⟩)) ∧ W.cell? ⟨w.heap.size, 0, none⟩ = some (.string t) ∧ W.cell? ⟨w.heap.size, 1, none⟩ = some (.string x) ∧ W.cell? ⟨w.heap.size, 2, none⟩ = some (.int .i64 2) ∧ W.cell? ⟨w.heap.size, 3, none⟩ = some (.bool r))
        (first | exact KO.out _ (by first | exact Below.refl _ _ | exact ext_drew _ | assumption) | exact KA.out _ (by first | exact Below.refl _ _ | exact ext_drew _ | assumption))
        (first
          | (go_at_call 38; refine (SE.out _ (by first | exact Below.refl _ _ | exact ext_drew _ | assumption)).mono ?_; rintro e w4 ⟨rfl, s4, k4⟩; have X4 := Lib.hid (put_end (m := ⟨t, x, 2, r⟩) K1.out R1.out (by first | exact Below.refl _ _ | exact ext_drew _) s4 k4); clear s4 k4; have KA := Lib.hid (fun W (hb : Below w4.heap.size w4 W) => msg_cells0 (m := ⟨t, x, 2, r⟩) X4.out.1 X4.out.2.2 hb)))
      all_goals
        obtain ⟨s4, k4, r4⟩ := X4.out
        have FL := Lib.hid (fill_any s4 (fun k hk => Nat.lt_of_lt_of_le (hA.out k hk) k4.size))
        replace k4 := Lib.hid k4
        clear KA KO SE X4 s4 r4
        go_wp2_with fail
        refine FL.out.mono ?_
        rintro e w5 ⟨v, T', L', l', P, rfl, s5, k6, o5, e5⟩
        obtain ⟨va, vc, rfl⟩ := own_slice o5
        have X5 := Lib.hid (⟨s5, k4.out.trans k6, own_base o5 k4.out.size, e5⟩ : _ ∧ _ ∧ _ ∧ _)
        clear s5 k6 o5 e5
        go_wp2_with fail
        go_ret2
        exact ⟨_, T', L', l', P, _, _, rfl, X5.out.1, X5.out.2.1, X5.out.2.2.1, fun e => by simp at e, fun _ => ⟨rfl, rfl, X5.out.2.2.2⟩⟩
    by_cases hz : q = 0
    · subst hz
      have hdq : dq 0 qos = 0 := by unfold dq; omega
      rw [hdq]
      clear hdq
      have hm1 : min 0 qos = 0 := by omega
      have e0 := ext_alloc w (.cells #[.string t, .string x, .int .i64 0, .bool r] 33)
      have f0 := ext_alloc w (.cells #[.string t, .string x, .int .i64 0, .bool r] 33)
      have r0 := heap_alloc_new w (.cells #[.string t, .string x, .int .i64 0, .bool r] 33)
      have R1 := heap_alloc_new w (.cells #[.string t, .string x, .int .i64 0, .bool r] 33)
      have S1 : Hid (Ss (fun k => A k ∨ k = w.heap.size) (w.alloc (.cells #[.string t, .string x, .int .i64 0, .bool r] 33)) a cl cn on T L l lost) := Lib.hid (h.others (S := fun _ => False) (Far.of_ext f0) (fun _ e => e.elim) (fun k hk => hk.imp id (fun e => by subst e; exact ⟨Nat.le_refl _, by simp⟩)))
      have K1 : Hid (Kp A w (w.alloc (.cells #[.string t, .string x, .int .i64 0, .bool r] 33))) := Lib.hid (Kp.of_ext f0)
      have N1 := Lib.hid (s_none (h.ext e0))
      have c0 : (w.alloc (.cells #[.string t, .string x, .int .i64 0, .bool r] 33)).cell? ⟨w.heap.size, 2, none⟩ = some (.int .i64 0) := cell_of_row _ _ 2 _ 33 (0, 0) r0
      have z0 := frozen_of_row _ w.heap.size 2 _ 33 r0
      have s2 := S1.out.s2
      replace r0 := Lib.hid r0
      replace R1 := Lib.hid R1
      replace h := Lib.hid h
      replace e0 := Lib.hid e0
      replace f0 := Lib.hid f0
      cases on with
      | false =>
        go_enter Tryz.func15, Tryz.ntmps15
        go_wp2_with fail
        refine N1.out.mono ?_
        rintro e w1 ⟨rfl, rfl⟩
        go_wp2_with fail
        go_ret2
        exact ⟨_, T, L, l, [], _, _, rfl, S1.out.weaken (fun k hk => .inl (hk.elim id (fun e => by cases e))), K1.out, World.ownsRow_nil _ _ _ _, fun _ => ⟨rfl, rfl, rfl, rfl, rfl, by simp⟩, fun e => absurd rfl e⟩
      | true =>
        go_enter Tryz.func15, Tryz.ntmps15
        go_wp2_with fail
        refine N1.out.mono ?_
        rintro e w1 ⟨rfl, rfl⟩
        go_wp2_with fail
        go_ret2
        have hx : ((w.alloc (.cells #[.string t, .string x, .int .i64 0, .bool r] 33)).alloc (.cells #[.int .i64 3, .int .i64 0, .bool false, .string t, .string x, .int .i64 0, .bool r, .int .i64 0, .bool false, .int .i64 0, .string { data := #[] }, .bool false, .string { data := #[] }, .string { data := #[] }, .int .i64 0, .bool false, .bool false, .string { data := #[] }, .bool false, .string { data := #[] }, .bool false, .int .i64 0, .slice none 0 0, .slice none 0 0] 72)).heap[w.heap.size + 1]? = some (.cells #[.int .i64 3, .int .i64 0, .bool false, .string t, .string x, .int .i64 0, .bool r, .int .i64 0, .bool false, .int .i64 0, .string { data := #[] }, .bool false, .string { data := #[] }, .string { data := #[] }, .int .i64 0, .bool false, .bool false, .string { data := #[] }, .bool false, .string { data := #[] }, .bool false, .int .i64 0, .slice none 0 0, .slice none 0 0] 72 (0, 0)) := by
          have h' := heap_alloc_new (w.alloc (.cells #[.string t, .string x, .int .i64 0, .bool r] 33)) (.cells #[.int .i64 3, .int .i64 0, .bool false, .string t, .string x, .int .i64 0, .bool r, .int .i64 0, .bool false, .int .i64 0, .string { data := #[] }, .bool false, .string { data := #[] }, .string { data := #[] }, .int .i64 0, .bool false, .bool false, .string { data := #[] }, .bool false, .string { data := #[] }, .bool false, .int .i64 0, .slice none 0 0, .slice none 0 0] 72)
          simpa using h'
        have B2 := ext_alloc (w.alloc (.cells #[.string t, .string x, .int .i64 0, .bool r] 33)) (.cells #[.int .i64 3, .int .i64 0, .bool false, .string t, .string x, .int .i64 0, .bool r, .int .i64 0, .bool false, .int .i64 0, .string { data := #[] }, .bool false, .string { data := #[] }, .string { data := #[] }, .int .i64 0, .bool false, .bool false, .string { data := #[] }, .bool false, .string { data := #[] }, .bool false, .int .i64 0, .slice none 0 0, .slice none 0 0] 72)
        refine ⟨.slice (some ⟨w.heap.size + 1, 0, none⟩) 1 1, T, L, l, [Ses.e0 t x r], true, lost, rfl, S1.out.others (S := fun _ => False) (Far.of_ext B2) (fun _ e => e.elim) ?_, K1.out.trans (Kp.of_ext B2), ⟨rfl, .inr ⟨_, 1, _, rfl, by omega, hx, Nat.le_refl _, by unfold maxLen; omega, rfl, rfl⟩⟩, fun _ => ⟨rfl, rfl, rfl, rfl, rfl, by simp⟩, fun e => absurd rfl e⟩
        rintro k (hk | hk)
        · exact .inl (.inl hk)
        · simp only [Value.ownBlock, Option.some.injEq] at hk
          subst hk
          exact .inr ⟨by simp, by simp⟩
    by_cases ho : q = 1
    · subst ho
      have hdq : dq 1 qos = 1 := by unfold dq; omega
      rw [hdq]
      clear hdq
      have hm1 : min 1 qos = 1 := by omega
      have e0 := ext_alloc w (.cells #[.string t, .string x, .int .i64 1, .bool r] 33)
      have f0 := ext_alloc w (.cells #[.string t, .string x, .int .i64 1, .bool r] 33)
      have r0 := heap_alloc_new w (.cells #[.string t, .string x, .int .i64 1, .bool r] 33)
      have R1 := heap_alloc_new w (.cells #[.string t, .string x, .int .i64 1, .bool r] 33)
      have S1 : Hid (Ss (fun k => A k ∨ k = w.heap.size) (w.alloc (.cells #[.string t, .string x, .int .i64 1, .bool r] 33)) a cl cn on T L l lost) := Lib.hid (h.others (S := fun _ => False) (Far.of_ext f0) (fun _ e => e.elim) (fun k hk => hk.imp id (fun e => by subst e; exact ⟨Nat.le_refl _, by simp⟩)))
      have K1 : Hid (Kp A w (w.alloc (.cells #[.string t, .string x, .int .i64 1, .bool r] 33))) := Lib.hid (Kp.of_ext f0)
      have N1 := Lib.hid (s_none (h.ext e0))
      have c0 : (w.alloc (.cells #[.string t, .string x, .int .i64 1, .bool r] 33)).cell? ⟨w.heap.size, 2, none⟩ = some (.int .i64 1) := cell_of_row _ _ 2 _ 33 (0, 0) r0
      have z0 := frozen_of_row _ w.heap.size 2 _ 33 r0
      have s2 := S1.out.s2
      replace r0 := Lib.hid r0
      replace R1 := Lib.hid R1
      replace h := Lib.hid h
      replace e0 := Lib.hid e0
      replace f0 := Lib.hid f0
      have KO := Lib.hid (fun W (hb : Below (w.alloc (.cells #[.string t, .string x, .int .i64 1, .bool r] 33)).heap.size (w.alloc (.cells #[.string t, .string x, .int .i64 1, .bool r] 33)) W) => msg_cells0 (m := ⟨t, x, 1, r⟩) (S1.out) R1.out hb)
      have SE := Lib.hid (fun W (hb : Below (w.alloc (.cells #[.string t, .string x, .int .i64 1, .bool r] 33)).heap.size (w.alloc (.cells #[.string t, .string x, .int .i64 1, .bool r] 33)) W) => put_any (S1.out.ext hb) ⟨t, x, 1, r⟩ (.inl rfl) hl0 hl1)
      go_enter Tryz.func15, Tryz.ntmps15
      go_wp2_with fail
      refine N1.out.mono ?_
      rintro e w1 ⟨rfl, rfl⟩
      go_wp2_with fail
      generalize hW1 : (w.alloc (.cells #[.string t, .string x, .int .i64 1, .bool r] 33)) = w1 at *
      go_region_held3 (fun W => W.cell? ⟨a.s, 3, none⟩ = some (.pointer (some ⟨a.ps, 0, none⟩)) ∧ W.cell? ⟨a.ps, 0, none⟩ = some (.pointer (some ⟨a.qg, 0, none⟩)) ∧ W.cell? ⟨w.heap.size, 0, none⟩ = some (.string t) ∧ W.cell? ⟨w.heap.size, 1, none⟩ = some (.string x) ∧ W.cell? ⟨w.heap.size, 2, none⟩ = some (.int .i64 1) ∧ W.cell? ⟨w.heap.size, 3, none⟩ = some (.bool r))
        (first | exact KO.out _ (by first | exact Below.refl _ _ | exact ext_drew _ | assumption) | exact KA.out _ (by first | exact Below.refl _ _ | exact ext_drew _ | assumption))
        (first
          | (go_at_call 38; refine (SE.out _ (by first | exact Below.refl _ _ | exact ext_drew _ | assumption)).mono ?_; rintro e w4 ⟨rfl, s4, k4⟩; have X4 := Lib.hid (put_end (m := ⟨t, x, 1, r⟩) K1.out R1.out (by first | exact Below.refl _ _ | exact ext_drew _) s4 k4); clear s4 k4; have KA := Lib.hid (fun W (hb : Below w4.heap.size w4 W) => msg_cells0 (m := ⟨t, x, 1, r⟩) X4.out.1 X4.out.2.2 hb)))
      all_goals
        obtain ⟨s4, k4, r4⟩ := X4.out
        have FL := Lib.hid (fill_any s4 (fun k hk => Nat.lt_of_lt_of_le (hA.out k hk) k4.size))
        replace k4 := Lib.hid k4
        clear KA KO SE X4 s4 r4
        go_wp2_with fail
        refine FL.out.mono ?_
        rintro e w5 ⟨v, T', L', l', P, rfl, s5, k6, o5, e5⟩
        obtain ⟨va, vc, rfl⟩ := own_slice o5
        have X5 := Lib.hid (⟨s5, k4.out.trans k6, own_base o5 k4.out.size, e5⟩ : _ ∧ _ ∧ _ ∧ _)
        clear s5 k6 o5 e5
        go_wp2_with fail
        go_ret2
        exact ⟨_, T', L', l', P, _, _, rfl, X5.out.1, X5.out.2.1, X5.out.2.2.1, fun e => by simp at e, fun _ => ⟨rfl, rfl, X5.out.2.2.2⟩⟩
    · obtain rfl : q = 2 := by omega
      have hdq : dq 2 qos = 2 := by unfold dq; omega
      rw [hdq]
      clear hdq
      have hm1 : min 2 qos = 2 := by omega
      have e0 := ext_alloc w (.cells #[.string t, .string x, .int .i64 2, .bool r] 33)
      have f0 := ext_alloc w (.cells #[.string t, .string x, .int .i64 2, .bool r] 33)
      have r0 := heap_alloc_new w (.cells #[.string t, .string x, .int .i64 2, .bool r] 33)
      have R1 := heap_alloc_new w (.cells #[.string t, .string x, .int .i64 2, .bool r] 33)
      have S1 : Hid (Ss (fun k => A k ∨ k = w.heap.size) (w.alloc (.cells #[.string t, .string x, .int .i64 2, .bool r] 33)) a cl cn on T L l lost) := Lib.hid (h.others (S := fun _ => False) (Far.of_ext f0) (fun _ e => e.elim) (fun k hk => hk.imp id (fun e => by subst e; exact ⟨Nat.le_refl _, by simp⟩)))
      have K1 : Hid (Kp A w (w.alloc (.cells #[.string t, .string x, .int .i64 2, .bool r] 33))) := Lib.hid (Kp.of_ext f0)
      have N1 := Lib.hid (s_none (h.ext e0))
      have c0 : (w.alloc (.cells #[.string t, .string x, .int .i64 2, .bool r] 33)).cell? ⟨w.heap.size, 2, none⟩ = some (.int .i64 2) := cell_of_row _ _ 2 _ 33 (0, 0) r0
      have z0 := frozen_of_row _ w.heap.size 2 _ 33 r0
      have s2 := S1.out.s2
      replace r0 := Lib.hid r0
      replace R1 := Lib.hid R1
      replace h := Lib.hid h
      replace e0 := Lib.hid e0
      replace f0 := Lib.hid f0
      have KO := Lib.hid (fun W (hb : Below (w.alloc (.cells #[.string t, .string x, .int .i64 2, .bool r] 33)).heap.size (w.alloc (.cells #[.string t, .string x, .int .i64 2, .bool r] 33)) W) => msg_cells0 (m := ⟨t, x, 2, r⟩) (S1.out) R1.out hb)
      have SE := Lib.hid (fun W (hb : Below (w.alloc (.cells #[.string t, .string x, .int .i64 2, .bool r] 33)).heap.size (w.alloc (.cells #[.string t, .string x, .int .i64 2, .bool r] 33)) W) => put_any (S1.out.ext hb) ⟨t, x, 2, r⟩ (.inr rfl) hl0 hl1)
      go_enter Tryz.func15, Tryz.ntmps15
      go_wp2_with fail
      refine N1.out.mono ?_
      rintro e w1 ⟨rfl, rfl⟩
      go_wp2_with fail
      generalize hW1 : (w.alloc (.cells #[.string t, .string x, .int .i64 2, .bool r] 33)) = w1 at *
      go_region_held3 (fun W => W.cell? ⟨a.s, 3, none⟩ = some (.pointer (some ⟨a.ps, 0, none⟩)) ∧ W.cell? ⟨a.ps, 0, none⟩ = some (.pointer (some ⟨a.qg, 0, none⟩)) ∧ W.cell? ⟨w.heap.size, 0, none⟩ = some (.string t) ∧ W.cell? ⟨w.heap.size, 1, none⟩ = some (.string x) ∧ W.cell? ⟨w.heap.size, 2, none⟩ = some (.int .i64 2) ∧ W.cell? ⟨w.heap.size, 3, none⟩ = some (.bool r))
        (first | exact KO.out _ (by first | exact Below.refl _ _ | exact ext_drew _ | assumption) | exact KA.out _ (by first | exact Below.refl _ _ | exact ext_drew _ | assumption))
        (first
          | (go_at_call 38; refine (SE.out _ (by first | exact Below.refl _ _ | exact ext_drew _ | assumption)).mono ?_; rintro e w4 ⟨rfl, s4, k4⟩; have X4 := Lib.hid (put_end (m := ⟨t, x, 2, r⟩) K1.out R1.out (by first | exact Below.refl _ _ | exact ext_drew _) s4 k4); clear s4 k4; have KA := Lib.hid (fun W (hb : Below w4.heap.size w4 W) => msg_cells0 (m := ⟨t, x, 2, r⟩) X4.out.1 X4.out.2.2 hb)))
      all_goals
        obtain ⟨s4, k4, r4⟩ := X4.out
        have FL := Lib.hid (fill_any s4 (fun k hk => Nat.lt_of_lt_of_le (hA.out k hk) k4.size))
        replace k4 := Lib.hid k4
        clear KA KO SE X4 s4 r4
        go_wp2_with fail
        refine FL.out.mono ?_
        rintro e w5 ⟨v, T', L', l', P, rfl, s5, k6, o5, e5⟩
        obtain ⟨va, vc, rfl⟩ := own_slice o5
        have X5 := Lib.hid (⟨s5, k4.out.trans k6, own_base o5 k4.out.size, e5⟩ : _ ∧ _ ∧ _ ∧ _)
        clear s5 k6 o5 e5
        go_wp2_with fail
        go_ret2
        exact ⟨_, T', L', l', P, _, _, rfl, X5.out.1, X5.out.2.1, X5.out.2.2.1, fun e => by simp at e, fun _ => ⟨rfl, rfl, X5.out.2.2.2⟩⟩
  · have hmn : min q qos = qos := by omega
    have h1' : qos < q := by omega
    by_cases hn : qos < 0
    · skip
      have hdq : dq q qos = 0 := by unfold dq; omega
      rw [hdq]
      clear hdq
      have hm1 : min q qos = qos := by omega
      have hm2 : max qos 0 = 0 := by omega
      have hm3 : min 0 2 = 0 := by omega
      have e0 := ext_alloc w (.cells #[.string t, .string x, .int .i64 q, .bool r] 33)
      have f0 := ext_alloc w (.cells #[.string t, .string x, .int .i64 0, .bool r] 33)
      have r0 := heap_alloc_new w (.cells #[.string t, .string x, .int .i64 q, .bool r] 33)
      have R1 := heap_alloc_new w (.cells #[.string t, .string x, .int .i64 0, .bool r] 33)
      have S1 : Hid (Ss (fun k => A k ∨ k = w.heap.size) (w.alloc (.cells #[.string t, .string x, .int .i64 0, .bool r] 33)) a cl cn on T L l lost) := Lib.hid (h.others (S := fun _ => False) (Far.of_ext f0) (fun _ e => e.elim) (fun k hk => hk.imp id (fun e => by subst e; exact ⟨Nat.le_refl _, by simp⟩)))
      have K1 : Hid (Kp A w (w.alloc (.cells #[.string t, .string x, .int .i64 0, .bool r] 33))) := Lib.hid (Kp.of_ext f0)
      have N1 := Lib.hid (s_none (h.ext e0))
      have c0 : (w.alloc (.cells #[.string t, .string x, .int .i64 q, .bool r] 33)).cell? ⟨w.heap.size, 2, none⟩ = some (.int .i64 q) := cell_of_row _ _ 2 _ 33 (0, 0) r0
      have z0 := frozen_of_row _ w.heap.size 2 _ 33 r0
      have s2 := S1.out.s2
      replace r0 := Lib.hid r0
      replace R1 := Lib.hid R1
      replace h := Lib.hid h
      replace e0 := Lib.hid e0
      replace f0 := Lib.hid f0
      cases on with
      | false =>
        go_enter Tryz.func15, Tryz.ntmps15
        go_wp2_with fail
        refine N1.out.mono ?_
        rintro e w1 ⟨rfl, rfl⟩
        go_wp2_with fail
        go_ret2
        exact ⟨_, T, L, l, [], _, _, rfl, S1.out.weaken (fun k hk => .inl (hk.elim id (fun e => by cases e))), K1.out, World.ownsRow_nil _ _ _ _, fun _ => ⟨rfl, rfl, rfl, rfl, rfl, by simp⟩, fun e => absurd rfl e⟩
      | true =>
        go_enter Tryz.func15, Tryz.ntmps15
        go_wp2_with fail
        refine N1.out.mono ?_
        rintro e w1 ⟨rfl, rfl⟩
        go_wp2_with fail
        go_ret2
        have hx : ((w.alloc (.cells #[.string t, .string x, .int .i64 0, .bool r] 33)).alloc (.cells #[.int .i64 3, .int .i64 0, .bool false, .string t, .string x, .int .i64 0, .bool r, .int .i64 0, .bool false, .int .i64 0, .string { data := #[] }, .bool false, .string { data := #[] }, .string { data := #[] }, .int .i64 0, .bool false, .bool false, .string { data := #[] }, .bool false, .string { data := #[] }, .bool false, .int .i64 0, .slice none 0 0, .slice none 0 0] 72)).heap[w.heap.size + 1]? = some (.cells #[.int .i64 3, .int .i64 0, .bool false, .string t, .string x, .int .i64 0, .bool r, .int .i64 0, .bool false, .int .i64 0, .string { data := #[] }, .bool false, .string { data := #[] }, .string { data := #[] }, .int .i64 0, .bool false, .bool false, .string { data := #[] }, .bool false, .string { data := #[] }, .bool false, .int .i64 0, .slice none 0 0, .slice none 0 0] 72 (0, 0)) := by
          have h' := heap_alloc_new (w.alloc (.cells #[.string t, .string x, .int .i64 0, .bool r] 33)) (.cells #[.int .i64 3, .int .i64 0, .bool false, .string t, .string x, .int .i64 0, .bool r, .int .i64 0, .bool false, .int .i64 0, .string { data := #[] }, .bool false, .string { data := #[] }, .string { data := #[] }, .int .i64 0, .bool false, .bool false, .string { data := #[] }, .bool false, .string { data := #[] }, .bool false, .int .i64 0, .slice none 0 0, .slice none 0 0] 72)
          simpa using h'
        have B2 := ext_alloc (w.alloc (.cells #[.string t, .string x, .int .i64 0, .bool r] 33)) (.cells #[.int .i64 3, .int .i64 0, .bool false, .string t, .string x, .int .i64 0, .bool r, .int .i64 0, .bool false, .int .i64 0, .string { data := #[] }, .bool false, .string { data := #[] }, .string { data := #[] }, .int .i64 0, .bool false, .bool false, .string { data := #[] }, .bool false, .string { data := #[] }, .bool false, .int .i64 0, .slice none 0 0, .slice none 0 0] 72)
        refine ⟨.slice (some ⟨w.heap.size + 1, 0, none⟩) 1 1, T, L, l, [Ses.e0 t x r], true, lost, rfl, S1.out.others (S := fun _ => False) (Far.of_ext B2) (fun _ e => e.elim) ?_, K1.out.trans (Kp.of_ext B2), ⟨rfl, .inr ⟨_, 1, _, rfl, by omega, hx, Nat.le_refl _, by unfold maxLen; omega, rfl, rfl⟩⟩, fun _ => ⟨rfl, rfl, rfl, rfl, rfl, by simp⟩, fun e => absurd rfl e⟩
        rintro k (hk | hk)
        · exact .inl (.inl hk)
        · simp only [Value.ownBlock, Option.some.injEq] at hk
          subst hk
          exact .inr ⟨by simp, by simp⟩
    by_cases hb : 2 < qos
    · skip
      have hdq : dq q qos = 2 := by unfold dq; omega
      rw [hdq]
      clear hdq
      have hm1 : min q qos = qos := by omega
      have hm2 : max qos 0 = qos := by omega
      have hm3 : min qos 2 = 2 := by omega
      have e0 := ext_alloc w (.cells #[.string t, .string x, .int .i64 q, .bool r] 33)
      have f0 := ext_alloc w (.cells #[.string t, .string x, .int .i64 2, .bool r] 33)
      have r0 := heap_alloc_new w (.cells #[.string t, .string x, .int .i64 q, .bool r] 33)
      have R1 := heap_alloc_new w (.cells #[.string t, .string x, .int .i64 2, .bool r] 33)
      have S1 : Hid (Ss (fun k => A k ∨ k = w.heap.size) (w.alloc (.cells #[.string t, .string x, .int .i64 2, .bool r] 33)) a cl cn on T L l lost) := Lib.hid (h.others (S := fun _ => False) (Far.of_ext f0) (fun _ e => e.elim) (fun k hk => hk.imp id (fun e => by subst e; exact ⟨Nat.le_refl _, by simp⟩)))
      have K1 : Hid (Kp A w (w.alloc (.cells #[.string t, .string x, .int .i64 2, .bool r] 33))) := Lib.hid (Kp.of_ext f0)
      have N1 := Lib.hid (s_none (h.ext e0))
      have c0 : (w.alloc (.cells #[.string t, .string x, .int .i64 q, .bool r] 33)).cell? ⟨w.heap.size, 2, none⟩ = some (.int .i64 q) := cell_of_row _ _ 2 _ 33 (0, 0) r0
      have z0 := frozen_of_row _ w.heap.size 2 _ 33 r0
      have s2 := S1.out.s2
      replace r0 := Lib.hid r0
      replace R1 := Lib.hid R1
      replace h := Lib.hid h
      replace e0 := Lib.hid e0
      replace f0 := Lib.hid f0
      have KO := Lib.hid (fun W (hb : Below (w.alloc (.cells #[.string t, .string x, .int .i64 2, .bool r] 33)).heap.size (w.alloc (.cells #[.string t, .string x, .int .i64 2, .bool r] 33)) W) => msg_cells0 (m := ⟨t, x, 2, r⟩) (S1.out) R1.out hb)
      have SE := Lib.hid (fun W (hb : Below (w.alloc (.cells #[.string t, .string x, .int .i64 2, .bool r] 33)).heap.size (w.alloc (.cells #[.string t, .string x, .int .i64 2, .bool r] 33)) W) => put_any (S1.out.ext hb) ⟨t, x, 2, r⟩ (.inr rfl) hl0 hl1)
      go_enter Tryz.func15, Tryz.ntmps15
      go_wp2_with fail
      refine N1.out.mono ?_
      rintro e w1 ⟨rfl, rfl⟩
      go_wp2_with fail
      generalize hW1 : (w.alloc (.cells #[.string t, .string x, .int .i64 2, .bool r] 33)) = w1 at *
      go_region_held3 (fun W => W.cell? ⟨a.s, 3, none⟩ = some (.pointer (some ⟨a.ps, 0, none⟩)) ∧ W.cell? ⟨a.ps, 0, none⟩ = some (.pointer (some ⟨a.qg, 0, none⟩)) ∧ W.cell? ⟨w.heap.size, 0, none⟩ = some (.string t) ∧ W.cell? ⟨w.heap.size, 1, none⟩ = some (.string x) ∧ W.cell? ⟨w.heap.size, 2, none⟩ = some (.int .i64 2) ∧ W.cell? ⟨w.heap.size, 3, none⟩ = some (.bool r))
        (first | exact KO.out _ (by first | exact Below.refl _ _ | exact ext_drew _ | assumption) | exact KA.out _ (by first | exact Below.refl _ _ | exact ext_drew _ | assumption))
        (first
          | (go_at_call 38; refine (SE.out _ (by first | exact Below.refl _ _ | exact ext_drew _ | assumption)).mono ?_; rintro e w4 ⟨rfl, s4, k4⟩; have X4 := Lib.hid (put_end (m := ⟨t, x, 2, r⟩) K1.out R1.out (by first | exact Below.refl _ _ | exact ext_drew _) s4 k4); clear s4 k4; have KA := Lib.hid (fun W (hb : Below w4.heap.size w4 W) => msg_cells0 (m := ⟨t, x, 2, r⟩) X4.out.1 X4.out.2.2 hb)))
      all_goals
        obtain ⟨s4, k4, r4⟩ := X4.out
        have FL := Lib.hid (fill_any s4 (fun k hk => Nat.lt_of_lt_of_le (hA.out k hk) k4.size))
        replace k4 := Lib.hid k4
        clear KA KO SE X4 s4 r4
        go_wp2_with fail
        refine FL.out.mono ?_
        rintro e w5 ⟨v, T', L', l', P, rfl, s5, k6, o5, e5⟩
        obtain ⟨va, vc, rfl⟩ := own_slice o5
        have X5 := Lib.hid (⟨s5, k4.out.trans k6, own_base o5 k4.out.size, e5⟩ : _ ∧ _ ∧ _ ∧ _)
        clear s5 k6 o5 e5
        go_wp2_with fail
        go_ret2
        exact ⟨_, T', L', l', P, _, _, rfl, X5.out.1, X5.out.2.1, X5.out.2.2.1, fun e => by simp at e, fun _ => ⟨rfl, rfl, X5.out.2.2.2⟩⟩
    by_cases hz : qos = 0
    · subst hz
      have hdq : dq q 0 = 0 := by unfold dq; omega
      rw [hdq]
      clear hdq
      have hm1 : min q 0 = 0 := by omega
      have e0 := ext_alloc w (.cells #[.string t, .string x, .int .i64 q, .bool r] 33)
      have f0 := ext_alloc w (.cells #[.string t, .string x, .int .i64 0, .bool r] 33)
      have r0 := heap_alloc_new w (.cells #[.string t, .string x, .int .i64 q, .bool r] 33)
      have R1 := heap_alloc_new w (.cells #[.string t, .string x, .int .i64 0, .bool r] 33)
      have S1 : Hid (Ss (fun k => A k ∨ k = w.heap.size) (w.alloc (.cells #[.string t, .string x, .int .i64 0, .bool r] 33)) a cl cn on T L l lost) := Lib.hid (h.others (S := fun _ => False) (Far.of_ext f0) (fun _ e => e.elim) (fun k hk => hk.imp id (fun e => by subst e; exact ⟨Nat.le_refl _, by simp⟩)))
      have K1 : Hid (Kp A w (w.alloc (.cells #[.string t, .string x, .int .i64 0, .bool r] 33))) := Lib.hid (Kp.of_ext f0)
      have N1 := Lib.hid (s_none (h.ext e0))
      have c0 : (w.alloc (.cells #[.string t, .string x, .int .i64 q, .bool r] 33)).cell? ⟨w.heap.size, 2, none⟩ = some (.int .i64 q) := cell_of_row _ _ 2 _ 33 (0, 0) r0
      have z0 := frozen_of_row _ w.heap.size 2 _ 33 r0
      have s2 := S1.out.s2
      replace r0 := Lib.hid r0
      replace R1 := Lib.hid R1
      replace h := Lib.hid h
      replace e0 := Lib.hid e0
      replace f0 := Lib.hid f0
      cases on with
      | false =>
        go_enter Tryz.func15, Tryz.ntmps15
        go_wp2_with fail
        refine N1.out.mono ?_
        rintro e w1 ⟨rfl, rfl⟩
        go_wp2_with fail
        go_ret2
        exact ⟨_, T, L, l, [], _, _, rfl, S1.out.weaken (fun k hk => .inl (hk.elim id (fun e => by cases e))), K1.out, World.ownsRow_nil _ _ _ _, fun _ => ⟨rfl, rfl, rfl, rfl, rfl, by simp⟩, fun e => absurd rfl e⟩
      | true =>
        go_enter Tryz.func15, Tryz.ntmps15
        go_wp2_with fail
        refine N1.out.mono ?_
        rintro e w1 ⟨rfl, rfl⟩
        go_wp2_with fail
        go_ret2
        have hx : ((w.alloc (.cells #[.string t, .string x, .int .i64 0, .bool r] 33)).alloc (.cells #[.int .i64 3, .int .i64 0, .bool false, .string t, .string x, .int .i64 0, .bool r, .int .i64 0, .bool false, .int .i64 0, .string { data := #[] }, .bool false, .string { data := #[] }, .string { data := #[] }, .int .i64 0, .bool false, .bool false, .string { data := #[] }, .bool false, .string { data := #[] }, .bool false, .int .i64 0, .slice none 0 0, .slice none 0 0] 72)).heap[w.heap.size + 1]? = some (.cells #[.int .i64 3, .int .i64 0, .bool false, .string t, .string x, .int .i64 0, .bool r, .int .i64 0, .bool false, .int .i64 0, .string { data := #[] }, .bool false, .string { data := #[] }, .string { data := #[] }, .int .i64 0, .bool false, .bool false, .string { data := #[] }, .bool false, .string { data := #[] }, .bool false, .int .i64 0, .slice none 0 0, .slice none 0 0] 72 (0, 0)) := by
          have h' := heap_alloc_new (w.alloc (.cells #[.string t, .string x, .int .i64 0, .bool r] 33)) (.cells #[.int .i64 3, .int .i64 0, .bool false, .string t, .string x, .int .i64 0, .bool r, .int .i64 0, .bool false, .int .i64 0, .string { data := #[] }, .bool false, .string { data := #[] }, .string { data := #[] }, .int .i64 0, .bool false, .bool false, .string { data := #[] }, .bool false, .string { data := #[] }, .bool false, .int .i64 0, .slice none 0 0, .slice none 0 0] 72)
          simpa using h'
        have B2 := ext_alloc (w.alloc (.cells #[.string t, .string x, .int .i64 0, .bool r] 33)) (.cells #[.int .i64 3, .int .i64 0, .bool false, .string t, .string x, .int .i64 0, .bool r, .int .i64 0, .bool false, .int .i64 0, .string { data := #[] }, .bool false, .string { data := #[] }, .string { data := #[] }, .int .i64 0, .bool false, .bool false, .string { data := #[] }, .bool false, .string { data := #[] }, .bool false, .int .i64 0, .slice none 0 0, .slice none 0 0] 72)
        refine ⟨.slice (some ⟨w.heap.size + 1, 0, none⟩) 1 1, T, L, l, [Ses.e0 t x r], true, lost, rfl, S1.out.others (S := fun _ => False) (Far.of_ext B2) (fun _ e => e.elim) ?_, K1.out.trans (Kp.of_ext B2), ⟨rfl, .inr ⟨_, 1, _, rfl, by omega, hx, Nat.le_refl _, by unfold maxLen; omega, rfl, rfl⟩⟩, fun _ => ⟨rfl, rfl, rfl, rfl, rfl, by simp⟩, fun e => absurd rfl e⟩
        rintro k (hk | hk)
        · exact .inl (.inl hk)
        · simp only [Value.ownBlock, Option.some.injEq] at hk
          subst hk
          exact .inr ⟨by simp, by simp⟩
    by_cases ho : qos = 1
    · subst ho
      have hdq : dq q 1 = 1 := by unfold dq; omega
      rw [hdq]
      clear hdq
      have hm1 : min q 1 = 1 := by omega
      have e0 := ext_alloc w (.cells #[.string t, .string x, .int .i64 q, .bool r] 33)
      have f0 := ext_alloc w (.cells #[.string t, .string x, .int .i64 1, .bool r] 33)
      have r0 := heap_alloc_new w (.cells #[.string t, .string x, .int .i64 q, .bool r] 33)
      have R1 := heap_alloc_new w (.cells #[.string t, .string x, .int .i64 1, .bool r] 33)
      have S1 : Hid (Ss (fun k => A k ∨ k = w.heap.size) (w.alloc (.cells #[.string t, .string x, .int .i64 1, .bool r] 33)) a cl cn on T L l lost) := Lib.hid (h.others (S := fun _ => False) (Far.of_ext f0) (fun _ e => e.elim) (fun k hk => hk.imp id (fun e => by subst e; exact ⟨Nat.le_refl _, by simp⟩)))
      have K1 : Hid (Kp A w (w.alloc (.cells #[.string t, .string x, .int .i64 1, .bool r] 33))) := Lib.hid (Kp.of_ext f0)
      have N1 := Lib.hid (s_none (h.ext e0))
      have c0 : (w.alloc (.cells #[.string t, .string x, .int .i64 q, .bool r] 33)).cell? ⟨w.heap.size, 2, none⟩ = some (.int .i64 q) := cell_of_row _ _ 2 _ 33 (0, 0) r0
      have z0 := frozen_of_row _ w.heap.size 2 _ 33 r0
      have s2 := S1.out.s2
      replace r0 := Lib.hid r0
      replace R1 := Lib.hid R1
      replace h := Lib.hid h
      replace e0 := Lib.hid e0
      replace f0 := Lib.hid f0
      have KO := Lib.hid (fun W (hb : Below (w.alloc (.cells #[.string t, .string x, .int .i64 1, .bool r] 33)).heap.size (w.alloc (.cells #[.string t, .string x, .int .i64 1, .bool r] 33)) W) => msg_cells0 (m := ⟨t, x, 1, r⟩) (S1.out) R1.out hb)
      have SE := Lib.hid (fun W (hb : Below (w.alloc (.cells #[.string t, .string x, .int .i64 1, .bool r] 33)).heap.size (w.alloc (.cells #[.string t, .string x, .int .i64 1, .bool r] 33)) W) => put_any (S1.out.ext hb) ⟨t, x, 1, r⟩ (.inl rfl) hl0 hl1)
      go_enter Tryz.func15, Tryz.ntmps15
      go_wp2_with fail
      refine N1.out.mono ?_
      rintro e w1 ⟨rfl, rfl⟩
      go_wp2_with fail
      generalize hW1 : (w.alloc (.cells #[.string t, .string x, .int .i64 1, .bool r] 33)) = w1 at *
      go_region_held3 (fun W => W.cell? ⟨a.s, 3, none⟩ = some (.pointer (some ⟨a.ps, 0, none⟩)) ∧ W.cell? ⟨a.ps, 0, none⟩ = some (.pointer (some ⟨a.qg, 0, none⟩)) ∧ W.cell? ⟨w.heap.size, 0, none⟩ = some (.string t) ∧ W.cell? ⟨w.heap.size, 1, none⟩ = some (.string x) ∧ W.cell? ⟨w.heap.size, 2, none⟩ = some (.int .i64 1) ∧ W.cell? ⟨w.heap.size, 3, none⟩ = some (.bool r))
        (first | exact KO.out _ (by first | exact Below.refl _ _ | exact ext_drew _ | assumption) | exact KA.out _ (by first | exact Below.refl _ _ | exact ext_drew _ | assumption))
        (first
          | (go_at_call 38; refine (SE.out _ (by first | exact Below.refl _ _ | exact ext_drew _ | assumption)).mono ?_; rintro e w4 ⟨rfl, s4, k4⟩; have X4 := Lib.hid (put_end (m := ⟨t, x, 1, r⟩) K1.out R1.out (by first | exact Below.refl _ _ | exact ext_drew _) s4 k4); clear s4 k4; have KA := Lib.hid (fun W (hb : Below w4.heap.size w4 W) => msg_cells0 (m := ⟨t, x, 1, r⟩) X4.out.1 X4.out.2.2 hb)))
      all_goals
        obtain ⟨s4, k4, r4⟩ := X4.out
        have FL := Lib.hid (fill_any s4 (fun k hk => Nat.lt_of_lt_of_le (hA.out k hk) k4.size))
        replace k4 := Lib.hid k4
        clear KA KO SE X4 s4 r4
        go_wp2_with fail
        refine FL.out.mono ?_
        rintro e w5 ⟨v, T', L', l', P, rfl, s5, k6, o5, e5⟩
        obtain ⟨va, vc, rfl⟩ := own_slice o5
        have X5 := Lib.hid (⟨s5, k4.out.trans k6, own_base o5 k4.out.size, e5⟩ : _ ∧ _ ∧ _ ∧ _)
        clear s5 k6 o5 e5
        go_wp2_with fail
        go_ret2
        exact ⟨_, T', L', l', P, _, _, rfl, X5.out.1, X5.out.2.1, X5.out.2.2.1, fun e => by simp at e, fun _ => ⟨rfl, rfl, X5.out.2.2.2⟩⟩
    · obtain rfl : qos = 2 := by omega
      have hdq : dq q 2 = 2 := by unfold dq; omega
      rw [hdq]
      clear hdq
      have hm1 : min q 2 = 2 := by omega
      have e0 := ext_alloc w (.cells #[.string t, .string x, .int .i64 q, .bool r] 33)
      have f0 := ext_alloc w (.cells #[.string t, .string x, .int .i64 2, .bool r] 33)
      have r0 := heap_alloc_new w (.cells #[.string t, .string x, .int .i64 q, .bool r] 33)
      have R1 := heap_alloc_new w (.cells #[.string t, .string x, .int .i64 2, .bool r] 33)
      have S1 : Hid (Ss (fun k => A k ∨ k = w.heap.size) (w.alloc (.cells #[.string t, .string x, .int .i64 2, .bool r] 33)) a cl cn on T L l lost) := Lib.hid (h.others (S := fun _ => False) (Far.of_ext f0) (fun _ e => e.elim) (fun k hk => hk.imp id (fun e => by subst e; exact ⟨Nat.le_refl _, by simp⟩)))
      have K1 : Hid (Kp A w (w.alloc (.cells #[.string t, .string x, .int .i64 2, .bool r] 33))) := Lib.hid (Kp.of_ext f0)
      have N1 := Lib.hid (s_none (h.ext e0))
      have c0 : (w.alloc (.cells #[.string t, .string x, .int .i64 q, .bool r] 33)).cell? ⟨w.heap.size, 2, none⟩ = some (.int .i64 q) := cell_of_row _ _ 2 _ 33 (0, 0) r0
      have z0 := frozen_of_row _ w.heap.size 2 _ 33 r0
      have s2 := S1.out.s2
      replace r0 := Lib.hid r0
      replace R1 := Lib.hid R1
      replace h := Lib.hid h
      replace e0 := Lib.hid e0
      replace f0 := Lib.hid f0
      have KO := Lib.hid (fun W (hb : Below (w.alloc (.cells #[.string t, .string x, .int .i64 2, .bool r] 33)).heap.size (w.alloc (.cells #[.string t, .string x, .int .i64 2, .bool r] 33)) W) => msg_cells0 (m := ⟨t, x, 2, r⟩) (S1.out) R1.out hb)
      have SE := Lib.hid (fun W (hb : Below (w.alloc (.cells #[.string t, .string x, .int .i64 2, .bool r] 33)).heap.size (w.alloc (.cells #[.string t, .string x, .int .i64 2, .bool r] 33)) W) => put_any (S1.out.ext hb) ⟨t, x, 2, r⟩ (.inr rfl) hl0 hl1)
      go_enter Tryz.func15, Tryz.ntmps15
      go_wp2_with fail
      refine N1.out.mono ?_
      rintro e w1 ⟨rfl, rfl⟩
      go_wp2_with fail
      generalize hW1 : (w.alloc (.cells #[.string t, .string x, .int .i64 2, .bool r] 33)) = w1 at *
      go_region_held3 (fun W => W.cell? ⟨a.s, 3, none⟩ = some (.pointer (some ⟨a.ps, 0, none⟩)) ∧ W.cell? ⟨a.ps, 0, none⟩ = some (.pointer (some ⟨a.qg, 0, none⟩)) ∧ W.cell? ⟨w.heap.size, 0, none⟩ = some (.string t) ∧ W.cell? ⟨w.heap.size, 1, none⟩ = some (.string x) ∧ W.cell? ⟨w.heap.size, 2, none⟩ = some (.int .i64 2) ∧ W.cell? ⟨w.heap.size, 3, none⟩ = some (.bool r))
        (first | exact KO.out _ (by first | exact Below.refl _ _ | exact ext_drew _ | assumption) | exact KA.out _ (by first | exact Below.refl _ _ | exact ext_drew _ | assumption))
        (first
          | (go_at_call 38; refine (SE.out _ (by first | exact Below.refl _ _ | exact ext_drew _ | assumption)).mono ?_; rintro e w4 ⟨rfl, s4, k4⟩; have X4 := Lib.hid (put_end (m := ⟨t, x, 2, r⟩) K1.out R1.out (by first | exact Below.refl _ _ | exact ext_drew _) s4 k4); clear s4 k4; have KA := Lib.hid (fun W (hb : Below w4.heap.size w4 W) => msg_cells0 (m := ⟨t, x, 2, r⟩) X4.out.1 X4.out.2.2 hb)))
      all_goals
        obtain ⟨s4, k4, r4⟩ := X4.out
        have FL := Lib.hid (fill_any s4 (fun k hk => Nat.lt_of_lt_of_le (hA.out k hk) k4.size))
        replace k4 := Lib.hid k4
        clear KA KO SE X4 s4 r4
        go_wp2_with fail
        refine FL.out.mono ?_
        rintro e w5 ⟨v, T', L', l', P, rfl, s5, k6, o5, e5⟩
        obtain ⟨va, vc, rfl⟩ := own_slice o5
        have X5 := Lib.hid (⟨s5, k4.out.trans k6, own_base o5 k4.out.size, e5⟩ : _ ∧ _ ∧ _ ∧ _)
        clear s5 k6 o5 e5
        go_wp2_with fail
        go_ret2
        exact ⟨_, T', L', l', P, _, _, rfl, X5.out.1, X5.out.2.1, X5.out.2.2.1, fun e => by simp at e, fun _ => ⟨rfl, rfl, X5.out.2.2.2⟩⟩
end Go.Proofs.YtceiipcdkonnlaaGreat.Ses
