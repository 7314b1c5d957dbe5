/-
  LAYER 25: Answer, of any kind and number.
-/
import Derived.Test.YtceiipcdkonnlaaGreatYe
import Derived.Test.YtceiipcdkonnlaaGreatNf
namespace Go.Proofs.YtceiipcdkonnlaaGreat.Ses
open Go.RowKit Que Hp Ids Fli
set_option linter.unusedSimpArgs false
set_option linter.unusedVariables false
def AnsG (A : Nat → Prop) (w : World) (a : Ad) (cl : ByteArray) (cn : Bool) (L1 : List Se) (l : List Mg) (lost : Int) (pre : List Se) (e : Ending) (w' : World) : Prop :=
  ∃ v T1 T' L' l' P, e = .returned v ∧ Ss (fun k => A k ∨ v.ownBlock = some k) w' a cl cn true T' L' l' lost ∧ Kp A w w' ∧ w'.ownsRow w.heap.size 72 24 v (pre.length + P.length) (pkC pre ++ pfC P) ∧ fl true T1 L1 l = (T', L', l', P) ∧ Tk T1 L1
section
variable {A : Nat → Prop} {w : World} {f g : Nat} {T : List Bool} {L : List Se}
theorem p_ackG (h : Fs A w f g T L) (id : Int) : Calls Tryz.prog 47 #[.pointer (some ⟨f, 0, none⟩), .int .i64 id] w fun e w' => e = .returned (.bool (goneL L id 1).1) ∧ ∃ T', Fs A w' f g T' (goneL L id 1).2 ∧ Kp A w w' := by
  rcases find_or L id with hn | ⟨q, e, hq, rfl⟩
  · rw [goneL_none hn]
    exact (ack_none' h id hn).mono fun e w' ⟨he, s, k⟩ => ⟨he, T, s, k⟩
  · cases hs : e.s == 1
    · rw [goneL_no h.nd hq hs]
      exact (ack_no' h hq hs).mono fun e w' ⟨he, s, k⟩ => ⟨he, T, s, k⟩
    · rw [goneL_yes h.nd hq hs]
      exact (ack_yes' h hq hs).mono fun e w' ⟨he, T', L', hL, s, k⟩ => ⟨he, T', by subst hL; exact s, k⟩
theorem p_compG (h : Fs A w f g T L) (id : Int) : Calls Tryz.prog 48 #[.pointer (some ⟨f, 0, none⟩), .int .i64 id] w fun e w' => e = .returned (.bool (goneL L id 3).1) ∧ ∃ T', Fs A w' f g T' (goneL L id 3).2 ∧ Kp A w w' := by
  rcases find_or L id with hn | ⟨q, e, hq, rfl⟩
  · rw [goneL_none hn]
    exact (comp_none' h id hn).mono fun e w' ⟨he, s, k⟩ => ⟨he, T, s, k⟩
  · cases hs : e.s == 3
    · rw [goneL_no h.nd hq hs]
      exact (comp_no' h hq hs).mono fun e w' ⟨he, s, k⟩ => ⟨he, T, s, k⟩
    · rw [goneL_yes h.nd hq hs]
      exact (comp_yes' h hq hs).mono fun e w' ⟨he, T', L', hL, s, k⟩ => ⟨he, T', by subst hL; exact s, k⟩
theorem p_recG (h : Fs A w f g T L) (hi : Inv L) (id : Int) : Calls Tryz.prog 49 #[.pointer (some ⟨f, 0, none⟩), .int .i64 id] w fun e w' => e = .returned (.bool (recL L id).1) ∧ ∃ T', Fs A w' f g T' (recL L id).2 ∧ Kp A w w' := by
  rcases find_or L id with hn | ⟨q, e, hq, rfl⟩
  · rw [recL_none hn]
    exact (rec_none' h id hn).mono fun e w' ⟨he, s, k⟩ => ⟨he, T, s, k⟩
  · cases hs : (e.s == 2 || e.s == 3)
    · rw [recL_no hi h.nd hq hs]
      exact (rec_no' h hq hs).mono fun e w' ⟨he, s, k⟩ => ⟨he, T, s, k⟩
    · rw [recL_yes h.nd hq hs]
      exact (rec_yes' h hq hs).mono fun e w' ⟨he, T', L', hL, s, k⟩ => ⟨he, T', by subst hL; exact s, k⟩
end

set_option maxHeartbeats 8000000 in
set_option maxRecDepth 100000 in
theorem ans_ackG {A : Nat → Prop} {w : World} {a : Ad} {cl : ByteArray} {cn : Bool} {T : List Bool} {L : List Se} {l : List Mg} {lost : Int} (h : Ss A w a cl cn true T L l lost) (hA : ∀ k, A k → k < w.heap.size) (id : Int) : Calls Tryz.prog 22 #[.pointer (some ⟨a.s, 0, none⟩), .int .i64 4, .int .i64 id] w (AnsG A w a cl cn (goneL L id 1).2 l lost []) := by
  obtain ⟨i3, hi3, hz0, hz1, hz2⟩ := info_parts info78
  have hll := h.le
  have ON := Lib.hid (s_online h)
  have s3 := h.s3
  have p1 := h.p1
  have AK := Lib.hid (p_ackG h.fs id)
  replace h := Lib.hid h
  replace hA := Lib.hid hA
  go_enter Tryz.func22, Tryz.ntmps22
  go_wp2_with fail
  refine ON.out.mono ?_
  rintro x w1 ⟨rfl, rfl⟩
  go_wp2_with fail
  refine AK.out.mono ?_
  rintro x w1 ⟨rfl, T1, f1, k1⟩
  obtain ⟨S1, K1⟩ := h.out.onF f1 k1
  have FL := Lib.hid (fill_any S1 (fun k hk => Nat.lt_of_lt_of_le (hA.out k hk) K1.size))
  replace K1 := Lib.hid K1
  have t1 := Lib.hid (show Tk T1 _ from fun j => Fs.iff f1 j)
  clear S1 f1 k1 AK s3 p1
  go_wp2_with fail
  refine FL.out.mono ?_
  rintro x w3 ⟨v1, T', L', l', P, rfl, s3, k3, o3, e3⟩
  have hP : P.length ≤ 16 := by
    have := fl_ln true l T1 (goneL L id 1).2
    rw [e3] at this
    simp only at this
    omega
  have K3 : Hid (Kp A w w3) := Lib.hid (K1.out.trans k3)
  have S3 := Lib.hid s3
  have E3 := Lib.hid e3
  have sz3 := Lib.hid (show w.heap.size ≤ w3.heap.size from K3.out.size)
  have N3 : Hid (w3.ownsRow w.heap.size 72 24 (.slice none 0 0) 0 []) := Lib.hid (World.ownsRow_nil _ _ _ _)
  clear s3 k3 e3 FL
  have hne := o3.2
  replace o3 := Lib.hid o3
  rcases hne with ⟨rfl, hn⟩ | ⟨g, cap, cur, rfl, -⟩
  · have hP0 : P = [] := List.eq_nil_of_length_eq_zero hn
    subst hP0
    go_wp2_with (first
      | (at_builtin; go_loud (refine wpList_append_own_none rfl (.tmp 50) (.tmp 52) 64 rfl w.heap.size 72 i3 24 Tryz.underlying64 hi3 (.slice none 0 0) 0 [] rfl N3.out rfl ?_)))
    go_ret
    exact ⟨_, T1, T', L', l', [], rfl, S3.out, K3.out, World.ownsRow_nil _ _ _ _, E3.out, t1.out⟩
  · have hnew : Hid (∀ j u, (pfC P)[j]? = some u → w3.cell? ((⟨g, 0, none⟩ : Addr).add j) = some u) := Lib.hid (by
      intro j u hj
      rw [add_off', Nat.zero_add]
      exact own_get o3.out hj)
    go_wp2_with (first
      | (at_builtin; go_loud (refine wpList_append_own_at _ rfl (.tmp 50) (.tmp 52) 64 rfl w.heap.size 72 i3 zP 24 280 Tryz.underlying64 hi3 hz0 hz1 hz2 rfl (by decide) (.slice none 0 0) 0 [] rfl N3.out ⟨g, 0, none⟩ P.length cap (pfC P) rfl (pfC_len P) hnew.out (pfC_one P) (by unfold maxLen; omega) (by omega) sz3.out ?_); intro v3 w6 o6 g6 _ hat))
    go_ret
    obtain ⟨x1, x2⟩ := att_end (S3.out.weaken (A' := fun k => (A k ∨ (Value.slice none 0 0).ownBlock = some k) ∨ (Value.slice (some ⟨g, 0, none⟩) P.length cap).ownBlock = some k) (fun k hk => hk.imp (fun e => e.elim _root_.id (fun e => by cases e)) _root_.id)) K3.out N3.out hA.out o6 g6 hat
    exact ⟨_, T1, T', L', l', P, rfl, x1, x2, by simpa [pkC] using o6, E3.out, t1.out⟩

set_option maxHeartbeats 8000000 in
set_option maxRecDepth 100000 in
theorem ans_compG {A : Nat → Prop} {w : World} {a : Ad} {cl : ByteArray} {cn : Bool} {T : List Bool} {L : List Se} {l : List Mg} {lost : Int} (h : Ss A w a cl cn true T L l lost) (hA : ∀ k, A k → k < w.heap.size) (id : Int) : Calls Tryz.prog 22 #[.pointer (some ⟨a.s, 0, none⟩), .int .i64 7, .int .i64 id] w (AnsG A w a cl cn (goneL L id 3).2 l lost []) := by
  obtain ⟨i3, hi3, hz0, hz1, hz2⟩ := info_parts info78
  have hll := h.le
  have ON := Lib.hid (s_online h)
  have s3 := h.s3
  have p1 := h.p1
  have AK := Lib.hid (p_compG h.fs id)
  replace h := Lib.hid h
  replace hA := Lib.hid hA
  go_enter Tryz.func22, Tryz.ntmps22
  go_wp2_with fail
  refine ON.out.mono ?_
  rintro x w1 ⟨rfl, rfl⟩
  go_wp2_with fail
  refine AK.out.mono ?_
  rintro x w1 ⟨rfl, T1, f1, k1⟩
  obtain ⟨S1, K1⟩ := h.out.onF f1 k1
  have FL := Lib.hid (fill_any S1 (fun k hk => Nat.lt_of_lt_of_le (hA.out k hk) K1.size))
  replace K1 := Lib.hid K1
  have t1 := Lib.hid (show Tk T1 _ from fun j => Fs.iff f1 j)
  clear S1 f1 k1 AK s3 p1
  go_wp2_with fail
  refine FL.out.mono ?_
  rintro x w3 ⟨v1, T', L', l', P, rfl, s3, k3, o3, e3⟩
  have hP : P.length ≤ 16 := by
    have := fl_ln true l T1 (goneL L id 3).2
    rw [e3] at this
    simp only at this
    omega
  have K3 : Hid (Kp A w w3) := Lib.hid (K1.out.trans k3)
  have S3 := Lib.hid s3
  have E3 := Lib.hid e3
  have sz3 := Lib.hid (show w.heap.size ≤ w3.heap.size from K3.out.size)
  have N3 : Hid (w3.ownsRow w.heap.size 72 24 (.slice none 0 0) 0 []) := Lib.hid (World.ownsRow_nil _ _ _ _)
  clear s3 k3 e3 FL
  have hne := o3.2
  replace o3 := Lib.hid o3
  rcases hne with ⟨rfl, hn⟩ | ⟨g, cap, cur, rfl, -⟩
  · have hP0 : P = [] := List.eq_nil_of_length_eq_zero hn
    subst hP0
    go_wp2_with (first
      | (at_builtin; go_loud (refine wpList_append_own_none rfl (.tmp 50) (.tmp 52) 64 rfl w.heap.size 72 i3 24 Tryz.underlying64 hi3 (.slice none 0 0) 0 [] rfl N3.out rfl ?_)))
    go_ret
    exact ⟨_, T1, T', L', l', [], rfl, S3.out, K3.out, World.ownsRow_nil _ _ _ _, E3.out, t1.out⟩
  · have hnew : Hid (∀ j u, (pfC P)[j]? = some u → w3.cell? ((⟨g, 0, none⟩ : Addr).add j) = some u) := Lib.hid (by
      intro j u hj
      rw [add_off', Nat.zero_add]
      exact own_get o3.out hj)
    go_wp2_with (first
      | (at_builtin; go_loud (refine wpList_append_own_at _ rfl (.tmp 50) (.tmp 52) 64 rfl w.heap.size 72 i3 zP 24 280 Tryz.underlying64 hi3 hz0 hz1 hz2 rfl (by decide) (.slice none 0 0) 0 [] rfl N3.out ⟨g, 0, none⟩ P.length cap (pfC P) rfl (pfC_len P) hnew.out (pfC_one P) (by unfold maxLen; omega) (by omega) sz3.out ?_); intro v3 w6 o6 g6 _ hat))
    go_ret
    obtain ⟨x1, x2⟩ := att_end (S3.out.weaken (A' := fun k => (A k ∨ (Value.slice none 0 0).ownBlock = some k) ∨ (Value.slice (some ⟨g, 0, none⟩) P.length cap).ownBlock = some k) (fun k hk => hk.imp (fun e => e.elim _root_.id (fun e => by cases e)) _root_.id)) K3.out N3.out hA.out o6 g6 hat
    exact ⟨_, T1, T', L', l', P, rfl, x1, x2, by simpa [pkC] using o6, E3.out, t1.out⟩

def rl (id : Int) : Se := ⟨id, 3, ⟨#[]⟩, ⟨#[]⟩, 0, false⟩
set_option maxHeartbeats 8000000 in
set_option maxRecDepth 100000 in
theorem ans_recG {A : Nat → Prop} {w : World} {a : Ad} {cl : ByteArray} {cn : Bool} {T : List Bool} {L : List Se} {l : List Mg} {lost : Int} (h : Ss A w a cl cn true T L l lost) (hA : ∀ k, A k → k < w.heap.size) (hi : Inv L) (id : Int) (hr : (recL L id).1 = true) : Calls Tryz.prog 22 #[.pointer (some ⟨a.s, 0, none⟩), .int .i64 5, .int .i64 id] w (AnsG A w a cl cn (recL L id).2 l lost [rl id]) := by
  obtain ⟨i3, hi3, hz0, hz1, hz2⟩ := info_parts info78
  have hll := h.le
  have ON := Lib.hid (s_online h)
  have s3 := h.s3
  have p1 := h.p1
  have AK := Lib.hid (by have := p_recG h.fs hi id; rw [hr] at this; exact this : Calls Tryz.prog 49 #[.pointer (some ⟨a.f, 0, none⟩), .int .i64 id] w fun e w' => e = .returned (.bool true) ∧ ∃ T', Fs (AX A a) w' a.f a.g T' (recL L id).2 ∧ Kp (AX A a) w w')
  have hpk : pkC [rl id] = [.int .i64 6, .int .i64 id, .bool false, .string { data := #[] }, .string { data := #[] }, .int .i64 0, .bool false, .int .i64 0, .bool false, .int .i64 0, .string { data := #[] }, .bool false, .string { data := #[] }, .string { data := #[] }, .int .i64 0, .bool false, .bool false, .string { data := #[] }, .bool false, .string { data := #[] }, .bool false, .int .i64 0, .slice none 0 0, .slice none 0 0] := by simp [pkC, pk, pkR, rl]
  replace hpk := Lib.hid hpk
  replace h := Lib.hid h
  replace hA := Lib.hid hA
  go_enter Tryz.func22, Tryz.ntmps22
  go_wp2_with fail
  refine ON.out.mono ?_
  rintro x w1 ⟨rfl, rfl⟩
  go_wp2_with fail
  refine AK.out.mono ?_
  rintro x w1 ⟨rfl, T1, f1, k1⟩
  obtain ⟨S1, K1⟩ := h.out.onF f1 k1
  have oA : Hid ((w1.alloc (.cells #[.int .i64 6, .int .i64 id, .bool false, .string { data := #[] }, .string { data := #[] }, .int .i64 0, .bool false, .int .i64 0, .bool false, .int .i64 0, .string { data := #[] }, .bool false, .string { data := #[] }, .string { data := #[] }, .int .i64 0, .bool false, .bool false, .string { data := #[] }, .bool false, .string { data := #[] }, .bool false, .int .i64 0, .slice none 0 0, .slice none 0 0] 72)).ownsRow w1.heap.size 72 24 (.slice none 0 0) 0 []) := Lib.hid (World.ownsRow_nil _ _ _ _)
  have hnew : Hid (∀ j u, ([.int .i64 6, .int .i64 id, .bool false, .string { data := #[] }, .string { data := #[] }, .int .i64 0, .bool false, .int .i64 0, .bool false, .int .i64 0, .string { data := #[] }, .bool false, .string { data := #[] }, .string { data := #[] }, .int .i64 0, .bool false, .bool false, .string { data := #[] }, .bool false, .string { data := #[] }, .bool false, .int .i64 0, .slice none 0 0, .slice none 0 0] : List Value)[j]? = some u → (w1.alloc (.cells #[.int .i64 6, .int .i64 id, .bool false, .string { data := #[] }, .string { data := #[] }, .int .i64 0, .bool false, .int .i64 0, .bool false, .int .i64 0, .string { data := #[] }, .bool false, .string { data := #[] }, .string { data := #[] }, .int .i64 0, .bool false, .bool false, .string { data := #[] }, .bool false, .string { data := #[] }, .bool false, .int .i64 0, .slice none 0 0, .slice none 0 0] 72)).cell? ((⟨w1.heap.size, 0, none⟩ : Addr).add j) = some u) := Lib.hid (by
    intro j u hj
    have := cell_of_row (w1.alloc (.cells #[.int .i64 6, .int .i64 id, .bool false, .string { data := #[] }, .string { data := #[] }, .int .i64 0, .bool false, .int .i64 0, .bool false, .int .i64 0, .string { data := #[] }, .bool false, .string { data := #[] }, .string { data := #[] }, .int .i64 0, .bool false, .bool false, .string { data := #[] }, .bool false, .string { data := #[] }, .bool false, .int .i64 0, .slice none 0 0, .slice none 0 0] 72)) w1.heap.size j _ 72 (0, 0) (heap_alloc_new w1 _)
    rw [add_off', Nat.zero_add, this, ← hj]
    exact List.getElem?_toArray)
  have hpo : Hid (∀ u ∈ ([.int .i64 6, .int .i64 id, .bool false, .string { data := #[] }, .string { data := #[] }, .int .i64 0, .bool false, .int .i64 0, .bool false, .int .i64 0, .string { data := #[] }, .bool false, .string { data := #[] }, .string { data := #[] }, .int .i64 0, .bool false, .bool false, .string { data := #[] }, .bool false, .string { data := #[] }, .bool false, .int .i64 0, .slice none 0 0, .slice none 0 0] : List Value), u.oneCell' = true) := Lib.hid (by
    intro u hu
    simp only [List.mem_cons, List.not_mem_nil, or_false] at hu
    rcases hu with rfl | rfl | rfl | rfl | rfl | rfl | rfl | rfl | rfl | rfl | rfl | rfl | rfl | rfl | rfl | rfl | rfl | rfl | rfl | rfl | rfl | rfl | rfl | rfl <;> rfl)
  have X1 := Lib.hid S1
  replace K1 := Lib.hid K1
  have t1 := Lib.hid (show Tk T1 _ from fun j => Fs.iff f1 j)
  clear S1 f1 k1 AK s3 p1
  go_wp2_with (first
    | (at_builtin; go_loud (refine wpList_append_own_at _ rfl (.tmp 45) (.tmp 48) 64 rfl w1.heap.size 72 i3 zP 24 280 Tryz.underlying64 hi3 hz0 hz1 hz2 rfl (by decide) (.slice none 0 0) 0 [] rfl oA.out ⟨w1.heap.size, 0, none⟩ 1 1 [.int .i64 6, .int .i64 id, .bool false, .string { data := #[] }, .string { data := #[] }, .int .i64 0, .bool false, .int .i64 0, .bool false, .int .i64 0, .string { data := #[] }, .bool false, .string { data := #[] }, .string { data := #[] }, .int .i64 0, .bool false, .bool false, .string { data := #[] }, .bool false, .string { data := #[] }, .bool false, .int .i64 0, .slice none 0 0, .slice none 0 0] rfl rfl hnew.out hpo.out (by unfold maxLen; omega) (by omega) (by simp) ?_); intro v0 w2 o2 g2 _ hat0))
  have b2 : Below w1.heap.size w1 w2 := (ext_alloc w1 _).grown g2 (by simp) (fun j hj => by cases hj)
  have o2' : w2.ownsRow w1.heap.size 72 24 v0 1 (pkC [rl id]) := by rw [hpk.out]; simpa using o2
  have S2 : Hid (Ss (fun k => A k ∨ v0.ownBlock = some k) w2 a cl cn true T1 (recL L id).2 l lost) := Lib.hid (X1.out.others (S := fun _ => False) (Far.of_ext b2) (fun _ e => e.elim) (fun k hk => hk.imp _root_.id (fun e => o2'.lt k e)))
  have K2 : Hid (Kp A w w2) := Lib.hid (K1.out.trans (Kp.of_ext b2))
  have FL := Lib.hid (fill_any S2.out (fun k hk => hk.elim (fun e => Nat.lt_of_lt_of_le (hA.out k e) K2.out.size) (fun e => (o2'.lt k e).2)))
  have O2 : Hid (w2.ownsRow w.heap.size 72 24 v0 1 (pkC [rl id])) := Lib.hid (own_base o2' K1.out.size)
  clear b2 o2 o2' g2 hat0 oA hnew hpo X1
  go_wp2_with fail
  refine FL.out.mono ?_
  rintro x w3 ⟨v1, T', L', l', P, rfl, s3, k3, o3, e3⟩
  have hP : P.length ≤ 16 := by
    have := fl_ln true l T1 (recL L id).2
    rw [e3] at this
    simp only at this
    omega
  have K3 : Hid (Kp A w w3) := Lib.hid (K2.out.trans (k3.mono fun k _ e hk => e (.inl hk)))
  have O3 : Hid (w3.ownsRow w.heap.size 72 24 v0 1 (pkC [rl id])) := Lib.hid (own_fars O2.out k3 (fun k hk e => e (.inr hk)))
  have S3 := Lib.hid s3
  have E3 := Lib.hid e3
  have sz3 := Lib.hid (show w.heap.size ≤ w3.heap.size from K3.out.size)
  clear s3 k3 e3 FL
  obtain ⟨a0, c0, rfl⟩ := own_slice O3.out
  have hne := o3.2
  replace o3 := Lib.hid o3
  rcases hne with ⟨rfl, hn⟩ | ⟨g, cap, cur, rfl, -⟩
  · have hP0 : P = [] := List.eq_nil_of_length_eq_zero hn
    subst hP0
    go_wp2_with (first
      | (at_builtin; go_loud (refine wpList_append_own_none rfl (.tmp 50) (.tmp 52) 64 rfl w.heap.size 72 i3 24 Tryz.underlying64 hi3 (.slice a0 1 c0) 1 (pkC [rl id]) rfl O3.out rfl ?_)))
    go_ret
    exact ⟨_, T1, T', L', l', [], rfl, S3.out.weaken (fun k hk => .inl hk), K3.out, by simpa [pfC] using O3.out, E3.out, t1.out⟩
  · have hnew : Hid (∀ j u, (pfC P)[j]? = some u → w3.cell? ((⟨g, 0, none⟩ : Addr).add j) = some u) := Lib.hid (by
      intro j u hj
      rw [add_off', Nat.zero_add]
      exact own_get o3.out hj)
    go_wp2_with (first
      | (at_builtin; go_loud (refine wpList_append_own_at _ rfl (.tmp 50) (.tmp 52) 64 rfl w.heap.size 72 i3 zP 24 280 Tryz.underlying64 hi3 hz0 hz1 hz2 rfl (by decide) (.slice a0 1 c0) 1 (pkC [rl id]) rfl O3.out ⟨g, 0, none⟩ P.length cap (pfC P) rfl (pfC_len P) hnew.out (pfC_one P) (by unfold maxLen; omega) (by omega) sz3.out ?_); intro v3 w6 o6 g6 _ hat))
    go_ret
    obtain ⟨x1, x2⟩ := att_end S3.out K3.out O3.out hA.out o6 g6 hat
    exact ⟨_, T1, T', L', l', P, rfl, x1, x2, o6, E3.out, t1.out⟩

set_option maxHeartbeats 8000000 in
set_option maxRecDepth 100000 in
theorem ans_recN {A : Nat → Prop} {w : World} {a : Ad} {cl : ByteArray} {cn : Bool} {T : List Bool} {L : List Se} {l : List Mg} {lost : Int} (h : Ss A w a cl cn true T L l lost) (hA : ∀ k, A k → k < w.heap.size) (hi : Inv L) (id : Int) (hr : (recL L id).1 = false) : Calls Tryz.prog 22 #[.pointer (some ⟨a.s, 0, none⟩), .int .i64 5, .int .i64 id] w (AnsG A w a cl cn (recL L id).2 l lost []) := by
  obtain ⟨i3, hi3, hz0, hz1, hz2⟩ := info_parts info78
  have hll := h.le
  have ON := Lib.hid (s_online h)
  have s3 := h.s3
  have p1 := h.p1
  have AK := Lib.hid (by have := p_recG h.fs hi id; rw [hr] at this; exact this : Calls Tryz.prog 49 #[.pointer (some ⟨a.f, 0, none⟩), .int .i64 id] w fun e w' => e = .returned (.bool false) ∧ ∃ T', Fs (AX A a) w' a.f a.g T' (recL L id).2 ∧ Kp (AX A a) w w')
  replace h := Lib.hid h
  replace hA := Lib.hid hA
  go_enter Tryz.func22, Tryz.ntmps22
  go_wp2_with fail
  refine ON.out.mono ?_
  rintro x w1 ⟨rfl, rfl⟩
  go_wp2_with fail
  refine AK.out.mono ?_
  rintro x w1 ⟨rfl, T1, f1, k1⟩
  obtain ⟨S1, K1⟩ := h.out.onF f1 k1
  have FL := Lib.hid (fill_any S1 (fun k hk => Nat.lt_of_lt_of_le (hA.out k hk) K1.size))
  replace K1 := Lib.hid K1
  have t1 := Lib.hid (show Tk T1 _ from fun j => Fs.iff f1 j)
  clear S1 f1 k1 AK s3 p1
  go_wp2_with fail
  refine FL.out.mono ?_
  rintro x w3 ⟨v1, T', L', l', P, rfl, s3, k3, o3, e3⟩
  have hP : P.length ≤ 16 := by
    have := fl_ln true l T1 (recL L id).2
    rw [e3] at this
    simp only at this
    omega
  have K3 : Hid (Kp A w w3) := Lib.hid (K1.out.trans k3)
  have S3 := Lib.hid s3
  have E3 := Lib.hid e3
  have sz3 := Lib.hid (show w.heap.size ≤ w3.heap.size from K3.out.size)
  have N3 : Hid (w3.ownsRow w.heap.size 72 24 (.slice none 0 0) 0 []) := Lib.hid (World.ownsRow_nil _ _ _ _)
  clear s3 k3 e3 FL
  have hne := o3.2
  replace o3 := Lib.hid o3
  rcases hne with ⟨rfl, hn⟩ | ⟨g, cap, cur, rfl, -⟩
  · have hP0 : P = [] := List.eq_nil_of_length_eq_zero hn
    subst hP0
    go_wp2_with (first
      | (at_builtin; go_loud (refine wpList_append_own_none rfl (.tmp 50) (.tmp 52) 64 rfl w.heap.size 72 i3 24 Tryz.underlying64 hi3 (.slice none 0 0) 0 [] rfl N3.out rfl ?_)))
    go_ret
    exact ⟨_, T1, T', L', l', [], rfl, S3.out, K3.out, World.ownsRow_nil _ _ _ _, E3.out, t1.out⟩
  · have hnew : Hid (∀ j u, (pfC P)[j]? = some u → w3.cell? ((⟨g, 0, none⟩ : Addr).add j) = some u) := Lib.hid (by
      intro j u hj
      rw [add_off', Nat.zero_add]
      exact own_get o3.out hj)
    go_wp2_with (first
      | (at_builtin; go_loud (refine wpList_append_own_at _ rfl (.tmp 50) (.tmp 52) 64 rfl w.heap.size 72 i3 zP 24 280 Tryz.underlying64 hi3 hz0 hz1 hz2 rfl (by decide) (.slice none 0 0) 0 [] rfl N3.out ⟨g, 0, none⟩ P.length cap (pfC P) rfl (pfC_len P) hnew.out (pfC_one P) (by unfold maxLen; omega) (by omega) sz3.out ?_); intro v3 w6 o6 g6 _ hat))
    go_ret
    obtain ⟨x1, x2⟩ := att_end (S3.out.weaken (A' := fun k => (A k ∨ (Value.slice none 0 0).ownBlock = some k) ∨ (Value.slice (some ⟨g, 0, none⟩) P.length cap).ownBlock = some k) (fun k hk => hk.imp (fun e => e.elim _root_.id (fun e => by cases e)) _root_.id)) K3.out N3.out hA.out o6 g6 hat
    exact ⟨_, T1, T', L', l', P, rfl, x1, x2, by simpa [pkC] using o6, E3.out, t1.out⟩

theorem ans_other {A : Nat → Prop} {w : World} {a : Ad} {cl : ByteArray} {cn : Bool} {T : List Bool} {L : List Se} {l : List Mg} {lost : Int} (h : Ss A w a cl cn true T L l lost) (hA : ∀ k, A k → k < w.heap.size) (kd id : Int) (hk : kd ≠ 4 ∧ kd ≠ 7 ∧ kd ≠ 5) : Calls Tryz.prog 22 #[.pointer (some ⟨a.s, 0, none⟩), .int .i64 kd, .int .i64 id] w fun e w' => e = .returned (.slice none 0 0) ∧ w = w' := by
  have N := Lib.hid (s_online h)
  have k4 : (kd == 4) = false := by simpa using hk.1
  have k7 : (kd == 7) = false := by simpa using hk.2.1
  have k5 : (kd == 5) = false := by simpa using hk.2.2
  replace h := Lib.hid h
  clear hk
  go_enter Tryz.func22, Tryz.ntmps22
  go_wp2_with fail
  refine N.out.mono ?_
  rintro e w1 ⟨rfl, rfl⟩
  go_wp2_with fail
  go_ret
  exact ⟨rfl, rfl⟩
end Go.Proofs.YtceiipcdkonnlaaGreat.Ses
