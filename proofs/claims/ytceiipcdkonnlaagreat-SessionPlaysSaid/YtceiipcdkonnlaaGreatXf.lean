/-
  LAYER 25: Attach.
-/
import Derived.Test.YtceiipcdkonnlaaGreatXd
namespace Go.Proofs.YtceiipcdkonnlaaGreat.Ses
open Go.RowKit Que Hp Ids Fli
set_option linter.unusedSimpArgs false
set_option linter.unusedVariables false
theorem fl_ln (on : Bool) : ∀ (l : List Mg) (T : List Bool) (L : List Se), (fl on T L l).2.2.2.length + (fl on T L l).2.2.1.length = l.length
  | [], T, L => by simp [fl]
  | m :: r, T, L => by
    have ih := fl_ln on r (tk T) (L ++ [sE T m])
    rw [fl]
    split
    · simp only [List.length_cons]; omega
    · simp
theorem pfC_one (P : List Se) : ∀ u ∈ pfC P, u.oneCell' = true := by
  intro u hu
  obtain ⟨e, -, he⟩ := List.mem_flatMap.1 hu
  exact pf_one e u he
def AttIs (A : Nat → Prop) (w : World) (a : Ad) (cl : ByteArray) (cn : Bool) (T : List Bool) (L : List Se) (l : List Mg) (lost : Int) (e : Ending) (w' : World) : Prop :=
  ∃ v T' L' l' P, e = .returned v ∧ Ss (fun k => A k ∨ v.ownBlock = some k) w' a cl cn true T' L' l' lost ∧ Kp A w w' ∧ w'.ownsRow w.heap.size 72 24 v (L.length + P.length) (pkC L ++ pfC P) ∧ fl true T L l = (T', L', l', P)
theorem att_end {A : Nat → Prop} {w w3 w6 : World} {a : Ad} {cl : ByteArray} {cn : Bool} {T1 : List Bool} {L1 : List Se} {l1 : List Mg} {lost : Int} {v0 v1 v3 : Value} {n : Nat} {xs xs3 : List Value} {n3 : Nat}
    (S3 : Ss (fun k => (A k ∨ v0.ownBlock = some k) ∨ v1.ownBlock = some k) w3 a cl cn true T1 L1 l1 lost) (K3 : Kp A w w3) (O3 : w3.ownsRow w.heap.size 72 24 v0 n xs) (hA : ∀ k, A k → k < w.heap.size)
    (o6 : w6.ownsRow w.heap.size 72 24 v3 n3 xs3) (g6 : w3.grownBy w6 v0.ownBlock) (hat : v3.ownBlock = v0.ownBlock ∨ v3.ownBlock = some w3.heap.size) :
    Ss (fun k => A k ∨ v3.ownBlock = some k) w6 a cl cn true T1 L1 l1 lost ∧ Kp A w w6 := by
  have F6 : Far (fun k => v0.ownBlock = some k) w3 w6 := Far.of_grown g6 (fun k _ e => e)
  refine ⟨S3.others F6 (fun k hk => .inl (.inr hk)) ?_, K3.trans (F6.mono fun k _ hk hk2 => ?_)⟩
  · rintro k (hk | hk)
    · exact .inl (.inl (.inl hk))
    · rcases hat with e | e
      · exact .inl (.inl (.inr (e ▸ hk)))
      · right
        have := (o6.lt k hk).2
        rw [e] at hk
        simp only [Option.some.injEq] at hk
        exact ⟨Nat.le_of_eq hk, this⟩
  · have := (O3.lt k hk).1
    have := hA k hk2
    omega
set_option maxHeartbeats 8000000 in
set_option maxRecDepth 100000 in
theorem attach {A : Nat → Prop} {w : World} {a : Ad} {cl : ByteArray} {cn on : Bool} {T : List Bool} {L : List Se} {l : List Mg} {lost : Int} (h : Ss A w a cl cn on T L l lost) (hA : ∀ k, A k → k < w.heap.size) :
    Calls Tryz.prog 16 #[.pointer (some ⟨a.s, 0, none⟩)] w (AttIs A w a cl cn T L l lost) := by
  obtain ⟨i3, hi3, hz0, hz1, hz2⟩ := info_parts info78
  have hle := h.fs.le
  have hll := h.le
  have N := Lib.hid (s_none h)
  obtain ⟨S1, K1⟩ := h.line true
  have s2 := h.s2
  have fz := h.fz 2
  have s3 := S1.s3
  have p1 := S1.p1
  have AG := Lib.hid (f_again S1.fs)
  have sz1 : (w.setCell ⟨a.s, 2, none⟩ (.bool true)).heap.size = w.heap.size := by simp [World.setCell]
  replace S1 := Lib.hid S1
  replace K1 := Lib.hid K1
  replace h := Lib.hid h
  replace hA := Lib.hid hA
  go_enter Tryz.func16, Tryz.ntmps16
  go_wp2_with fail
  refine N.out.mono ?_
  rintro e w1 ⟨rfl, rfl⟩
  go_wp2_with fail
  generalize hW1 : w.setCell ⟨a.s, 2, none⟩ (.bool true) = w1 at *
  refine AG.out.mono ?_
  rintro e w2 ⟨v0, rfl, o2, b2⟩
  rw [sz1] at o2
  have S2 : Hid (Ss (fun k => A k ∨ v0.ownBlock = some k) w2 a cl cn true T L l lost) := Lib.hid (S1.out.others (S := fun _ => False) (Far.of_ext b2) (fun _ e => e.elim) (fun k hk => hk.imp id (fun e => by have := o2.lt k e; omega)))
  have K2 : Hid (Kp A w w2) := Lib.hid (K1.out.trans (Kp.of_ext b2))
  have FL := Lib.hid (fill_any S2.out (fun k hk => hk.elim (fun e => Nat.lt_of_lt_of_le (hA.out k e) K2.out.size) (fun e => (o2.lt k e).2)))
  replace o2 := Lib.hid o2
  clear AG s3 p1 b2 hW1
  go_wp2_with fail
  refine FL.out.mono ?_
  rintro e w3 ⟨v1, T', L', l', P, rfl, s3, k3, o3, e3⟩
  have hP : P.length ≤ 16 := by
    have := fl_ln true l T L
    rw [e3] at this
    simp only at this
    omega
  have K3 : Hid (Kp A w w3) := Lib.hid (K2.out.trans (k3.mono fun k _ e hk => e (.inl hk)))
  have O3 : Hid (w3.ownsRow w.heap.size 72 24 v0 L.length (pkC L)) := Lib.hid (own_fars o2.out k3 (fun k hk e => e (.inr hk)))
  have S3 := Lib.hid s3
  have E3 := Lib.hid e3
  have sz3 := Lib.hid (show w.heap.size ≤ w3.heap.size from K3.out.size)
  clear s3 k3 e3 FL
  obtain ⟨a0, c0, rfl⟩ := own_slice O3.out
  have hne := o3.2
  replace o3 := Lib.hid o3
  rcases hne with ⟨rfl, hn⟩ | ⟨g, cap, cur, rfl, -⟩
  · have hP0 : P = [] := List.eq_nil_of_length_eq_zero hn
    subst hP0
    go_wp2_with (first
      | (at_builtin; go_loud (refine wpList_append_own_none rfl (.tmp 15) (.tmp 17) 64 rfl w.heap.size 72 i3 24 Tryz.underlying64 hi3 (.slice a0 L.length c0) L.length (pkC L) rfl O3.out rfl ?_)))
    go_ret
    exact ⟨_, T', L', l', [], rfl, S3.out.weaken (fun k hk => .inl hk), K3.out, by simpa [pfC] using O3.out, E3.out⟩
  · have hnew : Hid (∀ j u, (pfC P)[j]? = some u → w3.cell? ((⟨g, 0, none⟩ : Addr).add j) = some u) := Lib.hid (by
      intro j u hj
      rw [add_off', Nat.zero_add]
      exact own_get o3.out hj)
    go_wp2_with (first
      | (at_builtin; go_loud (refine wpList_append_own_at _ rfl (.tmp 15) (.tmp 17) 64 rfl w.heap.size 72 i3 zP 24 280 Tryz.underlying64 hi3 hz0 hz1 hz2 rfl (by decide) (.slice a0 L.length c0) L.length (pkC L) rfl O3.out ⟨g, 0, none⟩ P.length cap (pfC P) rfl (pfC_len P) hnew.out (pfC_one P) (by unfold maxLen; omega) (by omega) sz3.out ?_); intro v3 w6 o6 g6 _ hat))
    go_ret
    obtain ⟨x1, x2⟩ := att_end S3.out K3.out O3.out hA.out o6 g6 hat
    exact ⟨_, T', L', l', P, rfl, x1, x2, o6, E3.out⟩
end Go.Proofs.YtceiipcdkonnlaaGreat.Ses

/-
  LAYER 25: Answer.
-/
namespace Go.Proofs.YtceiipcdkonnlaaGreat.Ses
open Go.RowKit Que Hp Ids Fli
set_option linter.unusedSimpArgs false
set_option linter.unusedVariables false
/-- What an answer gives: those that were sent ahead, and what fills up. -/
def AnsIs (A : Nat → Prop) (w : World) (a : Ad) (cl : ByteArray) (cn : Bool) (L1 : List Se) (l : List Mg) (lost : Int) (pre : List Se) (e : Ending) (w' : World) : Prop :=
  ∃ v T1 T' L' l' P, e = .returned v ∧ Ss (fun k => A k ∨ v.ownBlock = some k) w' a cl cn true T' L' l' lost ∧ Kp A w w' ∧ w'.ownsRow w.heap.size 72 24 v (pre.length + P.length) (pkC pre ++ pfC P) ∧ fl true T1 L1 l = (T', L', l', P)
set_option maxHeartbeats 1000000 in
theorem ans_off {A : Nat → Prop} {w : World} {a : Ad} {cl : ByteArray} {cn : Bool} {T : List Bool} {L : List Se} {l : List Mg} {lost : Int} (h : Ss A w a cl cn false T L l lost) (kd id : Int) : Calls Tryz.prog 22 #[.pointer (some ⟨a.s, 0, none⟩), .int .i64 kd, .int .i64 id] w fun e w' => e = .returned (.slice none 0 0) ∧ w = w' := by
  have N := Lib.hid (s_online h)
  replace h := Lib.hid h
  go_enter Tryz.func22, Tryz.ntmps22
  go_wp2_with fail
  refine N.out.mono ?_
  rintro e w1 ⟨rfl, rfl⟩
  go_wp2_with fail
  go_ret
  exact ⟨rfl, rfl⟩
set_option maxHeartbeats 8000000 in
set_option maxRecDepth 100000 in
theorem ans_ack {A : Nat → Prop} {w : World} {a : Ad} {cl : ByteArray} {cn : Bool} {T : List Bool} {L : List Se} {l : List Mg} {lost : Int} (h : Ss A w a cl cn true T L l lost) (hA : ∀ k, A k → k < w.heap.size) {q : Nat} {e : Se} (hq : L[q]? = some e) (hs : (e.s == 1) = true) : Calls Tryz.prog 22 #[.pointer (some ⟨a.s, 0, none⟩), .int .i64 4, .int .i64 e.i] w (AnsIs A w a cl cn (oth e.i L) l lost []) := by
  obtain ⟨i3, hi3, hz0, hz1, hz2⟩ := info_parts info78
  have hll := h.le
  have ON := Lib.hid (s_online h)
  have s3 := h.s3
  have p1 := h.p1
  have AK := Lib.hid (ack_yes' h.fs hq hs)
  replace h := Lib.hid h
  replace hA := Lib.hid hA
  go_enter Tryz.func22, Tryz.ntmps22
  go_wp2_with fail
  refine ON.out.mono ?_
  rintro x w1 ⟨rfl, rfl⟩
  go_wp2_with fail
  refine AK.out.mono ?_
  rintro x w1 ⟨rfl, T1, L1, rfl, f1, k1⟩
  obtain ⟨S1, K1⟩ := h.out.onF f1 k1
  have FL := Lib.hid (fill_any S1 (fun k hk => Nat.lt_of_lt_of_le (hA.out k hk) K1.size))
  replace K1 := Lib.hid K1
  clear S1 f1 k1 AK s3 p1
  go_wp2_with fail
  refine FL.out.mono ?_
  rintro x w3 ⟨v1, T', L', l', P, rfl, s3, k3, o3, e3⟩
  have hP : P.length ≤ 16 := by
    have := fl_ln true l T1 (oth e.i L)
    rw [e3] at this
    simp only at this
    omega
  have K3 : Hid (Kp A w w3) := Lib.hid (K1.out.trans k3)
  have S3 := Lib.hid s3
  have E3 := Lib.hid e3
  have sz3 := Lib.hid (show w.heap.size ≤ w3.heap.size from K3.out.size)
  have N3 : Hid (w3.ownsRow w.heap.size 72 24 (.slice none 0 0) 0 []) := Lib.hid (World.ownsRow_nil _ _ _ _)
  clear s3 k3 e3 FL
  have hne := o3.2
  replace o3 := Lib.hid o3
  rcases hne with ⟨rfl, hn⟩ | ⟨g, cap, cur, rfl, -⟩
  · have hP0 : P = [] := List.eq_nil_of_length_eq_zero hn
    subst hP0
    go_wp2_with (first
      | (at_builtin; go_loud (refine wpList_append_own_none rfl (.tmp 50) (.tmp 52) 64 rfl w.heap.size 72 i3 24 Tryz.underlying64 hi3 (.slice none 0 0) 0 [] rfl N3.out rfl ?_)))
    go_ret
    exact ⟨_, T1, T', L', l', [], rfl, S3.out, K3.out, World.ownsRow_nil _ _ _ _, E3.out⟩
  · have hnew : Hid (∀ j u, (pfC P)[j]? = some u → w3.cell? ((⟨g, 0, none⟩ : Addr).add j) = some u) := Lib.hid (by
      intro j u hj
      rw [add_off', Nat.zero_add]
      exact own_get o3.out hj)
    go_wp2_with (first
      | (at_builtin; go_loud (refine wpList_append_own_at _ rfl (.tmp 50) (.tmp 52) 64 rfl w.heap.size 72 i3 zP 24 280 Tryz.underlying64 hi3 hz0 hz1 hz2 rfl (by decide) (.slice none 0 0) 0 [] rfl N3.out ⟨g, 0, none⟩ P.length cap (pfC P) rfl (pfC_len P) hnew.out (pfC_one P) (by unfold maxLen; omega) (by omega) sz3.out ?_); intro v3 w6 o6 g6 _ hat))
    go_ret
    obtain ⟨x1, x2⟩ := att_end (S3.out.weaken (A' := fun k => (A k ∨ (Value.slice none 0 0).ownBlock = some k) ∨ (Value.slice (some ⟨g, 0, none⟩) P.length cap).ownBlock = some k) (fun k hk => hk.imp (fun e => e.elim id (fun e => by cases e)) id)) K3.out N3.out hA.out o6 g6 hat
    exact ⟨_, T1, T', L', l', P, rfl, x1, x2, by simpa [pkC] using o6, E3.out⟩
set_option maxHeartbeats 8000000 in
set_option maxRecDepth 100000 in
theorem ans_comp {A : Nat → Prop} {w : World} {a : Ad} {cl : ByteArray} {cn : Bool} {T : List Bool} {L : List Se} {l : List Mg} {lost : Int} (h : Ss A w a cl cn true T L l lost) (hA : ∀ k, A k → k < w.heap.size) {q : Nat} {e : Se} (hq : L[q]? = some e) (hs : (e.s == 3) = true) : Calls Tryz.prog 22 #[.pointer (some ⟨a.s, 0, none⟩), .int .i64 7, .int .i64 e.i] w (AnsIs A w a cl cn (oth e.i L) l lost []) := by
  obtain ⟨i3, hi3, hz0, hz1, hz2⟩ := info_parts info78
  have hll := h.le
  have ON := Lib.hid (s_online h)
  have s3 := h.s3
  have p1 := h.p1
  have AK := Lib.hid (comp_yes' h.fs hq hs)
  replace h := Lib.hid h
  replace hA := Lib.hid hA
  go_enter Tryz.func22, Tryz.ntmps22
  go_wp2_with fail
  refine ON.out.mono ?_
  rintro x w1 ⟨rfl, rfl⟩
  go_wp2_with fail
  refine AK.out.mono ?_
  rintro x w1 ⟨rfl, T1, L1, rfl, f1, k1⟩
  obtain ⟨S1, K1⟩ := h.out.onF f1 k1
  have FL := Lib.hid (fill_any S1 (fun k hk => Nat.lt_of_lt_of_le (hA.out k hk) K1.size))
  replace K1 := Lib.hid K1
  clear S1 f1 k1 AK s3 p1
  go_wp2_with fail
  refine FL.out.mono ?_
  rintro x w3 ⟨v1, T', L', l', P, rfl, s3, k3, o3, e3⟩
  have hP : P.length ≤ 16 := by
    have := fl_ln true l T1 (oth e.i L)
    rw [e3] at this
    simp only at this
    omega
  have K3 : Hid (Kp A w w3) := Lib.hid (K1.out.trans k3)
  have S3 := Lib.hid s3
  have E3 := Lib.hid e3
  have sz3 := Lib.hid (show w.heap.size ≤ w3.heap.size from K3.out.size)
  have N3 : Hid (w3.ownsRow w.heap.size 72 24 (.slice none 0 0) 0 []) := Lib.hid (World.ownsRow_nil _ _ _ _)
  clear s3 k3 e3 FL
  have hne := o3.2
  replace o3 := Lib.hid o3
  rcases hne with ⟨rfl, hn⟩ | ⟨g, cap, cur, rfl, -⟩
  · have hP0 : P = [] := List.eq_nil_of_length_eq_zero hn
    subst hP0
    go_wp2_with (first
      | (at_builtin; go_loud (refine wpList_append_own_none rfl (.tmp 50) (.tmp 52) 64 rfl w.heap.size 72 i3 24 Tryz.underlying64 hi3 (.slice none 0 0) 0 [] rfl N3.out rfl ?_)))
    go_ret
    exact ⟨_, T1, T', L', l', [], rfl, S3.out, K3.out, World.ownsRow_nil _ _ _ _, E3.out⟩
  · have hnew : Hid (∀ j u, (pfC P)[j]? = some u → w3.cell? ((⟨g, 0, none⟩ : Addr).add j) = some u) := Lib.hid (by
      intro j u hj
      rw [add_off', Nat.zero_add]
      exact own_get o3.out hj)
    go_wp2_with (first
      | (at_builtin; go_loud (refine wpList_append_own_at _ rfl (.tmp 50) (.tmp 52) 64 rfl w.heap.size 72 i3 zP 24 280 Tryz.underlying64 hi3 hz0 hz1 hz2 rfl (by decide) (.slice none 0 0) 0 [] rfl N3.out ⟨g, 0, none⟩ P.length cap (pfC P) rfl (pfC_len P) hnew.out (pfC_one P) (by unfold maxLen; omega) (by omega) sz3.out ?_); intro v3 w6 o6 g6 _ hat))
    go_ret
    obtain ⟨x1, x2⟩ := att_end (S3.out.weaken (A' := fun k => (A k ∨ (Value.slice none 0 0).ownBlock = some k) ∨ (Value.slice (some ⟨g, 0, none⟩) P.length cap).ownBlock = some k) (fun k hk => hk.imp (fun e => e.elim id (fun e => by cases e)) id)) K3.out N3.out hA.out o6 g6 hat
    exact ⟨_, T1, T', L', l', P, rfl, x1, x2, by simpa [pkC] using o6, E3.out⟩
set_option maxHeartbeats 8000000 in
set_option maxRecDepth 100000 in
theorem ans_rec {A : Nat → Prop} {w : World} {a : Ad} {cl : ByteArray} {cn : Bool} {T : List Bool} {L : List Se} {l : List Mg} {lost : Int} (h : Ss A w a cl cn true T L l lost) (hA : ∀ k, A k → k < w.heap.size) {q : Nat} {e : Se} (hq : L[q]? = some e) (hs : (e.s == 2 || e.s == 3) = true) : Calls Tryz.prog 22 #[.pointer (some ⟨a.s, 0, none⟩), .int .i64 5, .int .i64 e.i] w (AnsIs A w a cl cn (L.set q { e with s := 3 }) l lost [{ e with s := 3 }]) := by
  obtain ⟨i3, hi3, hz0, hz1, hz2⟩ := info_parts info78
  have hll := h.le
  have ON := Lib.hid (s_online h)
  have s3 := h.s3
  have p1 := h.p1
  have AK := Lib.hid (rec_yes' h.fs hq hs)
  have hpk : pkC [{ e with s := 3 }] = [.int .i64 6, .int .i64 e.i, .bool false, .string { data := #[] }, .string { data := #[] }, .int .i64 0, .bool false, .int .i64 0, .bool false, .int .i64 0, .string { data := #[] }, .bool false, .string { data := #[] }, .string { data := #[] }, .int .i64 0, .bool false, .bool false, .string { data := #[] }, .bool false, .string { data := #[] }, .bool false, .int .i64 0, .slice none 0 0, .slice none 0 0] := by simp [pkC, pk, pkR]
  replace hpk := Lib.hid hpk
  replace h := Lib.hid h
  replace hA := Lib.hid hA
  go_enter Tryz.func22, Tryz.ntmps22
  go_wp2_with fail
  refine ON.out.mono ?_
  rintro x w1 ⟨rfl, rfl⟩
  go_wp2_with fail
  refine AK.out.mono ?_
  rintro x w1 ⟨rfl, T1, L1, rfl, f1, k1⟩
  obtain ⟨S1, K1⟩ := h.out.onF f1 k1
  have oA : Hid ((w1.alloc (.cells #[.int .i64 6, .int .i64 e.i, .bool false, .string { data := #[] }, .string { data := #[] }, .int .i64 0, .bool false, .int .i64 0, .bool false, .int .i64 0, .string { data := #[] }, .bool false, .string { data := #[] }, .string { data := #[] }, .int .i64 0, .bool false, .bool false, .string { data := #[] }, .bool false, .string { data := #[] }, .bool false, .int .i64 0, .slice none 0 0, .slice none 0 0] 72)).ownsRow w1.heap.size 72 24 (.slice none 0 0) 0 []) := Lib.hid (World.ownsRow_nil _ _ _ _)
  have hnew : Hid (∀ j u, ([.int .i64 6, .int .i64 e.i, .bool false, .string { data := #[] }, .string { data := #[] }, .int .i64 0, .bool false, .int .i64 0, .bool false, .int .i64 0, .string { data := #[] }, .bool false, .string { data := #[] }, .string { data := #[] }, .int .i64 0, .bool false, .bool false, .string { data := #[] }, .bool false, .string { data := #[] }, .bool false, .int .i64 0, .slice none 0 0, .slice none 0 0] : List Value)[j]? = some u → (w1.alloc (.cells #[.int .i64 6, .int .i64 e.i, .bool false, .string { data := #[] }, .string { data := #[] }, .int .i64 0, .bool false, .int .i64 0, .bool false, .int .i64 0, .string { data := #[] }, .bool false, .string { data := #[] }, .string { data := #[] }, .int .i64 0, .bool false, .bool false, .string { data := #[] }, .bool false, .string { data := #[] }, .bool false, .int .i64 0, .slice none 0 0, .slice none 0 0] 72)).cell? ((⟨w1.heap.size, 0, none⟩ : Addr).add j) = some u) := Lib.hid (by
    intro j u hj
    have := cell_of_row (w1.alloc (.cells #[.int .i64 6, .int .i64 e.i, .bool false, .string { data := #[] }, .string { data := #[] }, .int .i64 0, .bool false, .int .i64 0, .bool false, .int .i64 0, .string { data := #[] }, .bool false, .string { data := #[] }, .string { data := #[] }, .int .i64 0, .bool false, .bool false, .string { data := #[] }, .bool false, .string { data := #[] }, .bool false, .int .i64 0, .slice none 0 0, .slice none 0 0] 72)) w1.heap.size j _ 72 (0, 0) (heap_alloc_new w1 _)
    rw [add_off', Nat.zero_add, this, ← hj]
    exact List.getElem?_toArray)
  have hpo : Hid (∀ u ∈ ([.int .i64 6, .int .i64 e.i, .bool false, .string { data := #[] }, .string { data := #[] }, .int .i64 0, .bool false, .int .i64 0, .bool false, .int .i64 0, .string { data := #[] }, .bool false, .string { data := #[] }, .string { data := #[] }, .int .i64 0, .bool false, .bool false, .string { data := #[] }, .bool false, .string { data := #[] }, .bool false, .int .i64 0, .slice none 0 0, .slice none 0 0] : List Value), u.oneCell' = true) := Lib.hid (by
    intro u hu
    simp only [List.mem_cons, List.not_mem_nil, or_false] at hu
    rcases hu with rfl | rfl | rfl | rfl | rfl | rfl | rfl | rfl | rfl | rfl | rfl | rfl | rfl | rfl | rfl | rfl | rfl | rfl | rfl | rfl | rfl | rfl | rfl | rfl <;> rfl)
  have X1 := Lib.hid S1
  replace K1 := Lib.hid K1
  clear S1 f1 k1 AK s3 p1
  go_wp2_with (first
    | (at_builtin; go_loud (refine wpList_append_own_at _ rfl (.tmp 45) (.tmp 48) 64 rfl w1.heap.size 72 i3 zP 24 280 Tryz.underlying64 hi3 hz0 hz1 hz2 rfl (by decide) (.slice none 0 0) 0 [] rfl oA.out ⟨w1.heap.size, 0, none⟩ 1 1 [.int .i64 6, .int .i64 e.i, .bool false, .string { data := #[] }, .string { data := #[] }, .int .i64 0, .bool false, .int .i64 0, .bool false, .int .i64 0, .string { data := #[] }, .bool false, .string { data := #[] }, .string { data := #[] }, .int .i64 0, .bool false, .bool false, .string { data := #[] }, .bool false, .string { data := #[] }, .bool false, .int .i64 0, .slice none 0 0, .slice none 0 0] rfl rfl hnew.out hpo.out (by unfold maxLen; omega) (by omega) (by simp) ?_); intro v0 w2 o2 g2 _ hat0))
  have b2 : Below w1.heap.size w1 w2 := (ext_alloc w1 _).grown g2 (by simp) (fun j hj => by cases hj)
  have o2' : w2.ownsRow w1.heap.size 72 24 v0 1 (pkC [{ e with s := 3 }]) := by rw [hpk.out]; simpa using o2
  have S2 : Hid (Ss (fun k => A k ∨ v0.ownBlock = some k) w2 a cl cn true T1 (L.set q { e with s := 3 }) l lost) := Lib.hid (X1.out.others (S := fun _ => False) (Far.of_ext b2) (fun _ e => e.elim) (fun k hk => hk.imp id (fun e => o2'.lt k e)))
  have K2 : Hid (Kp A w w2) := Lib.hid (K1.out.trans (Kp.of_ext b2))
  have FL := Lib.hid (fill_any S2.out (fun k hk => hk.elim (fun e => Nat.lt_of_lt_of_le (hA.out k e) K2.out.size) (fun e => (o2'.lt k e).2)))
  have O2 : Hid (w2.ownsRow w.heap.size 72 24 v0 1 (pkC [{ e with s := 3 }])) := Lib.hid (own_base o2' K1.out.size)
  clear b2 o2 o2' g2 hat0 oA hnew hpo X1
  go_wp2_with fail
  refine FL.out.mono ?_
  rintro x w3 ⟨v1, T', L', l', P, rfl, s3, k3, o3, e3⟩
  have hP : P.length ≤ 16 := by
    have := fl_ln true l T1 (L.set q { e with s := 3 })
    rw [e3] at this
    simp only at this
    omega
  have K3 : Hid (Kp A w w3) := Lib.hid (K2.out.trans (k3.mono fun k _ e hk => e (.inl hk)))
  have O3 : Hid (w3.ownsRow w.heap.size 72 24 v0 1 (pkC [{ e with s := 3 }])) := Lib.hid (own_fars O2.out k3 (fun k hk e => e (.inr hk)))
  have S3 := Lib.hid s3
  have E3 := Lib.hid e3
  have sz3 := Lib.hid (show w.heap.size ≤ w3.heap.size from K3.out.size)
  clear s3 k3 e3 FL
  obtain ⟨a0, c0, rfl⟩ := own_slice O3.out
  have hne := o3.2
  replace o3 := Lib.hid o3
  rcases hne with ⟨rfl, hn⟩ | ⟨g, cap, cur, rfl, -⟩
  · have hP0 : P = [] := List.eq_nil_of_length_eq_zero hn
    subst hP0
    go_wp2_with (first
      | (at_builtin; go_loud (refine wpList_append_own_none rfl (.tmp 50) (.tmp 52) 64 rfl w.heap.size 72 i3 24 Tryz.underlying64 hi3 (.slice a0 1 c0) 1 (pkC [{ e with s := 3 }]) rfl O3.out rfl ?_)))
    go_ret
    exact ⟨_, T1, T', L', l', [], rfl, S3.out.weaken (fun k hk => .inl hk), K3.out, by simpa [pfC] using O3.out, E3.out⟩
  · have hnew : Hid (∀ j u, (pfC P)[j]? = some u → w3.cell? ((⟨g, 0, none⟩ : Addr).add j) = some u) := Lib.hid (by
      intro j u hj
      rw [add_off', Nat.zero_add]
      exact own_get o3.out hj)
    go_wp2_with (first
      | (at_builtin; go_loud (refine wpList_append_own_at _ rfl (.tmp 50) (.tmp 52) 64 rfl w.heap.size 72 i3 zP 24 280 Tryz.underlying64 hi3 hz0 hz1 hz2 rfl (by decide) (.slice a0 1 c0) 1 (pkC [{ e with s := 3 }]) rfl O3.out ⟨g, 0, none⟩ P.length cap (pfC P) rfl (pfC_len P) hnew.out (pfC_one P) (by unfold maxLen; omega) (by omega) sz3.out ?_); intro v3 w6 o6 g6 _ hat))
    go_ret
    obtain ⟨x1, x2⟩ := att_end S3.out K3.out O3.out hA.out o6 g6 hat
    exact ⟨_, T1, T', L', l', P, rfl, x1, x2, o6, E3.out⟩
end Go.Proofs.YtceiipcdkonnlaaGreat.Ses

/-
  LAYER 25: awake.
-/
namespace Go.Proofs.YtceiipcdkonnlaaGreat.Ses
open Go.RowKit Que Hp Ids Fli
set_option linter.unusedSimpArgs false
set_option linter.unusedVariables false
def tA : ByteArray := ⟨#[97]⟩
def tT : ByteArray := ⟨#[116]⟩
theorem tA_ne : tA.toList.isEmpty = false := by decide +kernel
theorem tA_right : rightB tA = true := by decide +kernel
def mT (q : Int) : Mg := ⟨tT, ⟨#[]⟩, q, false⟩
set_option maxHeartbeats 4000000 in
set_option maxRecDepth 100000 in
theorem awake25_any (w : World) : Calls Tryz.prog 6 #[] w (Yes w) := by
  have NW : Hid (Calls Tryz.prog 4 #[.string ⟨#[97]⟩, .bool false] w fun e w' => ∃ a, e = .returned (.tuple #[.pointer (some ⟨a.s, 0, none⟩), .int .i64 0]) ∧ Ss (fun k => k < w.heap.size) w' a tA false false [] [] [] 0 ∧ Below w.heap.size w w') := Lib.hid ((new_ok tA false w (by decide) tA_ne tA_right).mono (by rintro e w' ⟨a, he, s, -, b⟩; exact ⟨a, he, s.weaken (fun k hk => .inl hk), b⟩))
  go_enter Tryz.func6, Tryz.ntmps6
  go_wp2_with fail
  refine NW.out.mono ?_
  rintro e w1 ⟨a, rfl, s1, b1⟩
  have DL := Lib.hid (deliver s1 tT ⟨#[]⟩ 1 2 false (.inl rfl) (by omega) (by omega) (by omega) (by omega) (fun k hk => Nat.lt_of_lt_of_le hk b1.size))
  replace b1 := Lib.hid b1
  replace s1 := Lib.hid s1
  clear NW
  go_wp2_with fail
  refine DL.out.mono ?_
  rintro e w2 ⟨v, T', L', l', P, rfl, s2, k2, o2, e2⟩
  simp only [List.length_nil, Nat.reduceLT, if_true, List.nil_append] at s2 e2
  rw [fl_stop (.inl rfl)] at e2
  simp only [Prod.mk.injEq] at e2
  obtain ⟨rfl, rfl, rfl, rfl⟩ := e2
  obtain ⟨va, vc, rfl⟩ := own_slice o2
  have B2 := Lib.hid (b1.out.trans (k2.below b1.out.size (fun k hk => hk)))
  have S2 := s2.weaken (A' := fun k => k < w.heap.size) (fun k hk => .inl hk)
  have AT := Lib.hid (attach S2 (fun k hk => Nat.lt_of_lt_of_le hk B2.out.size))
  replace S2 := Lib.hid S2
  clear s2 k2 o2 DL s1
  go_wp2_with fail
  refine AT.out.mono ?_
  rintro e w3 ⟨v3, T', L', l', P, rfl, s3, k3, o3, e3⟩
  rw [fl_step (by decide)] at e3
  simp only [fl, Prod.mk.injEq] at e3
  obtain ⟨rfl, rfl, rfl, rfl⟩ := e3
  have B3 := Lib.hid (B2.out.trans (k3.below B2.out.size (fun k hk => hk)))
  obtain ⟨g3, c3, rfl⟩ := own_slice' o3 (by decide)
  have q1 : w3.cell? ⟨g3, 1, none⟩ = some (.int .i64 1) := own_get o3 (j := 1) rfl
  have FL := Lib.hid (s_flight s3)
  replace s3 := Lib.hid s3
  replace o3 := Lib.hid o3
  clear k3 AT S2
  go_wp2_with fail
  refine FL.out.mono ?_
  rintro e w4 ⟨v4, rfl, o4, b4⟩
  obtain ⟨va4, vc4, rfl⟩ := own_slice o4
  replace o4 := Lib.hid o4
  have B4 := Lib.hid (B3.out.trans (b4.mono B3.out.size))
  clear b4
  go_wp2_with fail
  go_ret
  exact ⟨rfl, B4.out⟩
end Go.Proofs.YtceiipcdkonnlaaGreat.Ses
