/-
  LAYER 25: the document's Answer.
-/
import Derived.Test.YtceiipcdkonnlaaGreatYf
namespace Go.Proofs.YtceiipcdkonnlaaGreat.Ses
open Go.RowKit Que Hp Ids Fli
set_option linter.unusedSimpArgs false
set_option linter.unusedVariables false
def XAnsG (A : Nat → Prop) (w : World) (d : Ax) (cl : ByteArray) (cn : Bool) (T1 : List Bool) (L1 : List Se) (l : List Mg) (lost : Int) (pre : List Se) (e : Ending) (w' : World) : Prop :=
  ∃ v vq vf T' L' l' P, e = .returned v ∧ Xs (fun k => A k ∨ v.ownBlock = some k) w' d cl cn true vq vf L' l' lost ∧ Tk T' L' ∧ Kp A w w' ∧ w'.ownsRow w.heap.size 72 24 v (pre.length + P.length) (pkC pre ++ pfC P) ∧ fl true T1 L1 l = (T', L', l', P)
theorem gone_len (L : List Se) (nm s : Int) : (goneL L nm s).2.length ≤ L.length := by
  unfold goneL
  split
  · split
    · simp only [List.length_append, List.length_take, List.length_drop]; omega
    · exact Nat.le_refl _
  · exact Nat.le_refl _
theorem rec_len (L : List Se) (nm : Int) : (recL L nm).2.length ≤ L.length := by
  unfold recL
  repeat (first | split | exact Nat.le_refl _ | (simp only [List.length_set]; exact Nat.le_refl _) | simp)
theorem xans_off {A : Nat → Prop} {w : World} {d : Ax} {cl : ByteArray} {cn : Bool} {L : List Se} {l : List Mg} {lost : Int} {vq vf : Value} (h : Xs A w d cl cn false vq vf L l lost) (kd nm : Int) : Calls Tryz.prog 23 #[.pointer (some ⟨d.x, 0, none⟩), .int .i64 kd, .int .i64 nm] w fun e w' => e = .returned (.slice none 0 0) ∧ w = w' := by
  have x2 := h.x2
  replace h := Lib.hid h
  go_enter Tryz.func23, Tryz.ntmps23
  go_wp2_with fail
  go_ret
  exact ⟨rfl, rfl⟩
theorem xans_other {A : Nat → Prop} {w : World} {d : Ax} {cl : ByteArray} {cn : Bool} {L : List Se} {l : List Mg} {lost : Int} {vq vf : Value} (h : Xs A w d cl cn true vq vf L l lost) (kd nm : Int) (hk : kd ≠ 4 ∧ kd ≠ 7 ∧ kd ≠ 5) : Calls Tryz.prog 23 #[.pointer (some ⟨d.x, 0, none⟩), .int .i64 kd, .int .i64 nm] w fun e w' => e = .returned (.slice none 0 0) ∧ w = w' := by
  have x2 := h.x2
  have k4 : (kd == 4) = false := by simpa using hk.1
  have k7 : (kd == 7) = false := by simpa using hk.2.1
  have k5 : (kd == 5) = false := by simpa using hk.2.2
  replace h := Lib.hid h
  clear hk
  go_enter Tryz.func23, Tryz.ntmps23
  go_wp2_with fail
  go_ret
  exact ⟨rfl, rfl⟩
set_option maxHeartbeats 8000000 in
set_option maxRecDepth 100000 in
theorem xans_ack {A : Nat → Prop} {w : World} {d : Ax} {cl : ByteArray} {cn : Bool} {T1 : List Bool} {L : List Se} {l : List Mg} {lost : Int} {vq vf : Value} (h : Xs A w d cl cn true vq vf L l lost) (hA : ∀ k, A k → k < w.heap.size) (nm : Int) (hT1 : Tk T1 (goneL L nm 1).2) : Calls Tryz.prog 23 #[.pointer (some ⟨d.x, 0, none⟩), .int .i64 4, .int .i64 nm] w (XAnsG A w d cl cn T1 (goneL L nm 1).2 l lost []) := by
  obtain ⟨i3, hi3, hz0, hz1, hz2⟩ := info_parts info78
  have hll := h.le
  have hl8 := h.l8
  have x2 := h.x2
  have x4 := h.x4
  have AK := Lib.hid (xack_any h.xf (Nat.zero_le _) hl8 nm)
  have hlen : (goneL L nm 1).2.length ≤ 8 := by have := gone_len L nm 1; omega
  replace h := Lib.hid h
  replace hA := Lib.hid hA
  replace hT1 := Lib.hid hT1
  go_enter Tryz.func23, Tryz.ntmps23
  go_wp2_with fail
  refine AK.out.mono ?_
  rintro x w1 ⟨rfl, vf1, n1⟩
  obtain ⟨S1, K1⟩ := h.out.onF n1 hlen
  have FL := Lib.hid (xfill_any S1 hT1.out (fun k hk => Nat.lt_of_lt_of_le (hA.out k hk) K1.size))
  have K2 : Hid (Kp A w w1) := Lib.hid K1
  clear S1 K1 n1 AK x2 x4
  go_wp2_with fail
  refine FL.out.mono ?_
  rintro x w3 ⟨v1, vq', vf', T', L', l', P, rfl, s3, t3, k3, o3, e3⟩
  have hP : P.length ≤ 16 := by
    have := fl_ln true l T1 (goneL L nm 1).2
    rw [e3] at this
    simp only at this
    omega
  have E3 := Lib.hid e3
  have T3 := Lib.hid t3
  have K3 : Hid (Kp A w w3) := Lib.hid (K2.out.trans k3)
  have O3 : Hid (w3.ownsRow w.heap.size 72 24 (.slice none 0 0) 0 []) := Lib.hid (World.ownsRow_nil _ _ _ _)
  have S3 := Lib.hid (s3.weaken (A' := fun k => (A k ∨ (Value.slice none 0 0).ownBlock = some k) ∨ v1.ownBlock = some k) (fun k hk => hk.imp (fun e => e.elim id (fun e => by cases e)) id))
  have sz3 := Lib.hid (show w.heap.size ≤ w3.heap.size from K3.out.size)
  clear s3 t3 k3 e3 FL
  have hne := o3.2
  replace o3 := Lib.hid o3
  rcases hne with ⟨rfl, hn⟩ | ⟨g, cap, cur, rfl, -⟩
  · have hP0 : P = [] := List.eq_nil_of_length_eq_zero hn
    subst hP0
    go_wp2_with (first
      | (at_builtin; go_loud (refine wpList_append_own_none rfl (.tmp 43) (.tmp 45) 64 rfl w.heap.size 72 i3 24 Tryz.underlying64 hi3 (.slice none 0 0) 0 [] rfl O3.out rfl ?_)))
    go_ret
    exact ⟨_, vq', vf', T', L', l', [], rfl, S3.out.weaken (fun k hk => .inl hk), T3.out, K3.out, World.ownsRow_nil _ _ _ _, E3.out⟩
  · have hnw : Hid (∀ j u, (pfC P)[j]? = some u → w3.cell? ((⟨g, 0, none⟩ : Addr).add j) = some u) := Lib.hid (by
      intro j u hj
      rw [add_off', Nat.zero_add]
      exact own_get o3.out hj)
    go_wp2_with (first
      | (at_builtin; go_loud (refine wpList_append_own_at _ rfl (.tmp 43) (.tmp 45) 64 rfl w.heap.size 72 i3 zP 24 280 Tryz.underlying64 hi3 hz0 hz1 hz2 rfl (by decide) (.slice none 0 0) 0 [] rfl O3.out ⟨g, 0, none⟩ P.length cap (pfC P) rfl (pfC_len P) hnw.out (pfC_one P) (by unfold maxLen; omega) (by omega) sz3.out ?_); intro v3 w6 o6 g6 _ hat))
    go_ret
    obtain ⟨x1, x2⟩ := xatt_end S3.out K3.out O3.out hA.out o6 g6 hat
    exact ⟨_, vq', vf', T', L', l', P, rfl, x1, T3.out, x2, by simpa [pkC] using o6, E3.out⟩
set_option maxHeartbeats 8000000 in
set_option maxRecDepth 100000 in
theorem xans_comp {A : Nat → Prop} {w : World} {d : Ax} {cl : ByteArray} {cn : Bool} {T1 : List Bool} {L : List Se} {l : List Mg} {lost : Int} {vq vf : Value} (h : Xs A w d cl cn true vq vf L l lost) (hA : ∀ k, A k → k < w.heap.size) (nm : Int) (hT1 : Tk T1 (goneL L nm 3).2) : Calls Tryz.prog 23 #[.pointer (some ⟨d.x, 0, none⟩), .int .i64 7, .int .i64 nm] w (XAnsG A w d cl cn T1 (goneL L nm 3).2 l lost []) := by
  obtain ⟨i3, hi3, hz0, hz1, hz2⟩ := info_parts info78
  have hll := h.le
  have hl8 := h.l8
  have x2 := h.x2
  have x4 := h.x4
  have AK := Lib.hid (xcomp_any h.xf (Nat.zero_le _) hl8 nm)
  have hlen : (goneL L nm 3).2.length ≤ 8 := by have := gone_len L nm 3; omega
  replace h := Lib.hid h
  replace hA := Lib.hid hA
  replace hT1 := Lib.hid hT1
  go_enter Tryz.func23, Tryz.ntmps23
  go_wp2_with fail
  refine AK.out.mono ?_
  rintro x w1 ⟨rfl, vf1, n1⟩
  obtain ⟨S1, K1⟩ := h.out.onF n1 hlen
  have FL := Lib.hid (xfill_any S1 hT1.out (fun k hk => Nat.lt_of_lt_of_le (hA.out k hk) K1.size))
  have K2 : Hid (Kp A w w1) := Lib.hid K1
  clear S1 K1 n1 AK x2 x4
  go_wp2_with fail
  refine FL.out.mono ?_
  rintro x w3 ⟨v1, vq', vf', T', L', l', P, rfl, s3, t3, k3, o3, e3⟩
  have hP : P.length ≤ 16 := by
    have := fl_ln true l T1 (goneL L nm 3).2
    rw [e3] at this
    simp only at this
    omega
  have E3 := Lib.hid e3
  have T3 := Lib.hid t3
  have K3 : Hid (Kp A w w3) := Lib.hid (K2.out.trans k3)
  have O3 : Hid (w3.ownsRow w.heap.size 72 24 (.slice none 0 0) 0 []) := Lib.hid (World.ownsRow_nil _ _ _ _)
  have S3 := Lib.hid (s3.weaken (A' := fun k => (A k ∨ (Value.slice none 0 0).ownBlock = some k) ∨ v1.ownBlock = some k) (fun k hk => hk.imp (fun e => e.elim id (fun e => by cases e)) id))
  have sz3 := Lib.hid (show w.heap.size ≤ w3.heap.size from K3.out.size)
  clear s3 t3 k3 e3 FL
  have hne := o3.2
  replace o3 := Lib.hid o3
  rcases hne with ⟨rfl, hn⟩ | ⟨g, cap, cur, rfl, -⟩
  · have hP0 : P = [] := List.eq_nil_of_length_eq_zero hn
    subst hP0
    go_wp2_with (first
      | (at_builtin; go_loud (refine wpList_append_own_none rfl (.tmp 43) (.tmp 45) 64 rfl w.heap.size 72 i3 24 Tryz.underlying64 hi3 (.slice none 0 0) 0 [] rfl O3.out rfl ?_)))
    go_ret
    exact ⟨_, vq', vf', T', L', l', [], rfl, S3.out.weaken (fun k hk => .inl hk), T3.out, K3.out, World.ownsRow_nil _ _ _ _, E3.out⟩
  · have hnw : Hid (∀ j u, (pfC P)[j]? = some u → w3.cell? ((⟨g, 0, none⟩ : Addr).add j) = some u) := Lib.hid (by
      intro j u hj
      rw [add_off', Nat.zero_add]
      exact own_get o3.out hj)
    go_wp2_with (first
      | (at_builtin; go_loud (refine wpList_append_own_at _ rfl (.tmp 43) (.tmp 45) 64 rfl w.heap.size 72 i3 zP 24 280 Tryz.underlying64 hi3 hz0 hz1 hz2 rfl (by decide) (.slice none 0 0) 0 [] rfl O3.out ⟨g, 0, none⟩ P.length cap (pfC P) rfl (pfC_len P) hnw.out (pfC_one P) (by unfold maxLen; omega) (by omega) sz3.out ?_); intro v3 w6 o6 g6 _ hat))
    go_ret
    obtain ⟨x1, x2⟩ := xatt_end S3.out K3.out O3.out hA.out o6 g6 hat
    exact ⟨_, vq', vf', T', L', l', P, rfl, x1, T3.out, x2, by simpa [pkC] using o6, E3.out⟩
set_option maxHeartbeats 8000000 in
set_option maxRecDepth 100000 in
theorem xans_rec {A : Nat → Prop} {w : World} {d : Ax} {cl : ByteArray} {cn : Bool} {T1 : List Bool} {L : List Se} {l : List Mg} {lost : Int} {vq vf : Value} (h : Xs A w d cl cn true vq vf L l lost) (hA : ∀ k, A k → k < w.heap.size) (nm : Int) (hT1 : Tk T1 (recL L nm).2) (hr : (recL L nm).1 = true) : Calls Tryz.prog 23 #[.pointer (some ⟨d.x, 0, none⟩), .int .i64 5, .int .i64 nm] w (XAnsG A w d cl cn T1 (recL L nm).2 l lost [rl nm]) := by
  obtain ⟨i3, hi3, hz0, hz1, hz2⟩ := info_parts info78
  have hll := h.le
  have hl8 := h.l8
  have x2 := h.x2
  have x4 := h.x4
  have AK := Lib.hid ((by have := xrec_any h.xf hl8 nm; rw [hr] at this; exact this : Calls Tryz.prog 52 #[.pointer (some ⟨d.f, 0, none⟩), .int .i64 nm] w fun e w' => e = .returned (.bool true) ∧ ∃ v', XN 0 w w' d.f vf (recL L nm).2 v'))
  have hlen : (recL L nm).2.length ≤ 8 := by have := rec_len L nm; omega
  replace h := Lib.hid h
  replace hA := Lib.hid hA
  replace hT1 := Lib.hid hT1
  go_enter Tryz.func23, Tryz.ntmps23
  go_wp2_with fail
  refine AK.out.mono ?_
  rintro x w1 ⟨rfl, vf1, n1⟩
  obtain ⟨S1, K1⟩ := h.out.onF n1 hlen
  have hpk : pkC [rl nm] = [.int .i64 6, .int .i64 nm, .bool false, .string { data := #[] }, .string { data := #[] }, .int .i64 0, .bool false, .int .i64 0, .bool false, .int .i64 0, .string { data := #[] }, .bool false, .string { data := #[] }, .string { data := #[] }, .int .i64 0, .bool false, .bool false, .string { data := #[] }, .bool false, .string { data := #[] }, .bool false, .int .i64 0, .slice none 0 0, .slice none 0 0] := by simp [pkC, pk, pkR, rl]
  replace hpk := Lib.hid hpk
  have oA : Hid ((w1.alloc (.cells #[.int .i64 6, .int .i64 nm, .bool false, .string { data := #[] }, .string { data := #[] }, .int .i64 0, .bool false, .int .i64 0, .bool false, .int .i64 0, .string { data := #[] }, .bool false, .string { data := #[] }, .string { data := #[] }, .int .i64 0, .bool false, .bool false, .string { data := #[] }, .bool false, .string { data := #[] }, .bool false, .int .i64 0, .slice none 0 0, .slice none 0 0] 72)).ownsRow w1.heap.size 72 24 (.slice none 0 0) 0 []) := Lib.hid (World.ownsRow_nil _ _ _ _)
  have hnew : Hid (∀ j u, ([.int .i64 6, .int .i64 nm, .bool false, .string { data := #[] }, .string { data := #[] }, .int .i64 0, .bool false, .int .i64 0, .bool false, .int .i64 0, .string { data := #[] }, .bool false, .string { data := #[] }, .string { data := #[] }, .int .i64 0, .bool false, .bool false, .string { data := #[] }, .bool false, .string { data := #[] }, .bool false, .int .i64 0, .slice none 0 0, .slice none 0 0] : List Value)[j]? = some u → (w1.alloc (.cells #[.int .i64 6, .int .i64 nm, .bool false, .string { data := #[] }, .string { data := #[] }, .int .i64 0, .bool false, .int .i64 0, .bool false, .int .i64 0, .string { data := #[] }, .bool false, .string { data := #[] }, .string { data := #[] }, .int .i64 0, .bool false, .bool false, .string { data := #[] }, .bool false, .string { data := #[] }, .bool false, .int .i64 0, .slice none 0 0, .slice none 0 0] 72)).cell? ((⟨w1.heap.size, 0, none⟩ : Addr).add j) = some u) := Lib.hid (by
    intro j u hj
    have := cell_of_row (w1.alloc (.cells #[.int .i64 6, .int .i64 nm, .bool false, .string { data := #[] }, .string { data := #[] }, .int .i64 0, .bool false, .int .i64 0, .bool false, .int .i64 0, .string { data := #[] }, .bool false, .string { data := #[] }, .string { data := #[] }, .int .i64 0, .bool false, .bool false, .string { data := #[] }, .bool false, .string { data := #[] }, .bool false, .int .i64 0, .slice none 0 0, .slice none 0 0] 72)) w1.heap.size j _ 72 (0, 0) (heap_alloc_new w1 _)
    rw [add_off', Nat.zero_add, this, ← hj]
    exact List.getElem?_toArray)
  have hpo : Hid (∀ u ∈ ([.int .i64 6, .int .i64 nm, .bool false, .string { data := #[] }, .string { data := #[] }, .int .i64 0, .bool false, .int .i64 0, .bool false, .int .i64 0, .string { data := #[] }, .bool false, .string { data := #[] }, .string { data := #[] }, .int .i64 0, .bool false, .bool false, .string { data := #[] }, .bool false, .string { data := #[] }, .bool false, .int .i64 0, .slice none 0 0, .slice none 0 0] : List Value), u.oneCell' = true) := Lib.hid (by
    intro u hu
    simp only [List.mem_cons, List.not_mem_nil, or_false] at hu
    rcases hu with rfl | rfl | rfl | rfl | rfl | rfl | rfl | rfl | rfl | rfl | rfl | rfl | rfl | rfl | rfl | rfl | rfl | rfl | rfl | rfl | rfl | rfl | rfl | rfl <;> rfl)
  have X1 := Lib.hid S1
  replace K1 := Lib.hid K1
  clear S1 n1 AK x2 x4
  go_wp2_with (first
    | (at_builtin; go_loud (refine wpList_append_own_at _ rfl (.tmp 38) (.tmp 41) 64 rfl w1.heap.size 72 i3 zP 24 280 Tryz.underlying64 hi3 hz0 hz1 hz2 rfl (by decide) (.slice none 0 0) 0 [] rfl oA.out ⟨w1.heap.size, 0, none⟩ 1 1 [.int .i64 6, .int .i64 nm, .bool false, .string { data := #[] }, .string { data := #[] }, .int .i64 0, .bool false, .int .i64 0, .bool false, .int .i64 0, .string { data := #[] }, .bool false, .string { data := #[] }, .string { data := #[] }, .int .i64 0, .bool false, .bool false, .string { data := #[] }, .bool false, .string { data := #[] }, .bool false, .int .i64 0, .slice none 0 0, .slice none 0 0] rfl rfl hnew.out hpo.out (by unfold maxLen; omega) (by omega) (by simp) ?_); intro v0 w2 o2 g2 _ hat0))
  have b2 : Below w1.heap.size w1 w2 := (ext_alloc w1 _).grown g2 (by simp) (fun j hj => by cases hj)
  have o2' : w2.ownsRow w1.heap.size 72 24 v0 1 (pkC [rl nm]) := by rw [hpk.out]; simpa using o2
  have S2 : Hid (Xs (fun k => A k ∨ v0.ownBlock = some k) w2 d cl cn true vq vf1 (recL L nm).2 l lost) := Lib.hid (X1.out.others (S := fun _ => False) (Far.of_ext b2) (fun _ e => e.elim) (fun k hk => hk.imp id (fun e => o2'.lt k e)))
  have K2 : Hid (Kp A w w2) := Lib.hid (K1.out.trans (Kp.of_ext b2))
  have FL := Lib.hid (xfill_any S2.out hT1.out (fun k hk => hk.elim (fun e => Nat.lt_of_lt_of_le (hA.out k e) K2.out.size) (fun e => (o2'.lt k e).2)))
  have O2 : Hid (w2.ownsRow w.heap.size 72 24 v0 1 (pkC [rl nm])) := Lib.hid (own_base o2' K1.out.size)
  clear b2 o2 o2' g2 hat0 oA hnew hpo X1
  go_wp2_with fail
  refine FL.out.mono ?_
  rintro x w3 ⟨v1, vq', vf', T', L', l', P, rfl, s3, t3, k3, o3, e3⟩
  have hP : P.length ≤ 16 := by
    have := fl_ln true l T1 (recL L nm).2
    rw [e3] at this
    simp only at this
    omega
  have E3 := Lib.hid e3
  have T3 := Lib.hid t3
  have K3 : Hid (Kp A w w3) := Lib.hid (K2.out.trans (k3.mono fun k _ e hk => e (.inl hk)))
  have O3 : Hid (w3.ownsRow w.heap.size 72 24 v0 1 (pkC [rl nm])) := Lib.hid (own_fars O2.out k3 (fun k hk e => e (.inr hk)))
  have S3 := Lib.hid s3
  obtain ⟨a0, c0, rfl⟩ := own_slice O3.out
  have sz3 := Lib.hid (show w.heap.size ≤ w3.heap.size from K3.out.size)
  clear s3 t3 k3 e3 FL
  have hne := o3.2
  replace o3 := Lib.hid o3
  rcases hne with ⟨rfl, hn⟩ | ⟨g, cap, cur, rfl, -⟩
  · have hP0 : P = [] := List.eq_nil_of_length_eq_zero hn
    subst hP0
    go_wp2_with (first
      | (at_builtin; go_loud (refine wpList_append_own_none rfl (.tmp 43) (.tmp 45) 64 rfl w.heap.size 72 i3 24 Tryz.underlying64 hi3 (.slice a0 1 c0) 1 (pkC [rl nm]) rfl O3.out rfl ?_)))
    go_ret
    exact ⟨_, vq', vf', T', L', l', [], rfl, S3.out.weaken (fun k hk => .inl hk), T3.out, K3.out, by simpa [pfC] using O3.out, E3.out⟩
  · have hnw : Hid (∀ j u, (pfC P)[j]? = some u → w3.cell? ((⟨g, 0, none⟩ : Addr).add j) = some u) := Lib.hid (by
      intro j u hj
      rw [add_off', Nat.zero_add]
      exact own_get o3.out hj)
    go_wp2_with (first
      | (at_builtin; go_loud (refine wpList_append_own_at _ rfl (.tmp 43) (.tmp 45) 64 rfl w.heap.size 72 i3 zP 24 280 Tryz.underlying64 hi3 hz0 hz1 hz2 rfl (by decide) (.slice a0 1 c0) 1 (pkC [rl nm]) rfl O3.out ⟨g, 0, none⟩ P.length cap (pfC P) rfl (pfC_len P) hnw.out (pfC_one P) (by unfold maxLen; omega) (by omega) sz3.out ?_); intro v3 w6 o6 g6 _ hat))
    go_ret
    obtain ⟨x1, x2⟩ := xatt_end S3.out K3.out O3.out hA.out o6 g6 hat
    exact ⟨_, vq', vf', T', L', l', P, rfl, x1, T3.out, x2, o6, E3.out⟩
set_option maxHeartbeats 8000000 in
set_option maxRecDepth 100000 in
theorem xans_recN {A : Nat → Prop} {w : World} {d : Ax} {cl : ByteArray} {cn : Bool} {T1 : List Bool} {L : List Se} {l : List Mg} {lost : Int} {vq vf : Value} (h : Xs A w d cl cn true vq vf L l lost) (hA : ∀ k, A k → k < w.heap.size) (nm : Int) (hT1 : Tk T1 (recL L nm).2) (hr : (recL L nm).1 = false) : Calls Tryz.prog 23 #[.pointer (some ⟨d.x, 0, none⟩), .int .i64 5, .int .i64 nm] w (XAnsG A w d cl cn T1 (recL L nm).2 l lost []) := by
  obtain ⟨i3, hi3, hz0, hz1, hz2⟩ := info_parts info78
  have hll := h.le
  have hl8 := h.l8
  have x2 := h.x2
  have x4 := h.x4
  have AK := Lib.hid ((by have := xrec_any h.xf hl8 nm; rw [hr] at this; exact this : Calls Tryz.prog 52 #[.pointer (some ⟨d.f, 0, none⟩), .int .i64 nm] w fun e w' => e = .returned (.bool false) ∧ ∃ v', XN 0 w w' d.f vf (recL L nm).2 v'))
  have hlen : (recL L nm).2.length ≤ 8 := by have := rec_len L nm; omega
  replace h := Lib.hid h
  replace hA := Lib.hid hA
  replace hT1 := Lib.hid hT1
  go_enter Tryz.func23, Tryz.ntmps23
  go_wp2_with fail
  refine AK.out.mono ?_
  rintro x w1 ⟨rfl, vf1, n1⟩
  obtain ⟨S1, K1⟩ := h.out.onF n1 hlen
  have FL := Lib.hid (xfill_any S1 hT1.out (fun k hk => Nat.lt_of_lt_of_le (hA.out k hk) K1.size))
  have K2 : Hid (Kp A w w1) := Lib.hid K1
  clear S1 K1 n1 AK x2 x4
  go_wp2_with fail
  refine FL.out.mono ?_
  rintro x w3 ⟨v1, vq', vf', T', L', l', P, rfl, s3, t3, k3, o3, e3⟩
  have hP : P.length ≤ 16 := by
    have := fl_ln true l T1 (recL L nm).2
    rw [e3] at this
    simp only at this
    omega
  have E3 := Lib.hid e3
  have T3 := Lib.hid t3
  have K3 : Hid (Kp A w w3) := Lib.hid (K2.out.trans k3)
  have O3 : Hid (w3.ownsRow w.heap.size 72 24 (.slice none 0 0) 0 []) := Lib.hid (World.ownsRow_nil _ _ _ _)
  have S3 := Lib.hid (s3.weaken (A' := fun k => (A k ∨ (Value.slice none 0 0).ownBlock = some k) ∨ v1.ownBlock = some k) (fun k hk => hk.imp (fun e => e.elim id (fun e => by cases e)) id))
  have sz3 := Lib.hid (show w.heap.size ≤ w3.heap.size from K3.out.size)
  clear s3 t3 k3 e3 FL
  have hne := o3.2
  replace o3 := Lib.hid o3
  rcases hne with ⟨rfl, hn⟩ | ⟨g, cap, cur, rfl, -⟩
  · have hP0 : P = [] := List.eq_nil_of_length_eq_zero hn
    subst hP0
    go_wp2_with (first
      | (at_builtin; go_loud (refine wpList_append_own_none rfl (.tmp 43) (.tmp 45) 64 rfl w.heap.size 72 i3 24 Tryz.underlying64 hi3 (.slice none 0 0) 0 [] rfl O3.out rfl ?_)))
    go_ret
    exact ⟨_, vq', vf', T', L', l', [], rfl, S3.out.weaken (fun k hk => .inl hk), T3.out, K3.out, World.ownsRow_nil _ _ _ _, E3.out⟩
  · have hnw : Hid (∀ j u, (pfC P)[j]? = some u → w3.cell? ((⟨g, 0, none⟩ : Addr).add j) = some u) := Lib.hid (by
      intro j u hj
      rw [add_off', Nat.zero_add]
      exact own_get o3.out hj)
    go_wp2_with (first
      | (at_builtin; go_loud (refine wpList_append_own_at _ rfl (.tmp 43) (.tmp 45) 64 rfl w.heap.size 72 i3 zP 24 280 Tryz.underlying64 hi3 hz0 hz1 hz2 rfl (by decide) (.slice none 0 0) 0 [] rfl O3.out ⟨g, 0, none⟩ P.length cap (pfC P) rfl (pfC_len P) hnw.out (pfC_one P) (by unfold maxLen; omega) (by omega) sz3.out ?_); intro v3 w6 o6 g6 _ hat))
    go_ret
    obtain ⟨x1, x2⟩ := xatt_end S3.out K3.out O3.out hA.out o6 g6 hat
    exact ⟨_, vq', vf', T', L', l', P, rfl, x1, T3.out, x2, by simpa [pkC] using o6, E3.out⟩
end Go.Proofs.YtceiipcdkonnlaaGreat.Ses
