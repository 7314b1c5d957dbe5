/-
  LAYER 25: Attach.
-/
import Derived.Test.YtceiipcdkonnlaaXd
namespace Go.Proofs.Ytceiipcdkonnlaa.Ses
open Go.RowKit Que Hp Ids Fli
set_option linter.unusedSimpArgs false
set_option linter.unusedVariables false
theorem fl_ln (on : Bool) : ∀ (l : List Mg) (T : List Bool) (L : List Se), (fl on T L l).2.2.2.length + (fl on T L l).2.2.1.length = l.length
  | [], T, L => by simp [fl]
  | m :: r, T, L => by
    have ih := fl_ln on r (tk T) (L ++ [sE T m])
    rw [fl]
    split
    · simp only [List.length_cons]; omega
    · simp
theorem pfC_one (P : List Se) : ∀ u ∈ pfC P, u.oneCell' = true := by
  intro u hu
  obtain ⟨e, -, he⟩ := List.mem_flatMap.1 hu
  exact pf_one e u he
def AttIs (A : Nat → Prop) (w : World) (a : Ad) (cl : ByteArray) (cn : Bool) (T : List Bool) (L : List Se) (l : List Mg) (lost : Int) (e : Ending) (w' : World) : Prop :=
  ∃ v T' L' l' P, e = .returned v ∧ Ss (fun k => A k ∨ v.ownBlock = some k) w' a cl cn true T' L' l' lost ∧ Kp A w w' ∧ w'.ownsRow w.heap.size 78 24 v (L.length + P.length) (pkC L ++ pfC P) ∧ fl true T L l = (T', L', l', P)
theorem att_end {A : Nat → Prop} {w w3 w6 : World} {a : Ad} {cl : ByteArray} {cn : Bool} {T1 : List Bool} {L1 : List Se} {l1 : List Mg} {lost : Int} {v0 v1 v3 : Value} {n : Nat} {xs xs3 : List Value} {n3 : Nat}
    (S3 : Ss (fun k => (A k ∨ v0.ownBlock = some k) ∨ v1.ownBlock = some k) w3 a cl cn true T1 L1 l1 lost) (K3 : Kp A w w3) (O3 : w3.ownsRow w.heap.size 78 24 v0 n xs) (hA : ∀ k, A k → k < w.heap.size)
    (o6 : w6.ownsRow w.heap.size 78 24 v3 n3 xs3) (g6 : w3.grownBy w6 v0.ownBlock) (hat : v3.ownBlock = v0.ownBlock ∨ v3.ownBlock = some w3.heap.size) :
    Ss (fun k => A k ∨ v3.ownBlock = some k) w6 a cl cn true T1 L1 l1 lost ∧ Kp A w w6 := by
  have F6 : Far (fun k => v0.ownBlock = some k) w3 w6 := Far.of_grown g6 (fun k _ e => e)
  refine ⟨S3.others F6 (fun k hk => .inl (.inr hk)) ?_, K3.trans (F6.mono fun k _ hk hk2 => ?_)⟩
  · rintro k (hk | hk)
    · exact .inl (.inl (.inl hk))
    · rcases hat with e | e
      · exact .inl (.inl (.inr (e ▸ hk)))
      · right
        have := (o6.lt k hk).2
        rw [e] at hk
        simp only [Option.some.injEq] at hk
        exact ⟨Nat.le_of_eq hk, this⟩
  · have := (O3.lt k hk).1
    have := hA k hk2
    omega
set_option maxHeartbeats 8000000 in
set_option maxRecDepth 100000 in
theorem attach {A : Nat → Prop} {w : World} {a : Ad} {cl : ByteArray} {cn on : Bool} {T : List Bool} {L : List Se} {l : List Mg} {lost : Int} (h : Ss A w a cl cn on T L l lost) (hA : ∀ k, A k → k < w.heap.size) :
    Calls Try.prog 11 #[.pointer (some ⟨a.s, 0, none⟩)] w (AttIs A w a cl cn T L l lost) := by
  obtain ⟨i3, hi3, hz0, hz1, hz2⟩ := info_parts info78
  have hle := h.fs.le
  have hll := h.le
  have N := Lib.hid (s_none h)
  obtain ⟨S1, K1⟩ := h.line true
  have s2 := h.s2
  have fz := h.fz 2
  have s3 := S1.s3
  have p1 := S1.p1
  have AG := Lib.hid (f_again S1.fs)
  have sz1 : (w.setCell ⟨a.s, 2, none⟩ (.bool true)).heap.size = w.heap.size := by simp [World.setCell]
  replace S1 := Lib.hid S1
  replace K1 := Lib.hid K1
  replace h := Lib.hid h
  replace hA := Lib.hid hA
  go_enter Try.func11, Try.ntmps11
  go_wp2_with fail
  refine N.out.mono ?_
  rintro e w1 ⟨rfl, rfl⟩
  go_wp2_with fail
  generalize hW1 : w.setCell ⟨a.s, 2, none⟩ (.bool true) = w1 at *
  refine AG.out.mono ?_
  rintro e w2 ⟨v0, rfl, o2, b2⟩
  rw [sz1] at o2
  have S2 : Hid (Ss (fun k => A k ∨ v0.ownBlock = some k) w2 a cl cn true T L l lost) := Lib.hid (S1.out.others (S := fun _ => False) (Far.of_ext b2) (fun _ e => e.elim) (fun k hk => hk.imp id (fun e => by have := o2.lt k e; omega)))
  have K2 : Hid (Kp A w w2) := Lib.hid (K1.out.trans (Kp.of_ext b2))
  have FL := Lib.hid (fill_any S2.out (fun k hk => hk.elim (fun e => Nat.lt_of_lt_of_le (hA.out k e) K2.out.size) (fun e => (o2.lt k e).2)))
  replace o2 := Lib.hid o2
  clear AG s3 p1 b2 hW1
  go_wp2_with fail
  refine FL.out.mono ?_
  rintro e w3 ⟨v1, T', L', l', P, rfl, s3, k3, o3, e3⟩
  have hP : P.length ≤ 16 := by
    have := fl_ln true l T L
    rw [e3] at this
    simp only at this
    omega
  have K3 : Hid (Kp A w w3) := Lib.hid (K2.out.trans (k3.mono fun k _ e hk => e (.inl hk)))
  have O3 : Hid (w3.ownsRow w.heap.size 78 24 v0 L.length (pkC L)) := Lib.hid (own_fars o2.out k3 (fun k hk e => e (.inr hk)))
  have S3 := Lib.hid s3
  have E3 := Lib.hid e3
  have sz3 := Lib.hid (show w.heap.size ≤ w3.heap.size from K3.out.size)
  clear s3 k3 e3 FL
  obtain ⟨a0, c0, rfl⟩ := own_slice O3.out
  have hne := o3.2
  replace o3 := Lib.hid o3
  rcases hne with ⟨rfl, hn⟩ | ⟨g, cap, cur, rfl, -⟩
  · have hP0 : P = [] := List.eq_nil_of_length_eq_zero hn
    subst hP0
    go_wp2_with (first
      | (at_builtin; go_loud (refine wpList_append_own_none rfl (.tmp 15) (.tmp 17) 31 rfl w.heap.size 78 i3 24 Try.underlying31 hi3 (.slice a0 L.length c0) L.length (pkC L) rfl O3.out rfl ?_)))
    go_ret
    exact ⟨_, T', L', l', [], rfl, S3.out.weaken (fun k hk => .inl hk), K3.out, by simpa [pfC] using O3.out, E3.out⟩
  · have hnew : Hid (∀ j u, (pfC P)[j]? = some u → w3.cell? ((⟨g, 0, none⟩ : Addr).add j) = some u) := Lib.hid (by
      intro j u hj
      rw [add_off', Nat.zero_add]
      exact own_get o3.out hj)
    go_wp2_with (first
      | (at_builtin; go_loud (refine wpList_append_own_at _ rfl (.tmp 15) (.tmp 17) 31 rfl w.heap.size 78 i3 zP 24 280 Try.underlying31 hi3 hz0 hz1 hz2 rfl (by decide) (.slice a0 L.length c0) L.length (pkC L) rfl O3.out ⟨g, 0, none⟩ P.length cap (pfC P) rfl (pfC_len P) hnew.out (pfC_one P) (by unfold maxLen; omega) (by omega) sz3.out ?_); intro v3 w6 o6 g6 _ hat))
    go_ret
    obtain ⟨x1, x2⟩ := att_end S3.out K3.out O3.out hA.out o6 g6 hat
    exact ⟨_, T', L', l', P, rfl, x1, x2, o6, E3.out⟩
end Go.Proofs.Ytceiipcdkonnlaa.Ses
