/-
  LAYER 14: any bytes as a message: both sides alike, and the law's walk.
-/
import Derived.Test.YtmpklaokgogigaaDoorPo
import Derived.Laws.StructEq
namespace Go.Proofs.YtmpklaokgogigaaDoor.Pub
set_option linter.unusedSimpArgs false
set_option linter.unusedVariables false
open Go.RowKit

theorem get_ok {l : List Nat} (h256 : ∀ x ∈ l, x < 256) (h : (getV l 0).2.2 = 0) : ∃ (t : ByteArray) (A : Nat), getV l 0 = (t, (A : Int), 0) ∧ A ≤ l.length ∧ t.size ≤ 65535 := by
  have hraw : (rawV l 0).2.2 = 0 ∧ getV l 0 = rawV l 0 := by
    unfold getV at h ⊢
    split at h
    · exact absurd h (by decide)
    · rename_i hn; rw [if_neg hn]; exact ⟨h, rfl⟩
  obtain ⟨h0, he⟩ := hraw
  rw [he]
  unfold rawV at h0 ⊢
  split at h0
  · rename_i h1; exact absurd h0 h1
  · rename_i h1
    obtain ⟨k, m, hk, hkl, hm, e⟩ := get2_ok (by simpa using h1) h256
    split at h0
    · exact absurd h0 (by decide)
    · rename_i h2
      rw [if_neg h1, if_neg h2, e]
      rw [e] at h2
      simp only at h2
      refine ⟨_, k + 2 + m, rfl, by omega, ?_⟩
      rw [strB_size, List.length_take]
      simp only [Int.toNat_natCast]
      omega
set_option maxRecDepth 100000 in
theorem getid_err (v : Value) (l : List Nat) (a E : Int) (w : World) (hb : BytesAt w v l) (hl : l.length ≤ 140737488355328) (h256 : ∀ x ∈ l, x < 256) (ha : -9223372036854775808 ≤ a ∧ a ≤ 9223372036854775807) (hE : E ≠ 0) (hg : (get2V l a).2.2 = E) :
    Calls Tryd.prog 64 #[v, .int .i64 a] w fun e w' => e = .returned (.tuple #[.int .i64 (get2V l a).1, .int .i64 (get2V l a).2.1, .int .i64 E]) ∧ Below w.heap.size w w' := by
  have G := get2_any v l a w hb h256 hl ha
  rw [hg] at G
  generalize (get2V l a).1 = y1 at *
  generalize (get2V l a).2.1 = y2 at *
  obtain ⟨x, cap, rfl, -, -⟩ := hb
  replace G := Lib.hid G
  have hz : (E == 0) = false := beq_eq_false_iff_ne.2 hE
  clear hg h256 hE
  go_enter Tryd.func64, Tryd.ntmps64
  go_wp2_with fail
  refine (G.out).mono ?_
  rintro e w' ⟨rfl, n, rfl⟩
  go_wp2_with fail
  go_ret3
  exact ⟨rfl, below_drewN (Below.refl _ _) n⟩
set_option maxRecDepth 100000 in
theorem getid_nul (v : Value) (l : List Nat) (a to : Int) (w : World) (hb : BytesAt w v l) (hl : l.length ≤ 140737488355328) (h256 : ∀ x ∈ l, x < 256) (ha : -9223372036854775808 ≤ a ∧ a ≤ 9223372036854775807) (hg : get2V l a = (0, to, 0)) :
    Calls Tryd.prog 64 #[v, .int .i64 a] w fun e w' => e = .returned (.tuple #[.int .i64 0, .int .i64 0, .int .i64 1]) ∧ Below w.heap.size w w' := by
  have G := get2_any v l a w hb h256 hl ha
  rw [hg] at G
  simp only at G
  obtain ⟨x, cap, rfl, -, -⟩ := hb
  replace G := Lib.hid G
  clear hg h256
  go_enter Tryd.func64, Tryd.ntmps64
  go_wp2_with fail
  refine (G.out).mono ?_
  rintro e w' ⟨rfl, n, rfl⟩
  go_wp2_with fail
  go_ret3
  exact ⟨rfl, below_drewN (Below.refl _ _) n⟩
theorem rget2_b (v : Value) (l : List Nat) (a : Int) (w : World) (hb : BytesAt w v l) (hl : l.length ≤ 140737488355328) (h256 : ∀ x ∈ l, x < 256) (ha : -9223372036854775808 ≤ a ∧ a ≤ 9223372036854775807) :
    Calls Tryd.prog 70 #[v, .int .i64 a] w fun e w' => e = .returned (.tuple #[.int .i64 (get2V l a).1, .int .i64 (get2V l a).2.1, .int .i64 (get2V l a).2.2]) ∧ Below w.heap.size w w' :=
  (rget2_any v l a w hb h256 hl ha).mono fun _ _ ⟨he, n, hw⟩ => ⟨he, by rw [hw]; exact below_drewN (Below.refl _ _) n⟩
theorem ofs (S : ByteArray) (q : Int) (hS : S.size ≤ 140737488351232) : ∃ (t x : ByteArray) (q' id err : Int),
    (∀ w, Calls Tryd.prog 33 #[.string S, .int .i64 q] w (OfPost (.agg #[.string t, .string x, .int .i64 q', .bool false]) id err w)) ∧
    (∀ w, Calls Tryd.prog 40 #[.string S, .int .i64 q] w (OfPost (.agg #[.string t, .string x, .int .i64 q', .bool false]) id err w)) := by
  by_cases hq : q < 0 ∨ 2 < q
  · exact ⟨_, _, _, _, _, fun w => of_qos S q w hq, fun w => rof_qos S q w hq⟩
  have q0 : 0 ≤ q := by omega
  have q2 : q ≤ 2 := by omega
  have h256 := txt_lt S
  have hl : (txtL S).length ≤ 140737488355328 := by rw [txtL_length]; omega
  have hlen := txtL_length S
  have G1 := fun W v (hb : BytesAt W v (txtL S)) => get_any v _ 0 W hb h256 hl (by decide)
  have G2 := fun W v (hb : BytesAt W v (txtL S)) => rget_any v _ 0 W hb h256 hl (by decide)
  by_cases hE : (getV (txtL S) 0).2.2 = 0
  · obtain ⟨t, A, eg, hA, ht⟩ := get_ok h256 hE
    rw [eg] at G1 G2
    cases htp : topicB t
    · exact ⟨_, _, _, _, _, fun w => of_topic S q _ w q0 q2 rfl hS t A (by omega) htp G1, fun w => rof_topic S q _ w q0 q2 rfl hS t A (by omega) htp G2⟩
    by_cases hz : q = 0
    · subst hz
      exact ⟨_, _, _, _, _, fun w => of_ok0 S 0 _ w q0 q2 rfl hS t A 0 A (by omega) htp (by omega) G1 number_0 field_10 (fun W v _ => none_at v _ W), fun w => rof_ok0 S _ w rfl hS t A (by omega) htp (by omega) G2⟩
    · have qp : 0 < q := by omega
      have NB := fun w => number_pos q w qp
      have R := fun W v (hb : BytesAt W v (txtL S)) => rget2_b v _ A W hb hl h256 (by omega)
      by_cases hE1 : (get2V (txtL S) A).2.2 = 0
      · obtain ⟨k0, m, hk0, hkl, hm, e2⟩ := get2_ok hE1 h256
        rw [e2] at R
        by_cases hm0 : m = 0
        · subst hm0
          exact ⟨_, _, _, _, _, fun w => of_num S q _ w q0 q2 rfl hS t A 0 0 1 (by omega) htp (by decide) G1 NB field_1P (fun W v hb => getid_nul v _ A _ W hb hl h256 (by omega) e2), fun w => rof_nul S q _ w q0 q2 rfl hS qp t A _ (by omega) htp G2 R⟩
        · exact ⟨_, _, _, _, _, fun w => of_okP S q _ w q0 q2 rfl hS t A m (k0 + 2) (by omega) htp (by omega) G1 NB field_1P (fun W v hb => getid_at v _ A m _ W hb hl h256 (by omega) (by omega) e2), fun w => rof_okP S q _ w q0 q2 rfl hS t m A (k0 + 2) qp (by omega) (by omega) htp (by omega) G2 R⟩
      · exact ⟨_, _, _, _, _, fun w => of_num S q _ w q0 q2 rfl hS t A _ _ _ (by omega) htp hE1 G1 NB field_1P (fun W v hb => getid_err v _ A _ W hb hl h256 (by omega) hE1 rfl), fun w => rof_num S q _ w q0 q2 rfl hS qp t A _ _ _ (by omega) htp hE1 G2 R⟩
  · exact ⟨_, _, _, _, _, fun w => of_get S q _ w q0 q2 rfl hS _ _ _ hE G1, fun w => rof_get S q _ w q0 q2 rfl hS _ _ _ hE G2⟩
end Go.Proofs.YtmpklaokgogigaaDoor.Pub
