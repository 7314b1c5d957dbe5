/-
  LAYER 14: any message as bytes: both sides alike, and the law's walk.
-/
import Derived.Test.YtkihhnndidaloaaPi
namespace Go.Proofs.Ytkihhnndidaloaa
open Go.RowKit

theorem below_of {f : FuncId} {args : Array Value} {w : World} {v : Value} (h : Calls Try.prog f args w fun e w' => e = .returned v ∧ w = w') : Calls Try.prog f args w fun e w' => e = .returned v ∧ Below w.heap.size w w' :=
  h.mono fun _ _ ⟨a, b⟩ => ⟨a, by subst b; exact Below.refl _ _⟩
theorem both14 (t x : ByteArray) (q id : Int) (r : Bool) (ht : t.size ≤ 140737488351232) (hx : x.size ≤ 140737488351232) :
    ∃ l err, (∀ w, Calls Try.prog 14 #[.agg #[.string t, .string x, .int .i64 q, .bool r], .int .i64 id] w (Numb l err w)) ∧ ∀ w, Calls Try.prog 15 #[.agg #[.string t, .string x, .int .i64 q, .bool r], .int .i64 id] w (Numb l err w) := by
  by_cases hq : q < 0 ∨ 2 < q
  · exact ⟨[], 10, fun w => put14_qos t x q id r w hq, fun w => rput_qos t x q id r w hq⟩
  have q0 : 0 ≤ q := by omega
  have q2 : q ≤ 2 := by omega
  cases htp : topicB t
  · exact ⟨[], 13, fun w => put14_topic t x q id r w q0 q2 (by omega) htp, fun w => rput_topic t x q id r w q0 q2 (by omega) htp⟩
  by_cases hl : 65535 < t.size
  · exact ⟨[], 3, fun w => put14_text t x q id 3 r w q0 q2 (by omega) htp (by decide) (fun w => below_of (put_long t w hl)), fun w => rput_text t x q id 3 r w q0 q2 (by omega) htp (by decide) (fun w => below_of (rput_long t w hl))⟩
  have hl' : t.size ≤ 65535 := by omega
  cases hr : rightB t
  · exact ⟨[], 9, fun w => put14_text t x q id 9 r w q0 q2 (by omega) htp (by decide) (fun w => put_bad t w hl' hr), fun w => rput_text t x q id 9 r w q0 q2 (by omega) htp (by decide) (fun w => rput_bad t w hl' hr)⟩
  have P := put_row t _ hl' hr rfl
  have R := rput_row t _ hl' hr rfl
  have hlen := rawL_length t
  have hne : rawL t ≠ [] := by unfold rawL; simp
  by_cases hz : q = 0
  · subst hz
    by_cases hid : id = 0
    · subst hid
      by_cases hL : 4096 < (rawL t).length + x.size
      · exact ⟨[], 3, fun w => (put14_run0 t x 0 0 0 r [] (rawL t) (rawL t) w q0 q2 hx hl' htp P number_0 field_0 none_ok (by simp) (by omega) (by simp) hne (by omega)).1 hL, fun w => rput_long0 t x r (rawL t) w hx hl' htp R (by omega) hne hL⟩
      · exact ⟨_, 0, fun w => (put14_run0 t x 0 0 0 r [] (rawL t) (rawL t) w q0 q2 hx hl' htp P number_0 field_0 none_ok (by simp) (by omega) (by simp) hne (by omega)).2 (by omega), fun w => rput_fit0 t x r (rawL t) w hx hl' htp R (by omega) hne (by omega)⟩
    · exact ⟨[], 1, fun w => put14_num0 t x 0 id r (rawL t) w q0 q2 hl' htp P number_0 field_0 (fun w => none_err id w hid), fun w => rput_num0 t x id r (rawL t) w hl' htp hid R⟩
  · have qp : 0 < q := by omega
    have NB := fun w => number_pos q w qp
    by_cases hid : id < 1 ∨ 65535 < id
    · exact ⟨[], 1, fun w => put14_numP t x q id r (rawL t) w q0 q2 hl' htp P NB field_put (fun w => pid_err2 19 (.inl rfl) id hid w), fun w => rput_numP t x q id r (rawL t) w qp q2 hl' htp R (fun w => pid_err2 20 (.inr rfl) id hid w)⟩
    · obtain ⟨k, rfl⟩ := Int.eq_ofNat_of_zero_le (show 0 ≤ id by omega)
      have I1 := pid_ok2 19 (.inl rfl) k (by omega) (by omega)
      have I2 := pid_ok2 20 (.inr rfl) k (by omega) (by omega)
      have hpl : (rawL t ++ [k / 256, k % 256]).length ≤ 65539 := by rw [List.length_append, hlen]; simp; omega
      by_cases hL : 4096 < (rawL t ++ [k / 256, k % 256]).length + x.size
      · exact ⟨[], 3, fun w => (put14_runP t x q k 0 r _ (rawL t) _ w q0 q2 hx hl' htp P NB field_put I1 (by simp) (by omega) rfl (by simp) hpl).1 hL, fun w => rput_longP t x q k r _ (rawL t) _ w qp q2 hx hl' htp R I2 (by simp) (by omega) rfl (by simp) hpl hL⟩
      · exact ⟨_, 0, fun w => (put14_runP t x q k 0 r _ (rawL t) _ w q0 q2 hx hl' htp P NB field_put I1 (by simp) (by omega) rfl (by simp) hpl).2 (by omega), fun w => rput_fitP t x q k r _ (rawL t) _ w qp q2 hx hl' htp R I2 (by simp) (by omega) rfl (by simp) hpl (by omega)⟩
set_option maxHeartbeats 2000000 in
set_option maxRecDepth 100000 in
theorem puts14 (t x : ByteArray) (q id : Int) (r : Bool) (w : World) (ht : t.size ≤ 140737488351232) (hx : x.size ≤ 140737488351232) :
    Calls Try.prog 3 #[.agg #[.string t, .string x, .int .i64 q, .bool r], .int .i64 id] w (Yes w) := by
  obtain ⟨l, err, P, Q⟩ := both14 t x q id r ht hx
  unfold Numb at P Q
  replace P := Lib.hid P
  replace Q := Lib.hid Q
  have b0 := Lib.hid (ext_alloc w (.cells #[.string t, .string x, .int .i64 q, .bool r] 23))
  go_enter Try.func3, Try.ntmps3
  go_wp2_with fail
  refine (P.out _).mono ?_
  rintro e w1 ⟨v1, rfl, a1, b1⟩
  have c00 : w1.cell? ⟨w.heap.size, 0, none⟩ = some (.string t) := by rw [b1.cell (by simp), World.cell?_alloc_at _ _ _ _ rfl]; rfl
  have c01 : w1.cell? ⟨w.heap.size, 1, none⟩ = some (.string x) := by rw [b1.cell (by simp), World.cell?_alloc_at _ _ _ _ rfl]; rfl
  have c02 : w1.cell? ⟨w.heap.size, 2, none⟩ = some (.int .i64 q) := by rw [b1.cell (by simp), World.cell?_alloc_at _ _ _ _ rfl]; rfl
  have c03 : w1.cell? ⟨w.heap.size, 3, none⟩ = some (.bool r) := by rw [b1.cell (by simp), World.cell?_alloc_at _ _ _ _ rfl]; rfl
  replace b1 := Lib.hid (ext_trans b0.out b1)
  go_wp2_with fail
  refine (Q.out _).mono ?_
  rintro e w2 ⟨v2, rfl, a2, b2⟩
  have a1 := a1.keep b2 (Nat.le_refl _)
  have k1 := a1.conv (P := Try.prog) Try.underlying24 Try.underlying5 Try.underlying9
  have k2 := a2.conv (P := Try.prog) Try.underlying24 Try.underlying5 Try.underlying9
  obtain ⟨x1, n1, rfl, -, -⟩ := a1
  obtain ⟨x2, n2, rfl, -, -⟩ := a2
  replace b2 := Lib.hid b2
  clear c00 c01 c02 c03
  go_wp2_with fail
  refine (awake14_any _).mono ?_
  rintro e w3 ⟨rfl, b3⟩
  go_wp2_with fail
  go_ret
  exact ⟨rfl, ext_trans (ext_trans b1.out b2.out) b3⟩
end Go.Proofs.Ytkihhnndidaloaa
