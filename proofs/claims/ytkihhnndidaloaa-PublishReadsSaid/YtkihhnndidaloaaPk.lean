/-
  LAYER 14: what was put, told again.
-/
import Derived.Test.YtkihhnndidaloaaPj
namespace Go.Proofs.Ytkihhnndidaloaa
open Go.RowKit

/-- What of a number stands in a message. -/
def NumOk (q id : Int) (nl : List Nat) : Prop := (q = 0 ∧ id = 0 ∧ nl = []) ∨ (0 < q ∧ ∃ k : Nat, id = k ∧ 1 ≤ k ∧ k ≤ 65535 ∧ nl = [k / 256, k % 256])
theorem put14_cases (t x : ByteArray) (q id : Int) (r : Bool) (ht : t.size ≤ 140737488351232) (hx : x.size ≤ 140737488351232) :
    (∃ err, err ≠ 0 ∧ ∀ w, Calls Try.prog 14 #[.agg #[.string t, .string x, .int .i64 q, .bool r], .int .i64 id] w (Numb [] err w)) ∨
    (∃ nl, 0 ≤ q ∧ q ≤ 2 ∧ topicB t = true ∧ t.size ≤ 65535 ∧ rightB t = true ∧ NumOk q id nl ∧ (rawL t ++ nl ++ txtL x).length ≤ 4096 ∧ ∀ w, Calls Try.prog 14 #[.agg #[.string t, .string x, .int .i64 q, .bool r], .int .i64 id] w (Numb (rawL t ++ nl ++ txtL x) 0 w)) := by
  by_cases hq : q < 0 ∨ 2 < q
  · exact .inl ⟨10, by decide, fun w => put14_qos t x q id r w hq⟩
  have q0 : 0 ≤ q := by omega
  have q2 : q ≤ 2 := by omega
  cases htp : topicB t
  · exact .inl ⟨13, by decide, fun w => put14_topic t x q id r w q0 q2 (by omega) htp⟩
  by_cases hl : 65535 < t.size
  · exact .inl ⟨3, by decide, fun w => put14_text t x q id 3 r w q0 q2 (by omega) htp (by decide) (fun w => below_of (put_long t w hl))⟩
  have hl' : t.size ≤ 65535 := by omega
  cases hr : rightB t
  · exact .inl ⟨9, by decide, fun w => put14_text t x q id 9 r w q0 q2 (by omega) htp (by decide) (fun w => put_bad t w hl' hr)⟩
  have P := put_row t _ hl' hr rfl
  have hlen := rawL_length t
  have hne : rawL t ≠ [] := by unfold rawL; simp
  by_cases hz : q = 0
  · subst hz
    by_cases hid : id = 0
    · subst hid
      by_cases hL : 4096 < (rawL t).length + x.size
      · exact .inl ⟨3, by decide, fun w => (put14_run0 t x 0 0 0 r [] (rawL t) (rawL t) w q0 q2 hx hl' htp P number_0 field_0 none_ok (by simp) (by omega) (by simp) hne (by omega)).1 hL⟩
      · refine .inr ⟨[], q0, q2, rfl, hl', rfl, .inl ⟨rfl, rfl, rfl⟩, by rw [List.append_nil, List.length_append, txtL_length]; omega, fun w => ?_⟩
        rw [List.append_nil]
        exact (put14_run0 t x 0 0 0 r [] (rawL t) (rawL t) w q0 q2 hx hl' htp P number_0 field_0 none_ok (by simp) (by omega) (by simp) hne (by omega)).2 (by omega)
    · exact .inl ⟨1, by decide, fun w => put14_num0 t x 0 id r (rawL t) w q0 q2 hl' htp P number_0 field_0 (fun w => none_err id w hid)⟩
  · have qp : 0 < q := by omega
    have NB := fun w => number_pos q w qp
    by_cases hid : id < 1 ∨ 65535 < id
    · exact .inl ⟨1, by decide, fun w => put14_numP t x q id r (rawL t) w q0 q2 hl' htp P NB field_put (fun w => pid_err2 19 (.inl rfl) id hid w)⟩
    · obtain ⟨k, rfl⟩ := Int.eq_ofNat_of_zero_le (show 0 ≤ id by omega)
      have I1 := pid_ok2 19 (.inl rfl) k (by omega) (by omega)
      have hpl : (rawL t ++ [k / 256, k % 256]).length ≤ 65539 := by rw [List.length_append, hlen]; simp; omega
      by_cases hL : 4096 < (rawL t ++ [k / 256, k % 256]).length + x.size
      · exact .inl ⟨3, by decide, fun w => (put14_runP t x q k 0 r _ (rawL t) _ w q0 q2 hx hl' htp P NB field_put I1 (by simp) (by omega) rfl (by simp) hpl).1 hL⟩
      · exact .inr ⟨_, q0, q2, rfl, hl', rfl, .inr ⟨qp, k, rfl, by omega, by omega, rfl⟩, by rw [List.length_append, txtL_length]; omega, fun w => (put14_runP t x q k 0 r _ (rawL t) _ w q0 q2 hx hl' htp P NB field_put I1 (by simp) (by omega) rfl (by simp) hpl).2 (by omega)⟩
theorem txt_strB (l : List Nat) (h : ∀ x ∈ l, x < 256) : txtL (strB l) = l := by
  unfold txtL strB
  simp only [List.map_map]
  conv => rhs; rw [← List.map_id l]
  apply List.map_congr_left
  intro y hy
  have := h y hy
  simp; omega
theorem strB_drop (p : List Nat) (x : ByteArray) : (strB (p ++ txtL x)).extract p.length (strB (p ++ txtL x)).size = x := by
  apply ByteArray.ext
  rw [ByteArray.data_extract]
  apply Array.toList_inj.1
  rw [Array.toList_extract, strB_size]
  have e : (strB (p ++ txtL x)).data.toList = p.map UInt8.ofNat ++ x.data.toList := by
    unfold strB txtL
    simp [List.map_append, List.map_map, Function.comp_def]
  rw [e]
  have hl : (p ++ txtL x).length = p.length + x.data.toList.length := by rw [List.length_append, txtL_length]; rfl
  rw [hl, List.extract_eq_take_drop, List.drop_append, List.drop_eq_nil_of_le (by simp), List.nil_append]
  simp
  exact List.take_of_length_le (by rw [Array.length_toList]; exact Nat.le_refl _)
/-- A number read behind a text. -/
theorem get2_at (p : List Nat) (k : Nat) (l : List Nat) (hk : k ≤ 65535) : get2V (p ++ [k / 256, k % 256] ++ l) p.length = ((k : Int), ((p.length + 2 : Nat) : Int), 0) := by
  have g0 : (p ++ [k / 256, k % 256] ++ l).getD p.length 0 = k / 256 := by rw [List.append_assoc]; simp [List.getD, List.getElem?_append]
  have g1 : (p ++ [k / 256, k % 256] ++ l).getD (p.length + 1) 0 = k % 256 := by rw [List.append_assoc]; simp [List.getD, List.getElem?_append]
  have hl : (p ++ [k / 256, k % 256] ++ l).length = p.length + 2 + l.length := by simp; omega
  unfold get2V
  rw [hl, if_neg (by omega), if_neg (by omega), Int.toNat_natCast, g0, g1, show 256 * (k / 256) + k % 256 = k from by omega]
  simp
set_option maxRecDepth 100000 in
theorem getid_at (v : Value) (l : List Nat) (a : Int) (k : Nat) (to : Int) (w : World) (hb : BytesAt w v l) (hl : l.length ≤ 140737488355328) (h256 : ∀ x ∈ l, x < 256) (ha : -9223372036854775808 ≤ a ∧ a ≤ 9223372036854775807) (hk : 1 ≤ k) (hg : get2V l a = ((k : Int), to, 0)) :
    Calls Try.prog 54 #[v, .int .i64 a] w fun e w' => e = .returned (.tuple #[.int .i64 k, .int .i64 to, .int .i64 0]) ∧ Below w.heap.size w w' := by
  have G := get2_any v l a w hb h256 hl ha
  rw [hg] at G
  simp only at G
  obtain ⟨x, cap, rfl, -, -⟩ := hb
  replace G := Lib.hid G
  have hz : ((k : Int) == 0) = false := beq_eq_false_iff_ne.2 (by omega)
  clear hg h256
  go_enter Try.func54, Try.ntmps54
  go_wp2_with fail
  refine (G.out).mono ?_
  rintro e w' ⟨rfl, n, rfl⟩
  go_wp2_with fail
  go_ret3
  exact ⟨rfl, below_drewN (Below.refl _ _) n⟩
theorem none_at (v : Value) (a : Int) (w : World) : Calls Try.prog 79 #[v, .int .i64 a] w fun e w' => e = .returned (.tuple #[.int .i64 0, .int .i64 a, .int .i64 0]) ∧ Below w.heap.size w w' := by
  go_enter Try.func79, Try.ntmps79
  go_wp2
  go_ret3
  exact ⟨rfl, Below.refl _ _⟩
theorem field_1P (w : World) : (Instr.field 71 (.agg #[.func (.func 19) #[] #[], .func (.func 54) #[] #[]]) 1).run Try.prog w = .ok (.func (.func 54) #[] #[]) w := by kernel_rfl
theorem field_10 (w : World) : (Instr.field 71 (.agg #[.func (.func 78) #[] #[], .func (.func 79) #[] #[]]) 1).run Try.prog w = .ok (.func (.func 79) #[] #[]) w := by kernel_rfl
end Go.Proofs.Ytkihhnndidaloaa
