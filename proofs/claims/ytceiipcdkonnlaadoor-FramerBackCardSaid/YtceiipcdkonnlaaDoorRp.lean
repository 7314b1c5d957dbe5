/-
  LAYER 11: Put, the document's, of any head.
-/
import Derived.Test.YtceiipcdkonnlaaDoorRf
import Derived.Outline
namespace Go.Proofs.YtceiipcdkonnlaaDoor
set_option linter.unusedSimpArgs false
set_option linter.unusedVariables false
open Go.RowKit

theorem rput_err (k f n : Int) (w : World) (hE : RightF k f ≠ 0) :
    Calls Tryd.prog 19 #[.agg #[.int .i64 k, .int .i64 f, .int .i64 n]] w fun e w' => e = .returned (.tuple #[.slice none 0 0, .int .i64 (RightF k f)]) ∧ Below w.heap.size w w' := by
  obtain ⟨E, hEd⟩ : ∃ E, RightF k f = E := ⟨_, rfl⟩
  have R := ref_any k f (w.alloc (.cells #[.int .i64 k, .int .i64 f, .int .i64 n] 33))
  rw [hEd] at R hE ⊢
  replace R := Lib.hid R
  have hb : (E != 0) = true := by simpa using hE
  clear hE hEd
  go_enter Tryd.func19, Tryd.ntmps19
  go_wp2_with (go_at_call 25; refine R.out.mono ?_; rintro e w' ⟨rfl, rfl⟩)
  go_ret2
  exact ⟨rfl, ext_alloc _ _⟩
theorem rput_long (k f n : Int) (w : World) (hE : RightF k f = 0) (hn : n < 0 ∨ 4096 < n) :
    Calls Tryd.prog 19 #[.agg #[.int .i64 k, .int .i64 f, .int .i64 n]] w fun e w' => e = .returned (.tuple #[.slice none 0 0, .int .i64 3]) ∧ Below w.heap.size w w' := by
  have R := ref_any k f (w.alloc (.cells #[.int .i64 k, .int .i64 f, .int .i64 n] 33))
  rw [hE] at R
  replace R := Lib.hid R
  clear hE
  have hn' : n < 0 ∨ (0 ≤ n ∧ 4096 < n) := by omega
  rcases hn' with h | ⟨h0, h⟩
  all_goals
    go_enter Tryd.func19, Tryd.ntmps19
    go_wp2_with (go_at_call 25; refine R.out.mono ?_; rintro e w' ⟨rfl, rfl⟩)
    go_ret2
    exact ⟨rfl, ext_alloc _ _⟩
set_option maxHeartbeats 1000000 in
set_option maxRecDepth 100000 in
theorem rput_one (K F n : Nat) (w : World) (hE : RightF K F = 0) (hn : n < 128) :
    Calls Tryd.prog 19 #[.agg #[.int .i64 K, .int .i64 F, .int .i64 n]] w (PPost w.heap.size (putB K F n) w) := by
  obtain ⟨i0, hi, hz0, hz1, hz2⟩ := info_parts info5
  obtain ⟨q1, q2, q3, q4⟩ := right_zero hE
  have R := ref_any K F (w.alloc (.cells #[.int .i64 K, .int .i64 F, .int .i64 n] 33))
  rw [hE] at R
  replace R := Lib.hid R
  obtain ⟨h, hh⟩ : ∃ h : Nat, h = 16 * K + F := ⟨_, rfl⟩
  have hor : (16 : Int) * K + F = h := by omega
  have hh2 : h ≤ 239 := by omega
  have hh3 : (h : Int) ≤ 239 := by omega
  have HH := Lib.hid hh
  have hn' : (n : Int) < 128 := by omega
  have hown0 : ((w.alloc (.cells #[.int .i64 K, .int .i64 F, .int .i64 n] 33)).alloc (.cells #[.int .u8 (h : Int)] 5)).ownsRow w.heap.size 5 1 (.slice (some ⟨w.heap.size + 1, 0, none⟩) 1 1) 1 [.int .u8 (h : Int)] := by
    have := World.ownsRow_lit (base := w.heap.size) (e := 5) (size := 1) (w.alloc (.cells #[.int .i64 K, .int .i64 F, .int .i64 n] 33)) #[.int .u8 (h : Int)] 1 (by simp) (by unfold maxLen; omega) rfl
    simpa using this
  have hc : ∀ (j : Nat) (u : Value), [Value.int IntKind.u8 (n : Int)][j]? = some u → (((w.alloc (.cells #[.int .i64 K, .int .i64 F, .int .i64 n] 33)).alloc (.cells #[.int .u8 (h : Int)] 5)).alloc (.cells #[.int .u8 (n : Int)] 5)).cell? ((⟨w.heap.size + 1 + 1, 0, none⟩ : Addr).add j) = some u := by
    have := cell_one_new ((w.alloc (.cells #[.int .i64 K, .int .i64 F, .int .i64 n] 33)).alloc (.cells #[.int .u8 (h : Int)] 5)) (.int .u8 (n : Int)) 5
    simpa using this
  clear hE hh
  go_enter Tryd.func19, Tryd.ntmps19
  go_wp2_with (go_at_call 25; refine R.out.mono ?_; rintro e w' ⟨rfl, rfl⟩)
  refine wp_loop_rounds 1 ?_
  rw [rounds_succ]
  go_wp2_with (at_builtin; go_must (refine wpList_append_own _ rfl (.tmp 44) (.tmp 47) 23 rfl w.heap.size 5 i0 (.int .u8 0) 1 1 Tryd.underlying23 hi hz0 hz1 hz2 rfl (by decide) (.slice (some ⟨w.heap.size + 1, 0, none⟩) 1 1) 1 [.int .u8 (h : Int)] rfl (hown0.alloc (.cells #[.int .u8 (n : Int)] 5)) ⟨w.heap.size + 1 + 1, 0, none⟩ 1 1 [.int .u8 (n : Int)] rfl rfl hc (by intro u hu; simp at hu; subst hu; rfl) (by unfold maxLen; omega) (by omega) (by simp; omega) ?_); intro v1 w1 hown1 hgrow1 hnil1)
  have hb1 : Below w.heap.size w w1 := (ext_trans (ext_trans (ext_alloc w _) (ext_alloc _ _)) (ext_alloc _ _)).grown hgrow1 (by simp; omega) (fun k hk => by cases hk; exact Nat.le_succ _)
  go_ret2
  refine ⟨v1, rfl, ?_, hb1⟩
  unfold putB
  rw [if_pos hn, ← HH.out]
  exact hown1
set_option maxHeartbeats 1000000 in
set_option maxRecDepth 100000 in
theorem rput_two (K F n : Nat) (w : World) (hE : RightF K F = 0) (hn : 128 ≤ n) (hn2 : n ≤ 4096) :
    Calls Tryd.prog 19 #[.agg #[.int .i64 K, .int .i64 F, .int .i64 n]] w (PPost w.heap.size (putB K F n) w) := by
  obtain ⟨i0, hi, hz0, hz1, hz2⟩ := info_parts info5
  obtain ⟨q1, q2, q3, q4⟩ := right_zero hE
  have R := ref_any K F (w.alloc (.cells #[.int .i64 K, .int .i64 F, .int .i64 n] 33))
  rw [hE] at R
  replace R := Lib.hid R
  obtain ⟨h, hh⟩ : ∃ h : Nat, h = 16 * K + F := ⟨_, rfl⟩
  have hor : (16 : Int) * K + F = h := by omega
  have hh2 : h ≤ 239 := by omega
  have hh3 : (h : Int) ≤ 239 := by omega
  have HH := Lib.hid hh
  obtain ⟨c, hcd⟩ : ∃ c : Nat, c = n % 128 + 128 := ⟨_, rfl⟩
  have ha : (n : Int) % 128 + 128 = c := by omega
  have HCD := Lib.hid hcd
  have hc3 : (c : Int) ≤ 255 := by omega
  have hn' : (128 : Int) ≤ n := by omega
  have hn'' : (n : Int) ≤ 4096 := by omega
  have hown0 : ((w.alloc (.cells #[.int .i64 K, .int .i64 F, .int .i64 n] 33)).alloc (.cells #[.int .u8 (h : Int)] 5)).ownsRow w.heap.size 5 1 (.slice (some ⟨w.heap.size + 1, 0, none⟩) 1 1) 1 [.int .u8 (h : Int)] := by
    have := World.ownsRow_lit (base := w.heap.size) (e := 5) (size := 1) (w.alloc (.cells #[.int .i64 K, .int .i64 F, .int .i64 n] 33)) #[.int .u8 (h : Int)] 1 (by simp) (by unfold maxLen; omega) rfl
    simpa using this
  have hc : ∀ (j : Nat) (u : Value), [Value.int IntKind.u8 (c : Int)][j]? = some u → (((w.alloc (.cells #[.int .i64 K, .int .i64 F, .int .i64 n] 33)).alloc (.cells #[.int .u8 (h : Int)] 5)).alloc (.cells #[.int .u8 (c : Int)] 5)).cell? ((⟨w.heap.size + 1 + 1, 0, none⟩ : Addr).add j) = some u := by
    have := cell_one_new ((w.alloc (.cells #[.int .i64 K, .int .i64 F, .int .i64 n] 33)).alloc (.cells #[.int .u8 (h : Int)] 5)) (.int .u8 (c : Int)) 5
    simpa using this
  clear hE hh hcd
  go_enter Tryd.func19, Tryd.ntmps19
  go_wp2_with (go_at_call 25; refine R.out.mono ?_; rintro e w' ⟨rfl, rfl⟩)
  refine wp_loop_rounds 2 ?_
  rw [rounds_succ]
  go_wp2_with (at_builtin; go_must (refine wpList_append_own _ rfl (.tmp 35) (.tmp 40) 23 rfl w.heap.size 5 i0 (.int .u8 0) 1 1 Tryd.underlying23 hi hz0 hz1 hz2 rfl (by decide) (.slice (some ⟨w.heap.size + 1, 0, none⟩) 1 1) 1 [.int .u8 (h : Int)] rfl (hown0.alloc (.cells #[.int .u8 (c : Int)] 5)) ⟨w.heap.size + 1 + 1, 0, none⟩ 1 1 [.int .u8 (c : Int)] rfl rfl hc (by intro u hu; simp at hu; subst hu; rfl) (by unfold maxLen; omega) (by omega) (by simp; omega) ?_); intro v1 w1 hown1 hgrow1 hnil1)
  have hb1 : Below w.heap.size w w1 := (ext_trans (ext_trans (ext_alloc w _) (ext_alloc _ _)) (ext_alloc _ _)).grown hgrow1 (by simp; omega) (fun k hk => by cases hk; exact Nat.le_succ _)
  have hs1 := hb1.size
  clear hgrow1 hnil1 ha
  rw [rounds_succ]
  go_wp2_with (at_builtin; go_must (refine wpList_append_own _ rfl (.tmp 44) (.tmp 47) 23 rfl w.heap.size 5 i0 (.int .u8 0) 1 1 Tryd.underlying23 hi hz0 hz1 hz2 rfl (by decide) v1 2 _ rfl (hown1.alloc (.cells #[.int .u8 ((n : Int) / 128)] 5)) ⟨w1.heap.size, 0, none⟩ 1 1 [.int .u8 ((n : Int) / 128)] rfl rfl (cell_one_new _ _ _) (by intro u hu; simp at hu; subst hu; rfl) (by unfold maxLen; omega) (by omega) (by simp; omega) ?_); intro v2 w2 hown2 hgrow2 hnil2)
  go_ret2
  refine ⟨v2, rfl, ?_, (hb1.alloc hs1 _).grown hgrow2 (by simp; omega) (fun k hk => (hown1.lt k hk).1)⟩
  unfold putB
  rw [if_neg (by omega), ← HH.out, ← HCD.out]
  have := hown2
  simp only [bl, List.map_cons, List.map_nil, List.length_cons, List.length_nil]
  rw [show ((n / 128 : Nat) : Int) = (n : Int) / 128 from by omega]
  exact this
end Go.Proofs.YtceiipcdkonnlaaDoor
