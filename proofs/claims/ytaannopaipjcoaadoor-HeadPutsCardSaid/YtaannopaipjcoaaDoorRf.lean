/-
  LAYER 11: Put, the program's, of any head.
-/
import Derived.Test.YtaannopaipjcoaaDoorRe
import Derived.OwnWalk
namespace Go.Proofs.YtaannopaipjcoaaDoor
open Go.RowKit

/-- The bytes of a head. -/
def putB (K F n : Nat) : List Nat := if n < 128 then [16 * K + F, n] else [16 * K + F, n % 128 + 128, n / 128]
def PPost (B : Nat) (l : List Nat) (w : World) (e : Ending) (w' : World) : Prop :=
  ∃ v, e = .returned (.tuple #[v, .int .i64 0]) ∧ w'.ownsRow B 5 1 v l.length (bl l) ∧ Below B w w'
theorem right_zero {k f : Int} (h : RightF k f = 0) : 1 ≤ k ∧ k ≤ 14 ∧ 0 ≤ f ∧ f ≤ 15 := by
  unfold RightF at h
  split at h
  · omega
  · split at h
    · split at h
      · rename_i hm
        have := (mayBe_iff f).1 hm
        unfold MayBe at this
        omega
      · omega
    · split at h
      · split at h <;> omega
      · split at h <;> omega
theorem or_head (K F : Nat) (hK : K ≤ 14) (hF : F ≤ 15) : bits .or .i64 ((K : Int) * 16) (F : Int) = ((16 * K + F : Nat) : Int) := by
  rw [show (K : Int) * 16 = ((K * 16 : Nat) : Int) from by omega, i64_or_nat _ _ (by omega) (by omega), nat_join 4 _ _ (by omega) (by omega)]
  omega
theorem put_err (k f n : Int) (w : World) (ht : Tab3 w) (hE : RightF k f ≠ 0) :
    Calls Tryd.prog 7 #[.agg #[.int .i64 k, .int .i64 f, .int .i64 n]] w fun e w' => e = .returned (.tuple #[.slice none 0 0, .int .i64 (RightF k f)]) ∧ Below w.heap.size w w' := by
  obtain ⟨E, hEd⟩ : ∃ E, RightF k f = E := ⟨_, rfl⟩
  have R := right_any k f (w.alloc (.cells #[.int .i64 k, .int .i64 f, .int .i64 n] 23)) (ht.keep (ext_alloc _ _))
  rw [hEd] at R hE ⊢
  have R := Lib.hid R
  have hb : (E != 0) = true := by simpa using hE
  clear hE hEd ht
  go_enter Tryd.func7, Tryd.ntmps7
  go_wp2_with (go_at_call 9; refine R.out.mono ?_; rintro e w' ⟨rfl, rfl⟩)
  go_ret2
  exact ⟨rfl, ext_alloc _ _⟩
theorem put_long (k f n : Int) (w : World) (ht : Tab3 w) (hE : RightF k f = 0) (hn : n < 0 ∨ 4096 < n) :
    Calls Tryd.prog 7 #[.agg #[.int .i64 k, .int .i64 f, .int .i64 n]] w fun e w' => e = .returned (.tuple #[.slice none 0 0, .int .i64 3]) ∧ Below w.heap.size w w' := by
  have R := right_any k f (w.alloc (.cells #[.int .i64 k, .int .i64 f, .int .i64 n] 23)) (ht.keep (ext_alloc _ _))
  rw [hE] at R
  have R := Lib.hid R
  clear hE ht
  have hn' : n < 0 ∨ (0 ≤ n ∧ 4096 < n) := by omega
  rcases hn' with h | ⟨h0, h⟩
  all_goals
    go_enter Tryd.func7, Tryd.ntmps7
    go_wp2_with (go_at_call 9; refine R.out.mono ?_; rintro e w' ⟨rfl, rfl⟩)
    go_ret2
    exact ⟨rfl, ext_alloc _ _⟩
set_option maxHeartbeats 1000000 in
set_option maxRecDepth 100000 in
theorem put_one (K F n : Nat) (w : World) (ht : Tab3 w) (hE : RightF K F = 0) (hn : n < 128) :
    Calls Tryd.prog 7 #[.agg #[.int .i64 K, .int .i64 F, .int .i64 n]] w (PPost w.heap.size (putB K F n) w) := by
  obtain ⟨i0, hi, hz0, hz1, hz2⟩ := info_parts info5
  obtain ⟨q1, q2, q3, q4⟩ := right_zero hE
  have R := right_any K F (w.alloc (.cells #[.int .i64 K, .int .i64 F, .int .i64 n] 23)) (ht.keep (ext_alloc _ _))
  rw [hE] at R
  have R := Lib.hid R
  obtain ⟨h, hh⟩ : ∃ h : Nat, h = 16 * K + F := ⟨_, rfl⟩
  have hor := or_head K F (by omega) (by omega)
  rw [← hh] at hor
  have hh2 : h ≤ 239 := by omega
  have hh3 : (h : Int) ≤ 239 := by omega
  have HH := Lib.hid hh
  have hn' : (n : Int) < 128 := by omega
  have hown0 : ((w.alloc (.cells #[.int .i64 K, .int .i64 F, .int .i64 n] 23)).alloc (.cells #[.int .u8 (h : Int)] 5)).ownsRow w.heap.size 5 1 (.slice (some ⟨w.heap.size + 1, 0, none⟩) 1 1) 1 [.int .u8 (h : Int)] := by
    have := World.ownsRow_lit (base := w.heap.size) (e := 5) (size := 1) (w.alloc (.cells #[.int .i64 K, .int .i64 F, .int .i64 n] 23)) #[.int .u8 (h : Int)] 1 (by simp) (by unfold maxLen; omega) rfl
    simpa using this
  have hc : ∀ (j : Nat) (u : Value), [Value.int IntKind.u8 (n : Int)][j]? = some u → (((w.alloc (.cells #[.int .i64 K, .int .i64 F, .int .i64 n] 23)).alloc (.cells #[.int .u8 (h : Int)] 5)).alloc (.cells #[.int .u8 (n : Int)] 5)).cell? ((⟨w.heap.size + 1 + 1, 0, none⟩ : Addr).add j) = some u := by
    have := cell_one_new ((w.alloc (.cells #[.int .i64 K, .int .i64 F, .int .i64 n] 23)).alloc (.cells #[.int .u8 (h : Int)] 5)) (.int .u8 (n : Int)) 5
    simpa using this
  clear hE ht hh
  go_enter Tryd.func7, Tryd.ntmps7
  go_wp2_with (go_at_call 9; refine R.out.mono ?_; rintro e w' ⟨rfl, rfl⟩)
  refine wp_loop_rounds 1 ?_
  rw [rounds_succ]
  go_wp2_with (at_builtin; go_must (refine wpList_append_own _ rfl (.tmp 43) (.tmp 46) 24 rfl w.heap.size 5 i0 (.int .u8 0) 1 1 Tryd.underlying24 hi hz0 hz1 hz2 rfl (by decide) (.slice (some ⟨w.heap.size + 1, 0, none⟩) 1 1) 1 [.int .u8 (h : Int)] rfl (hown0.alloc (.cells #[.int .u8 (n : Int)] 5)) ⟨w.heap.size + 1 + 1, 0, none⟩ 1 1 [.int .u8 (n : Int)] rfl rfl hc (by intro u hu; simp at hu; subst hu; rfl) (by unfold maxLen; omega) (by omega) (by simp; omega) ?_); intro v1 w1 hown1 hgrow1 hnil1)
  have hb1 : Below w.heap.size w w1 := (ext_trans (ext_trans (ext_alloc w _) (ext_alloc _ _)) (ext_alloc _ _)).grown hgrow1 (by simp; omega) (fun k hk => by cases hk; exact Nat.le_succ _)
  go_ret2
  refine ⟨v1, rfl, ?_, hb1⟩
  unfold putB
  rw [if_pos hn, ← HH.out]
  exact hown1
theorem or_128a (n : Nat) : bits .or .u8 ((n : Int) % 256) 128 = ((n % 128 + 128 : Nat) : Int) := by
  rw [show ((n : Int) % 256) = ((n % 256 : Nat) : Int) from by omega, show (128 : Int) = ((128 : Nat) : Int) from rfl, u8_or_nat _ _ (by omega) (by decide)]
  have h : ∀ x : Fin 256, x.val ||| 128 = x.val % 128 + 128 := by decide +kernel
  have := h ⟨n % 256, by omega⟩
  simp only at this
  rw [this]
  omega
theorem or_128b (n : Nat) : bits .or .u8 (IntKind.u8.wrap (n : Int)) 128 = ((n % 128 + 128 : Nat) : Int) := by
  rw [IntKind.wrap_u8']
  exact or_128a n
set_option maxHeartbeats 1000000 in
set_option maxRecDepth 100000 in
theorem put_two (K F n : Nat) (w : World) (ht : Tab3 w) (hE : RightF K F = 0) (hn : 128 ≤ n) (hn2 : n ≤ 4096) :
    Calls Tryd.prog 7 #[.agg #[.int .i64 K, .int .i64 F, .int .i64 n]] w (PPost w.heap.size (putB K F n) w) := by
  obtain ⟨i0, hi, hz0, hz1, hz2⟩ := info_parts info5
  obtain ⟨q1, q2, q3, q4⟩ := right_zero hE
  have R := right_any K F (w.alloc (.cells #[.int .i64 K, .int .i64 F, .int .i64 n] 23)) (ht.keep (ext_alloc _ _))
  rw [hE] at R
  have R := Lib.hid R
  obtain ⟨h, hh⟩ : ∃ h : Nat, h = 16 * K + F := ⟨_, rfl⟩
  have hor := or_head K F (by omega) (by omega)
  rw [← hh] at hor
  have hh2 : h ≤ 239 := by omega
  have hh3 : (h : Int) ≤ 239 := by omega
  have HH := Lib.hid hh
  obtain ⟨c, hcd⟩ : ∃ c : Nat, c = n % 128 + 128 := ⟨_, rfl⟩
  have ha := or_128a n
  have hb := or_128b n
  rw [← hcd] at ha hb
  have HCD := Lib.hid hcd
  have hc3 : (c : Int) ≤ 255 := by omega
  have hn' : (128 : Int) ≤ n := by omega
  have hn'' : (n : Int) ≤ 4096 := by omega
  have hown0 : ((w.alloc (.cells #[.int .i64 K, .int .i64 F, .int .i64 n] 23)).alloc (.cells #[.int .u8 (h : Int)] 5)).ownsRow w.heap.size 5 1 (.slice (some ⟨w.heap.size + 1, 0, none⟩) 1 1) 1 [.int .u8 (h : Int)] := by
    have := World.ownsRow_lit (base := w.heap.size) (e := 5) (size := 1) (w.alloc (.cells #[.int .i64 K, .int .i64 F, .int .i64 n] 23)) #[.int .u8 (h : Int)] 1 (by simp) (by unfold maxLen; omega) rfl
    simpa using this
  have hc : ∀ (j : Nat) (u : Value), [Value.int IntKind.u8 (c : Int)][j]? = some u → (((w.alloc (.cells #[.int .i64 K, .int .i64 F, .int .i64 n] 23)).alloc (.cells #[.int .u8 (h : Int)] 5)).alloc (.cells #[.int .u8 (c : Int)] 5)).cell? ((⟨w.heap.size + 1 + 1, 0, none⟩ : Addr).add j) = some u := by
    have := cell_one_new ((w.alloc (.cells #[.int .i64 K, .int .i64 F, .int .i64 n] 23)).alloc (.cells #[.int .u8 (h : Int)] 5)) (.int .u8 (c : Int)) 5
    simpa using this
  clear hE ht hh hcd
  go_enter Tryd.func7, Tryd.ntmps7
  go_wp2_with (go_at_call 9; refine R.out.mono ?_; rintro e w' ⟨rfl, rfl⟩)
  refine wp_loop_rounds 2 ?_
  rw [rounds_succ]
  go_wp2_with (at_builtin; go_must (refine wpList_append_own _ rfl (.tmp 35) (.tmp 39) 24 rfl w.heap.size 5 i0 (.int .u8 0) 1 1 Tryd.underlying24 hi hz0 hz1 hz2 rfl (by decide) (.slice (some ⟨w.heap.size + 1, 0, none⟩) 1 1) 1 [.int .u8 (h : Int)] rfl (hown0.alloc (.cells #[.int .u8 (c : Int)] 5)) ⟨w.heap.size + 1 + 1, 0, none⟩ 1 1 [.int .u8 (c : Int)] rfl rfl hc (by intro u hu; simp at hu; subst hu; rfl) (by unfold maxLen; omega) (by omega) (by simp; omega) ?_); intro v1 w1 hown1 hgrow1 hnil1)
  have hb1 : Below w.heap.size w w1 := (ext_trans (ext_trans (ext_alloc w _) (ext_alloc _ _)) (ext_alloc _ _)).grown hgrow1 (by simp; omega) (fun k hk => by cases hk; exact Nat.le_succ _)
  have hs1 := hb1.size
  clear hgrow1 hnil1 ha hb
  rw [rounds_succ]
  go_wp2_with (at_builtin; go_must (refine wpList_append_own _ rfl (.tmp 43) (.tmp 46) 24 rfl w.heap.size 5 i0 (.int .u8 0) 1 1 Tryd.underlying24 hi hz0 hz1 hz2 rfl (by decide) v1 2 _ rfl (hown1.alloc (.cells #[.int .u8 ((n : Int) / 128)] 5)) ⟨w1.heap.size, 0, none⟩ 1 1 [.int .u8 ((n : Int) / 128)] rfl rfl (cell_one_new _ _ _) (by intro u hu; simp at hu; subst hu; rfl) (by unfold maxLen; omega) (by omega) (by simp; omega) ?_); intro v2 w2 hown2 hgrow2 hnil2)
  go_ret2
  refine ⟨v2, rfl, ?_, (hb1.alloc hs1 _).grown hgrow2 (by simp; omega) (fun k hk => (hown1.lt k hk).1)⟩
  unfold putB
  rw [if_neg (by omega), ← HH.out, ← HCD.out]
  have := hown2
  simp only [bl, List.map_cons, List.map_nil, List.length_cons, List.length_nil]
  rw [show ((n / 128 : Nat) : Int) = (n : Int) / 128 from by omega]
  exact this
end Go.Proofs.YtaannopaipjcoaaDoor
