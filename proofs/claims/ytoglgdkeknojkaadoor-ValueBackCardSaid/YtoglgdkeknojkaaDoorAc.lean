/-
  LAYER 5: Right joined, Zero, of both sides.
-/
import Derived.Test.YtoglgdkeknojkaaDoorAb
namespace Go.Proofs.YtoglgdkeknojkaaDoor
open Go.RowKit

set_option maxHeartbeats 1000000 in
set_option maxRecDepth 100000 in
theorem rt_00 (g : FuncId) (hg : g = 10 ∨ g = 11) (w : World) (ht : Tabs w) : Calls Tryd.prog g #[(Va.mk 0 0 ⟨#[]⟩).val] w (ErV 0 w) := by
  have hd : decide (((18446744073709551615 : Int)) < 0) = false := by decide
  simp only [Va.val, Int.natCast_zero]
  rcases hg with rfl | rfl
  · obtain ⟨t1, t2⟩ := ht.at (.cells #[.int .i64 0, .int .u64 0, .string ⟨#[]⟩] 24) 0 (by omega)
    simp only [kindsL, mostL, List.getD_cons_zero, List.getD_cons_succ] at t1 t2
    replace ht := Lib.hid ht
    go_enter Tryd.func10, Tryd.ntmps10
    go_wp2
    go_quiet (fail)
    go_wp2
    go_ret
    exact ⟨rfl, e_drewN (e_alloc _ _) _⟩
  · have G : ∀ w : World, Calls Tryd.prog 21 #[.int .i64 0, .int .u64 0] w fun e w' => e = .returned (.bool false) ∧ w = w' := by
      intro w
      go_enter Tryd.func21, Tryd.ntmps21
      go_wp2
      go_ret
      exact ⟨rfl, rfl⟩
    replace G := Lib.hid G
    replace ht := Lib.hid ht
    go_enter Tryd.func11, Tryd.ntmps11
    go_wp2_with fail
    refine (G.out _).mono ?_
    rintro e w1 ⟨rfl, rfl⟩
    go_wp2_with fail
    go_ret
    exact ⟨rfl, e_alloc _ _⟩
/-- Right, of both sides, whatever the value. -/
theorem right_any (g : FuncId) (hg : g = 10 ∨ g = 11) (v : Va) (w : World) (ht : Tabs w) (hm : v.n ≤ 18446744073709551615) : Calls Tryd.prog g #[v.val] w (ErV (rightE v) w) := by
  obtain ⟨k, n, s⟩ := v
  simp only at hm
  unfold rightE
  simp only
  by_cases hk : k < 0 ∨ 7 < k
  · rw [if_pos hk]
    exact right_kind g hg _ w (by simp only; omega)
  rw [if_neg hk]
  have h8 : k = 0 ∨ k = 1 ∨ k = 2 ∨ k = 3 ∨ k = 4 ∨ k = 5 ∨ k = 6 ∨ k = 7 := by omega
  clear hk
  by_cases hs : s.size = 0
  · by_cases hn : n = 0
    · subst hn
      rw [if_neg (by rintro (h | h); exact h.2 hs; exact h.2 rfl), if_neg (by omega)]
      rcases hg with rfl | rfl
      · rcases h8 with rfl | rfl | rfl | rfl | rfl | rfl | rfl | rfl
        · obtain rfl := vsize0 hs; exact rt_00 10 (.inl rfl) w ht
        · obtain rfl := vsize0 hs; exact rt_ok_10_1 0 w ht (by omega)
        · obtain rfl := vsize0 hs; exact rt_ok_10_2 0 w ht (by omega)
        · obtain rfl := vsize0 hs; exact rt_ok_10_3 0 w ht (by omega)
        · obtain rfl := vsize0 hs; exact rt_ok_10_4 0 w ht (by omega)
        · obtain rfl := vsize0 hs; exact rt_ok_10_5 0 w ht (by omega)
        · exact rt_tok_10_6 s w ht
        · exact rt_tok_10_7 s w ht
      · rcases h8 with rfl | rfl | rfl | rfl | rfl | rfl | rfl | rfl
        · obtain rfl := vsize0 hs; exact rt_00 11 (.inr rfl) w ht
        · obtain rfl := vsize0 hs; exact rt_ok_11_1 0 w ht (by omega)
        · obtain rfl := vsize0 hs; exact rt_ok_11_2 0 w ht (by omega)
        · obtain rfl := vsize0 hs; exact rt_ok_11_3 0 w ht (by omega)
        · obtain rfl := vsize0 hs; exact rt_ok_11_4 0 w ht (by omega)
        · obtain rfl := vsize0 hs; exact rt_ok_11_5 0 w ht (by omega)
        · exact rt_tok_11_6 s w ht
        · exact rt_tok_11_7 s w ht
    · by_cases h067 : k = 6 ∨ k = 7 ∨ k = 0
      · rw [if_pos (.inr ⟨h067, hn⟩)]
        obtain rfl := vsize0 hs
        rcases hg with rfl | rfl
        · rcases h067 with rfl | rfl | rfl
          · exact rt_tn_10_6 n _ w ht hn
          · exact rt_tn_10_7 n _ w ht hn
          · exact rt_0n_10_0 n w ht hn
        · rcases h067 with rfl | rfl | rfl
          · exact rt_tn_11_6 n _ w ht hn
          · exact rt_tn_11_7 n _ w ht hn
          · exact rt_0n_11_0 n w ht hn
      · rw [if_neg (by rintro (h | h); exact h.2 hs; exact h067 h.1)]
        obtain rfl := vsize0 hs
        have h5 : k = 1 ∨ k = 2 ∨ k = 3 ∨ k = 4 ∨ k = 5 := by omega
        clear h8
        by_cases hb : vmost k < n
        · rw [if_pos hb]
          rcases h5 with rfl | rfl | rfl | rfl | rfl
          · simp [vmost] at hb; rcases hg with rfl | rfl; exact rt_big_10_1 n w ht hb hm; exact rt_big_11_1 n w ht hb hm
          · simp [vmost] at hb; omega
          · simp [vmost] at hb; rcases hg with rfl | rfl; exact rt_big_10_3 n w ht hb hm; exact rt_big_11_3 n w ht hb hm
          · simp [vmost] at hb; omega
          · simp [vmost] at hb; rcases hg with rfl | rfl; exact rt_big_10_5 n w ht hb hm; exact rt_big_11_5 n w ht hb hm
        · rw [if_neg hb]
          rcases h5 with rfl | rfl | rfl | rfl | rfl
          · simp [vmost] at hb; rcases hg with rfl | rfl; exact rt_ok_10_1 n w ht hb; exact rt_ok_11_1 n w ht hb
          · simp [vmost] at hb; rcases hg with rfl | rfl; exact rt_ok_10_2 n w ht hm; exact rt_ok_11_2 n w ht hm
          · simp [vmost] at hb; rcases hg with rfl | rfl; exact rt_ok_10_3 n w ht hb; exact rt_ok_11_3 n w ht hb
          · simp [vmost] at hb; rcases hg with rfl | rfl; exact rt_ok_10_4 n w ht hm; exact rt_ok_11_4 n w ht hm
          · simp [vmost] at hb; rcases hg with rfl | rfl; exact rt_ok_10_5 n w ht hb; exact rt_ok_11_5 n w ht hb
  · by_cases h67 : k = 6 ∨ k = 7
    · by_cases hn : n = 0
      · subst hn
        rw [if_neg (by rintro (h | h); exact h.1 h67; exact h.2 rfl), if_neg (by omega)]
        rcases hg with rfl | rfl
        · rcases h67 with rfl | rfl
          · exact rt_tok_10_6 s w ht
          · exact rt_tok_10_7 s w ht
        · rcases h67 with rfl | rfl
          · exact rt_tok_11_6 s w ht
          · exact rt_tok_11_7 s w ht
      · rw [if_pos (.inr ⟨by omega, hn⟩)]
        rcases hg with rfl | rfl
        · rcases h67 with rfl | rfl
          · exact rt_tn_10_6 n s w ht hn
          · exact rt_tn_10_7 n s w ht hn
        · rcases h67 with rfl | rfl
          · exact rt_tn_11_6 n s w ht hn
          · exact rt_tn_11_7 n s w ht hn
    · rw [if_pos (.inl ⟨h67, hs⟩)]
      have h6 : k = 0 ∨ k = 1 ∨ k = 2 ∨ k = 3 ∨ k = 4 ∨ k = 5 := by omega
      rcases hg with rfl | rfl
      · rcases h6 with rfl | rfl | rfl | rfl | rfl | rfl
        · exact rt_0s_10_0 n s w ht hs
        · exact rt_junk_10_1 n s w ht hs
        · exact rt_junk_10_2 n s w ht hs
        · exact rt_junk_10_3 n s w ht hs
        · exact rt_junk_10_4 n s w ht hs
        · exact rt_junk_10_5 n s w ht hs
      · rcases h6 with rfl | rfl | rfl | rfl | rfl | rfl
        · exact rt_0s_11_0 n s w ht hs
        · exact rt_junk_11_1 n s w ht hs
        · exact rt_junk_11_2 n s w ht hs
        · exact rt_junk_11_3 n s w ht hs
        · exact rt_junk_11_4 n s w ht hs
        · exact rt_junk_11_5 n s w ht hs
/-- Has a value neither bits nor bytes? -/
def zeroB (v : Va) : Bool := decide (v.k = 0 ∨ (v.n = 0 ∧ v.s.size = 0))
def Bo (b : Bool) (w : World) (e : Ending) (w' : World) : Prop := e = .returned (.bool b) ∧ Below w.heap.size w w'
set_option maxHeartbeats 1000000 in
set_option maxRecDepth 100000 in
theorem zero_0 (g : FuncId) (hg : g = 12 ∨ g = 13) (n : Nat) (s : ByteArray) (w : World) : Calls Tryd.prog g #[(Va.mk 0 n s).val] w (Bo true w) := by
  simp only [Va.val]
  rcases hg with rfl | rfl
  · go_enter Tryd.func12, Tryd.ntmps12
    go_wp2
    go_ret
    exact ⟨rfl, e_alloc _ _⟩
  · go_enter Tryd.func13, Tryd.ntmps13
    go_wp2
    go_ret
    exact ⟨rfl, e_alloc _ _⟩
set_option maxHeartbeats 1000000 in
set_option maxRecDepth 100000 in
theorem zero_n (g : FuncId) (hg : g = 12 ∨ g = 13) (k : Int) (n : Nat) (s : ByteArray) (w : World) (hk : k ≠ 0) (hn : n ≠ 0) : Calls Tryd.prog g #[(Va.mk k n s).val] w (Bo false w) := by
  simp only [Va.val]
  have k0 : (k == 0) = false := by simpa using hk
  have n0 : ((n : Int) == 0) = false := by simpa using hn
  replace hk := Lib.hid hk
  replace hn := Lib.hid hn
  rcases hg with rfl | rfl
  · go_enter Tryd.func12, Tryd.ntmps12
    go_wp2
    go_ret
    exact ⟨rfl, e_alloc _ _⟩
  · go_enter Tryd.func13, Tryd.ntmps13
    go_wp2
    go_ret
    exact ⟨rfl, e_alloc _ _⟩
set_option maxHeartbeats 1000000 in
set_option maxRecDepth 100000 in
theorem zero_s (g : FuncId) (hg : g = 12 ∨ g = 13) (k : Int) (s : ByteArray) (w : World) (hk : k ≠ 0) (hs : s.size ≠ 0) : Calls Tryd.prog g #[(Va.mk k 0 s).val] w (Bo false w) := by
  simp only [Va.val, Int.natCast_zero]
  have k0 : (k == 0) = false := by simpa using hk
  have s0 := vsize1 hs
  replace hk := Lib.hid hk
  replace hs := Lib.hid hs
  rcases hg with rfl | rfl
  · go_enter Tryd.func12, Tryd.ntmps12
    go_wp2
    go_ret
    exact ⟨rfl, e_alloc _ _⟩
  · go_enter Tryd.func13, Tryd.ntmps13
    go_wp2
    go_ret
    exact ⟨rfl, e_alloc _ _⟩
set_option maxHeartbeats 1000000 in
set_option maxRecDepth 100000 in
theorem zero_e (g : FuncId) (hg : g = 12 ∨ g = 13) (k : Int) (w : World) (hk : k ≠ 0) : Calls Tryd.prog g #[(Va.mk k 0 ⟨#[]⟩).val] w (Bo true w) := by
  simp only [Va.val, Int.natCast_zero]
  have k0 : (k == 0) = false := by simpa using hk
  replace hk := Lib.hid hk
  rcases hg with rfl | rfl
  · go_enter Tryd.func12, Tryd.ntmps12
    go_wp2
    go_ret
    exact ⟨rfl, e_alloc _ _⟩
  · go_enter Tryd.func13, Tryd.ntmps13
    go_wp2
    go_ret
    exact ⟨rfl, e_alloc _ _⟩
theorem zero_any (g : FuncId) (hg : g = 12 ∨ g = 13) (v : Va) (w : World) : Calls Tryd.prog g #[v.val] w (Bo (zeroB v) w) := by
  obtain ⟨k, n, s⟩ := v
  unfold zeroB
  simp only
  by_cases hk : k = 0
  · subst hk
    rw [decide_eq_true (.inl rfl)]
    exact zero_0 g hg n s w
  by_cases hn : n = 0
  · subst hn
    by_cases hs : s.size = 0
    · rw [decide_eq_true (.inr ⟨rfl, hs⟩)]
      obtain rfl := vsize0 hs
      exact zero_e g hg k w hk
    · rw [decide_eq_false (by rintro (h | h); exact hk h; exact hs h.2)]
      exact zero_s g hg k s w hk hs
  · rw [decide_eq_false (by rintro (h | h); exact hk h; exact hn h.1)]
    exact zero_n g hg k n s w hk hn
end Go.Proofs.YtoglgdkeknojkaaDoor
