/-
  LAYER 5: Right of both sides, whatever the value.
-/
import Derived.Test.YtoglgdkeknojkaaDoorAa
namespace Go.Proofs.YtoglgdkeknojkaaDoor
open Go.RowKit

theorem great_yes (i : Nat) (hi : i = 1 ∨ i = 2 ∨ i = 3 ∨ i = 4 ∨ i = 5 ∨ i = 6 ∨ i = 7) (n : Nat) (w : World) (h : vmost i < n) (hm : n ≤ 18446744073709551615) : Calls Tryd.prog 21 #[.int .i64 i, .int .u64 (n : Nat)] w fun e w' => e = .returned (.bool true) ∧ w = w' := by
  rcases hi with rfl | rfl | rfl | rfl | rfl | rfl | rfl
  all_goals simp [vmost] at h
  all_goals try omega
  · have hd : decide ((4294967296 : Int) ≤ (n : Int)) = true := decide_eq_true (by omega)
    replace h := Lib.hid h; replace hm := Lib.hid hm
    go_enter Tryd.func21, Tryd.ntmps21
    go_wp2
    go_ret
    exact ⟨rfl, rfl⟩
  · have hd : decide ((4294967296 : Int) ≤ (n : Int)) = true := decide_eq_true (by omega)
    replace h := Lib.hid h; replace hm := Lib.hid hm
    go_enter Tryd.func21, Tryd.ntmps21
    go_wp2
    go_ret
    exact ⟨rfl, rfl⟩
  · have hd : decide ((1 : Int) < (n : Int)) = true := decide_eq_true (by omega)
    replace h := Lib.hid h; replace hm := Lib.hid hm
    go_enter Tryd.func21, Tryd.ntmps21
    go_wp2
    go_ret
    exact ⟨rfl, rfl⟩
set_option maxRecDepth 100000 in
theorem great_no (i : Nat) (hi : i = 1 ∨ i = 2 ∨ i = 3 ∨ i = 4 ∨ i = 5 ∨ i = 6 ∨ i = 7) (n : Nat) (w : World) (h : n ≤ vmost i) : Calls Tryd.prog 21 #[.int .i64 i, .int .u64 (n : Nat)] w fun e w' => e = .returned (.bool false) ∧ w = w' := by
  rcases hi with rfl | rfl | rfl | rfl | rfl | rfl | rfl
  all_goals simp [vmost] at h
  · have hd : decide ((4294967296 : Int) ≤ (n : Int)) = false := decide_eq_false (by omega)
    replace h := Lib.hid h
    go_enter Tryd.func21, Tryd.ntmps21
    go_wp2
    go_ret
    exact ⟨rfl, rfl⟩
  · replace h := Lib.hid h
    go_enter Tryd.func21, Tryd.ntmps21
    go_wp2
    go_ret
    exact ⟨rfl, rfl⟩
  · have hd : decide ((4294967296 : Int) ≤ (n : Int)) = false := decide_eq_false (by omega)
    replace h := Lib.hid h
    go_enter Tryd.func21, Tryd.ntmps21
    go_wp2
    go_ret
    exact ⟨rfl, rfl⟩
  · replace h := Lib.hid h
    go_enter Tryd.func21, Tryd.ntmps21
    go_wp2
    go_ret
    exact ⟨rfl, rfl⟩
  · have hd : decide ((1 : Int) < (n : Int)) = false := decide_eq_false (by omega)
    replace h := Lib.hid h
    go_enter Tryd.func21, Tryd.ntmps21
    go_wp2
    go_ret
    exact ⟨rfl, rfl⟩
  · replace h := Lib.hid h
    go_enter Tryd.func21, Tryd.ntmps21
    go_wp2
    go_ret
    exact ⟨rfl, rfl⟩
  · replace h := Lib.hid h
    go_enter Tryd.func21, Tryd.ntmps21
    go_wp2
    go_ret
    exact ⟨rfl, rfl⟩
set_option maxHeartbeats 1000000 in
set_option maxRecDepth 100000 in
theorem rt_junk_10_1 (n : Nat) (s : ByteArray) (w : World) (ht : Tabs w) (hs : s.size ≠ 0) : Calls Tryd.prog 10 #[(Va.mk 1 n s).val] w (ErV 4 w) := by
  replace hs := vsize1 hs
  simp only [Va.val]
  obtain ⟨t1, t2⟩ := ht.at (.cells #[.int .i64 1, .int .u64 (n : Nat), .string s] 24) 1 (by omega)
  simp only [kindsL, mostL, List.getD_cons_zero, List.getD_cons_succ] at t1 t2
  replace ht := Lib.hid ht
  go_enter Tryd.func10, Tryd.ntmps10
  go_wp2
  go_ret
  exact ⟨rfl, e_alloc _ _⟩
set_option maxHeartbeats 1000000 in
set_option maxRecDepth 100000 in
theorem rt_junk_11_1 (n : Nat) (s : ByteArray) (w : World) (ht : Tabs w) (hs : s.size ≠ 0) : Calls Tryd.prog 11 #[(Va.mk 1 n s).val] w (ErV 4 w) := by
  replace hs := vsize1 hs
  simp only [Va.val]
  replace ht := Lib.hid ht
  go_enter Tryd.func11, Tryd.ntmps11
  go_wp2
  go_ret
  exact ⟨rfl, e_alloc _ _⟩
set_option maxHeartbeats 1000000 in
set_option maxRecDepth 100000 in
theorem rt_junk_10_2 (n : Nat) (s : ByteArray) (w : World) (ht : Tabs w) (hs : s.size ≠ 0) : Calls Tryd.prog 10 #[(Va.mk 2 n s).val] w (ErV 4 w) := by
  replace hs := vsize1 hs
  simp only [Va.val]
  obtain ⟨t1, t2⟩ := ht.at (.cells #[.int .i64 2, .int .u64 (n : Nat), .string s] 24) 2 (by omega)
  simp only [kindsL, mostL, List.getD_cons_zero, List.getD_cons_succ] at t1 t2
  replace ht := Lib.hid ht
  go_enter Tryd.func10, Tryd.ntmps10
  go_wp2
  go_ret
  exact ⟨rfl, e_alloc _ _⟩
set_option maxHeartbeats 1000000 in
set_option maxRecDepth 100000 in
theorem rt_junk_11_2 (n : Nat) (s : ByteArray) (w : World) (ht : Tabs w) (hs : s.size ≠ 0) : Calls Tryd.prog 11 #[(Va.mk 2 n s).val] w (ErV 4 w) := by
  replace hs := vsize1 hs
  simp only [Va.val]
  replace ht := Lib.hid ht
  go_enter Tryd.func11, Tryd.ntmps11
  go_wp2
  go_ret
  exact ⟨rfl, e_alloc _ _⟩
set_option maxHeartbeats 1000000 in
set_option maxRecDepth 100000 in
theorem rt_junk_10_3 (n : Nat) (s : ByteArray) (w : World) (ht : Tabs w) (hs : s.size ≠ 0) : Calls Tryd.prog 10 #[(Va.mk 3 n s).val] w (ErV 4 w) := by
  replace hs := vsize1 hs
  simp only [Va.val]
  obtain ⟨t1, t2⟩ := ht.at (.cells #[.int .i64 3, .int .u64 (n : Nat), .string s] 24) 3 (by omega)
  simp only [kindsL, mostL, List.getD_cons_zero, List.getD_cons_succ] at t1 t2
  replace ht := Lib.hid ht
  go_enter Tryd.func10, Tryd.ntmps10
  go_wp2
  go_ret
  exact ⟨rfl, e_alloc _ _⟩
set_option maxHeartbeats 1000000 in
set_option maxRecDepth 100000 in
theorem rt_junk_11_3 (n : Nat) (s : ByteArray) (w : World) (ht : Tabs w) (hs : s.size ≠ 0) : Calls Tryd.prog 11 #[(Va.mk 3 n s).val] w (ErV 4 w) := by
  replace hs := vsize1 hs
  simp only [Va.val]
  replace ht := Lib.hid ht
  go_enter Tryd.func11, Tryd.ntmps11
  go_wp2
  go_ret
  exact ⟨rfl, e_alloc _ _⟩
set_option maxHeartbeats 1000000 in
set_option maxRecDepth 100000 in
theorem rt_junk_10_4 (n : Nat) (s : ByteArray) (w : World) (ht : Tabs w) (hs : s.size ≠ 0) : Calls Tryd.prog 10 #[(Va.mk 4 n s).val] w (ErV 4 w) := by
  replace hs := vsize1 hs
  simp only [Va.val]
  obtain ⟨t1, t2⟩ := ht.at (.cells #[.int .i64 4, .int .u64 (n : Nat), .string s] 24) 4 (by omega)
  simp only [kindsL, mostL, List.getD_cons_zero, List.getD_cons_succ] at t1 t2
  replace ht := Lib.hid ht
  go_enter Tryd.func10, Tryd.ntmps10
  go_wp2
  go_ret
  exact ⟨rfl, e_alloc _ _⟩
set_option maxHeartbeats 1000000 in
set_option maxRecDepth 100000 in
theorem rt_junk_11_4 (n : Nat) (s : ByteArray) (w : World) (ht : Tabs w) (hs : s.size ≠ 0) : Calls Tryd.prog 11 #[(Va.mk 4 n s).val] w (ErV 4 w) := by
  replace hs := vsize1 hs
  simp only [Va.val]
  replace ht := Lib.hid ht
  go_enter Tryd.func11, Tryd.ntmps11
  go_wp2
  go_ret
  exact ⟨rfl, e_alloc _ _⟩
set_option maxHeartbeats 1000000 in
set_option maxRecDepth 100000 in
theorem rt_junk_10_5 (n : Nat) (s : ByteArray) (w : World) (ht : Tabs w) (hs : s.size ≠ 0) : Calls Tryd.prog 10 #[(Va.mk 5 n s).val] w (ErV 4 w) := by
  replace hs := vsize1 hs
  simp only [Va.val]
  obtain ⟨t1, t2⟩ := ht.at (.cells #[.int .i64 5, .int .u64 (n : Nat), .string s] 24) 5 (by omega)
  simp only [kindsL, mostL, List.getD_cons_zero, List.getD_cons_succ] at t1 t2
  replace ht := Lib.hid ht
  go_enter Tryd.func10, Tryd.ntmps10
  go_wp2
  go_ret
  exact ⟨rfl, e_alloc _ _⟩
set_option maxHeartbeats 1000000 in
set_option maxRecDepth 100000 in
theorem rt_junk_11_5 (n : Nat) (s : ByteArray) (w : World) (ht : Tabs w) (hs : s.size ≠ 0) : Calls Tryd.prog 11 #[(Va.mk 5 n s).val] w (ErV 4 w) := by
  replace hs := vsize1 hs
  simp only [Va.val]
  replace ht := Lib.hid ht
  go_enter Tryd.func11, Tryd.ntmps11
  go_wp2
  go_ret
  exact ⟨rfl, e_alloc _ _⟩
set_option maxHeartbeats 1000000 in
set_option maxRecDepth 100000 in
theorem rt_big_10_1 (n : Nat) (w : World) (ht : Tabs w) (hn : 4294967295 < n) (hm : n ≤ 18446744073709551615) : Calls Tryd.prog 10 #[(Va.mk 1 n ⟨#[]⟩).val] w (ErV 5 w) := by
  have hd : decide (((4294967295 : Int)) < (n : Int)) = true := decide_eq_true (by omega)
  replace hn := Lib.hid hn
  replace hm := Lib.hid hm
  simp only [Va.val]
  obtain ⟨t1, t2⟩ := ht.at (.cells #[.int .i64 1, .int .u64 (n : Nat), .string ⟨#[]⟩] 24) 1 (by omega)
  simp only [kindsL, mostL, List.getD_cons_zero, List.getD_cons_succ] at t1 t2
  replace ht := Lib.hid ht
  go_enter Tryd.func10, Tryd.ntmps10
  go_wp2
  go_quiet (fail)
  go_wp2
  go_ret
  exact ⟨rfl, e_drewN (e_alloc _ _) _⟩
set_option maxHeartbeats 1000000 in
set_option maxRecDepth 100000 in
theorem rt_big_11_1 (n : Nat) (w : World) (ht : Tabs w) (hn : 4294967295 < n) (hm : n ≤ 18446744073709551615) : Calls Tryd.prog 11 #[(Va.mk 1 n ⟨#[]⟩).val] w (ErV 5 w) := by
  have G := Lib.hid (fun w => great_yes 1 (by omega) n w (by simp [vmost]; omega) hm)
  have hd : decide (((4294967295 : Int)) < (n : Int)) = true := decide_eq_true (by omega)
  replace hn := Lib.hid hn
  replace hm := Lib.hid hm
  simp only [Va.val]
  replace ht := Lib.hid ht
  go_enter Tryd.func11, Tryd.ntmps11
  go_wp2_with fail
  refine (G.out _).mono ?_
  rintro e w1 ⟨rfl, rfl⟩
  go_wp2_with fail
  go_ret
  exact ⟨rfl, e_alloc _ _⟩
set_option maxHeartbeats 1000000 in
set_option maxRecDepth 100000 in
theorem rt_big_10_3 (n : Nat) (w : World) (ht : Tabs w) (hn : 4294967295 < n) (hm : n ≤ 18446744073709551615) : Calls Tryd.prog 10 #[(Va.mk 3 n ⟨#[]⟩).val] w (ErV 5 w) := by
  have hd : decide (((4294967295 : Int)) < (n : Int)) = true := decide_eq_true (by omega)
  replace hn := Lib.hid hn
  replace hm := Lib.hid hm
  simp only [Va.val]
  obtain ⟨t1, t2⟩ := ht.at (.cells #[.int .i64 3, .int .u64 (n : Nat), .string ⟨#[]⟩] 24) 3 (by omega)
  simp only [kindsL, mostL, List.getD_cons_zero, List.getD_cons_succ] at t1 t2
  replace ht := Lib.hid ht
  go_enter Tryd.func10, Tryd.ntmps10
  go_wp2
  go_quiet (fail)
  go_wp2
  go_ret
  exact ⟨rfl, e_drewN (e_alloc _ _) _⟩
set_option maxHeartbeats 1000000 in
set_option maxRecDepth 100000 in
theorem rt_big_11_3 (n : Nat) (w : World) (ht : Tabs w) (hn : 4294967295 < n) (hm : n ≤ 18446744073709551615) : Calls Tryd.prog 11 #[(Va.mk 3 n ⟨#[]⟩).val] w (ErV 5 w) := by
  have G := Lib.hid (fun w => great_yes 3 (by omega) n w (by simp [vmost]; omega) hm)
  have hd : decide (((4294967295 : Int)) < (n : Int)) = true := decide_eq_true (by omega)
  replace hn := Lib.hid hn
  replace hm := Lib.hid hm
  simp only [Va.val]
  replace ht := Lib.hid ht
  go_enter Tryd.func11, Tryd.ntmps11
  go_wp2_with fail
  refine (G.out _).mono ?_
  rintro e w1 ⟨rfl, rfl⟩
  go_wp2_with fail
  go_ret
  exact ⟨rfl, e_alloc _ _⟩
set_option maxHeartbeats 1000000 in
set_option maxRecDepth 100000 in
theorem rt_big_10_5 (n : Nat) (w : World) (ht : Tabs w) (hn : 1 < n) (hm : n ≤ 18446744073709551615) : Calls Tryd.prog 10 #[(Va.mk 5 n ⟨#[]⟩).val] w (ErV 5 w) := by
  have hd : decide (((1 : Int)) < (n : Int)) = true := decide_eq_true (by omega)
  replace hn := Lib.hid hn
  replace hm := Lib.hid hm
  simp only [Va.val]
  obtain ⟨t1, t2⟩ := ht.at (.cells #[.int .i64 5, .int .u64 (n : Nat), .string ⟨#[]⟩] 24) 5 (by omega)
  simp only [kindsL, mostL, List.getD_cons_zero, List.getD_cons_succ] at t1 t2
  replace ht := Lib.hid ht
  go_enter Tryd.func10, Tryd.ntmps10
  go_wp2
  go_quiet (fail)
  go_wp2
  go_ret
  exact ⟨rfl, e_drewN (e_alloc _ _) _⟩
set_option maxHeartbeats 1000000 in
set_option maxRecDepth 100000 in
theorem rt_big_11_5 (n : Nat) (w : World) (ht : Tabs w) (hn : 1 < n) (hm : n ≤ 18446744073709551615) : Calls Tryd.prog 11 #[(Va.mk 5 n ⟨#[]⟩).val] w (ErV 5 w) := by
  have G := Lib.hid (fun w => great_yes 5 (by omega) n w (by simp [vmost]; omega) hm)
  have hd : decide (((1 : Int)) < (n : Int)) = true := decide_eq_true (by omega)
  replace hn := Lib.hid hn
  replace hm := Lib.hid hm
  simp only [Va.val]
  replace ht := Lib.hid ht
  go_enter Tryd.func11, Tryd.ntmps11
  go_wp2_with fail
  refine (G.out _).mono ?_
  rintro e w1 ⟨rfl, rfl⟩
  go_wp2_with fail
  go_ret
  exact ⟨rfl, e_alloc _ _⟩
set_option maxHeartbeats 1000000 in
set_option maxRecDepth 100000 in
theorem rt_ok_10_1 (n : Nat) (w : World) (ht : Tabs w) (hn : n ≤ 4294967295) : Calls Tryd.prog 10 #[(Va.mk 1 n ⟨#[]⟩).val] w (ErV 0 w) := by
  have hd : decide (((4294967295 : Int)) < (n : Int)) = false := decide_eq_false (by omega)
  replace hn := Lib.hid hn
  simp only [Va.val]
  obtain ⟨t1, t2⟩ := ht.at (.cells #[.int .i64 1, .int .u64 (n : Nat), .string ⟨#[]⟩] 24) 1 (by omega)
  simp only [kindsL, mostL, List.getD_cons_zero, List.getD_cons_succ] at t1 t2
  replace ht := Lib.hid ht
  go_enter Tryd.func10, Tryd.ntmps10
  go_wp2
  go_quiet (fail)
  go_wp2
  go_ret
  exact ⟨rfl, e_drewN (e_alloc _ _) _⟩
set_option maxHeartbeats 1000000 in
set_option maxRecDepth 100000 in
theorem rt_ok_11_1 (n : Nat) (w : World) (ht : Tabs w) (hn : n ≤ 4294967295) : Calls Tryd.prog 11 #[(Va.mk 1 n ⟨#[]⟩).val] w (ErV 0 w) := by
  have G := Lib.hid (fun w => great_no 1 (by omega) n w (by simp [vmost]; omega))
  have hd : decide (((4294967295 : Int)) < (n : Int)) = false := decide_eq_false (by omega)
  replace hn := Lib.hid hn
  simp only [Va.val]
  replace ht := Lib.hid ht
  go_enter Tryd.func11, Tryd.ntmps11
  go_wp2_with fail
  refine (G.out _).mono ?_
  rintro e w1 ⟨rfl, rfl⟩
  go_wp2_with fail
  go_ret
  exact ⟨rfl, e_alloc _ _⟩
set_option maxHeartbeats 1000000 in
set_option maxRecDepth 100000 in
theorem rt_ok_10_2 (n : Nat) (w : World) (ht : Tabs w) (hn : n ≤ 18446744073709551615) : Calls Tryd.prog 10 #[(Va.mk 2 n ⟨#[]⟩).val] w (ErV 0 w) := by
  have hd : decide (((18446744073709551615 : Int)) < (n : Int)) = false := decide_eq_false (by omega)
  replace hn := Lib.hid hn
  simp only [Va.val]
  obtain ⟨t1, t2⟩ := ht.at (.cells #[.int .i64 2, .int .u64 (n : Nat), .string ⟨#[]⟩] 24) 2 (by omega)
  simp only [kindsL, mostL, List.getD_cons_zero, List.getD_cons_succ] at t1 t2
  replace ht := Lib.hid ht
  go_enter Tryd.func10, Tryd.ntmps10
  go_wp2
  go_quiet (fail)
  go_wp2
  go_ret
  exact ⟨rfl, e_drewN (e_alloc _ _) _⟩
set_option maxHeartbeats 1000000 in
set_option maxRecDepth 100000 in
theorem rt_ok_11_2 (n : Nat) (w : World) (ht : Tabs w) (hn : n ≤ 18446744073709551615) : Calls Tryd.prog 11 #[(Va.mk 2 n ⟨#[]⟩).val] w (ErV 0 w) := by
  have G := Lib.hid (fun w => great_no 2 (by omega) n w (by simp [vmost]; omega))
  have hd : decide (((18446744073709551615 : Int)) < (n : Int)) = false := decide_eq_false (by omega)
  replace hn := Lib.hid hn
  simp only [Va.val]
  replace ht := Lib.hid ht
  go_enter Tryd.func11, Tryd.ntmps11
  go_wp2_with fail
  refine (G.out _).mono ?_
  rintro e w1 ⟨rfl, rfl⟩
  go_wp2_with fail
  go_ret
  exact ⟨rfl, e_alloc _ _⟩
set_option maxHeartbeats 1000000 in
set_option maxRecDepth 100000 in
theorem rt_ok_10_3 (n : Nat) (w : World) (ht : Tabs w) (hn : n ≤ 4294967295) : Calls Tryd.prog 10 #[(Va.mk 3 n ⟨#[]⟩).val] w (ErV 0 w) := by
  have hd : decide (((4294967295 : Int)) < (n : Int)) = false := decide_eq_false (by omega)
  replace hn := Lib.hid hn
  simp only [Va.val]
  obtain ⟨t1, t2⟩ := ht.at (.cells #[.int .i64 3, .int .u64 (n : Nat), .string ⟨#[]⟩] 24) 3 (by omega)
  simp only [kindsL, mostL, List.getD_cons_zero, List.getD_cons_succ] at t1 t2
  replace ht := Lib.hid ht
  go_enter Tryd.func10, Tryd.ntmps10
  go_wp2
  go_quiet (fail)
  go_wp2
  go_ret
  exact ⟨rfl, e_drewN (e_alloc _ _) _⟩
set_option maxHeartbeats 1000000 in
set_option maxRecDepth 100000 in
theorem rt_ok_11_3 (n : Nat) (w : World) (ht : Tabs w) (hn : n ≤ 4294967295) : Calls Tryd.prog 11 #[(Va.mk 3 n ⟨#[]⟩).val] w (ErV 0 w) := by
  have G := Lib.hid (fun w => great_no 3 (by omega) n w (by simp [vmost]; omega))
  have hd : decide (((4294967295 : Int)) < (n : Int)) = false := decide_eq_false (by omega)
  replace hn := Lib.hid hn
  simp only [Va.val]
  replace ht := Lib.hid ht
  go_enter Tryd.func11, Tryd.ntmps11
  go_wp2_with fail
  refine (G.out _).mono ?_
  rintro e w1 ⟨rfl, rfl⟩
  go_wp2_with fail
  go_ret
  exact ⟨rfl, e_alloc _ _⟩
set_option maxHeartbeats 1000000 in
set_option maxRecDepth 100000 in
theorem rt_ok_10_4 (n : Nat) (w : World) (ht : Tabs w) (hn : n ≤ 18446744073709551615) : Calls Tryd.prog 10 #[(Va.mk 4 n ⟨#[]⟩).val] w (ErV 0 w) := by
  have hd : decide (((18446744073709551615 : Int)) < (n : Int)) = false := decide_eq_false (by omega)
  replace hn := Lib.hid hn
  simp only [Va.val]
  obtain ⟨t1, t2⟩ := ht.at (.cells #[.int .i64 4, .int .u64 (n : Nat), .string ⟨#[]⟩] 24) 4 (by omega)
  simp only [kindsL, mostL, List.getD_cons_zero, List.getD_cons_succ] at t1 t2
  replace ht := Lib.hid ht
  go_enter Tryd.func10, Tryd.ntmps10
  go_wp2
  go_quiet (fail)
  go_wp2
  go_ret
  exact ⟨rfl, e_drewN (e_alloc _ _) _⟩
set_option maxHeartbeats 1000000 in
set_option maxRecDepth 100000 in
theorem rt_ok_11_4 (n : Nat) (w : World) (ht : Tabs w) (hn : n ≤ 18446744073709551615) : Calls Tryd.prog 11 #[(Va.mk 4 n ⟨#[]⟩).val] w (ErV 0 w) := by
  have G := Lib.hid (fun w => great_no 4 (by omega) n w (by simp [vmost]; omega))
  have hd : decide (((18446744073709551615 : Int)) < (n : Int)) = false := decide_eq_false (by omega)
  replace hn := Lib.hid hn
  simp only [Va.val]
  replace ht := Lib.hid ht
  go_enter Tryd.func11, Tryd.ntmps11
  go_wp2_with fail
  refine (G.out _).mono ?_
  rintro e w1 ⟨rfl, rfl⟩
  go_wp2_with fail
  go_ret
  exact ⟨rfl, e_alloc _ _⟩
set_option maxHeartbeats 1000000 in
set_option maxRecDepth 100000 in
theorem rt_ok_10_5 (n : Nat) (w : World) (ht : Tabs w) (hn : n ≤ 1) : Calls Tryd.prog 10 #[(Va.mk 5 n ⟨#[]⟩).val] w (ErV 0 w) := by
  have hd : decide (((1 : Int)) < (n : Int)) = false := decide_eq_false (by omega)
  replace hn := Lib.hid hn
  simp only [Va.val]
  obtain ⟨t1, t2⟩ := ht.at (.cells #[.int .i64 5, .int .u64 (n : Nat), .string ⟨#[]⟩] 24) 5 (by omega)
  simp only [kindsL, mostL, List.getD_cons_zero, List.getD_cons_succ] at t1 t2
  replace ht := Lib.hid ht
  go_enter Tryd.func10, Tryd.ntmps10
  go_wp2
  go_quiet (fail)
  go_wp2
  go_ret
  exact ⟨rfl, e_drewN (e_alloc _ _) _⟩
set_option maxHeartbeats 1000000 in
set_option maxRecDepth 100000 in
theorem rt_ok_11_5 (n : Nat) (w : World) (ht : Tabs w) (hn : n ≤ 1) : Calls Tryd.prog 11 #[(Va.mk 5 n ⟨#[]⟩).val] w (ErV 0 w) := by
  have G := Lib.hid (fun w => great_no 5 (by omega) n w (by simp [vmost]; omega))
  have hd : decide (((1 : Int)) < (n : Int)) = false := decide_eq_false (by omega)
  replace hn := Lib.hid hn
  simp only [Va.val]
  replace ht := Lib.hid ht
  go_enter Tryd.func11, Tryd.ntmps11
  go_wp2_with fail
  refine (G.out _).mono ?_
  rintro e w1 ⟨rfl, rfl⟩
  go_wp2_with fail
  go_ret
  exact ⟨rfl, e_alloc _ _⟩
set_option maxHeartbeats 1000000 in
set_option maxRecDepth 100000 in
theorem rt_tn_10_6 (n : Nat) (s : ByteArray) (w : World) (ht : Tabs w) (hn : n ≠ 0) : Calls Tryd.prog 10 #[(Va.mk 6 n s).val] w (ErV 4 w) := by
  have hd : ((n : Int) != 0) = true := by simpa using hn
  replace hn := Lib.hid hn
  simp only [Va.val]
  obtain ⟨t1, t2⟩ := ht.at (.cells #[.int .i64 6, .int .u64 (n : Nat), .string s] 24) 6 (by omega)
  simp only [kindsL, mostL, List.getD_cons_zero, List.getD_cons_succ] at t1 t2
  replace ht := Lib.hid ht
  go_enter Tryd.func10, Tryd.ntmps10
  go_wp2
  go_ret
  exact ⟨rfl, e_alloc _ _⟩
set_option maxHeartbeats 1000000 in
set_option maxRecDepth 100000 in
theorem rt_tn_11_6 (n : Nat) (s : ByteArray) (w : World) (ht : Tabs w) (hn : n ≠ 0) : Calls Tryd.prog 11 #[(Va.mk 6 n s).val] w (ErV 4 w) := by
  have hd : ((n : Int) != 0) = true := by simpa using hn
  replace hn := Lib.hid hn
  simp only [Va.val]
  replace ht := Lib.hid ht
  go_enter Tryd.func11, Tryd.ntmps11
  go_wp2
  go_ret
  exact ⟨rfl, e_alloc _ _⟩
set_option maxHeartbeats 1000000 in
set_option maxRecDepth 100000 in
theorem rt_tok_10_6 (s : ByteArray) (w : World) (ht : Tabs w)  : Calls Tryd.prog 10 #[(Va.mk 6 0 s).val] w (ErV 0 w) := by
  have hd : decide (((18446744073709551615 : Int)) < 0) = false := by decide
  simp only [Va.val, Int.natCast_zero]
  obtain ⟨t1, t2⟩ := ht.at (.cells #[.int .i64 6, .int .u64 0, .string s] 24) 6 (by omega)
  simp only [kindsL, mostL, List.getD_cons_zero, List.getD_cons_succ] at t1 t2
  replace ht := Lib.hid ht
  go_enter Tryd.func10, Tryd.ntmps10
  go_wp2
  go_quiet (fail)
  go_wp2
  go_ret
  exact ⟨rfl, e_drewN (e_alloc _ _) _⟩
set_option maxHeartbeats 1000000 in
set_option maxRecDepth 100000 in
theorem rt_tok_11_6 (s : ByteArray) (w : World) (ht : Tabs w)  : Calls Tryd.prog 11 #[(Va.mk 6 0 s).val] w (ErV 0 w) := by
  have G := Lib.hid (fun w => great_no 6 (by omega) 0 w (by simp [vmost]))
  have hd : decide (((18446744073709551615 : Int)) < 0) = false := by decide
  simp only [Va.val, Int.natCast_zero]
  replace ht := Lib.hid ht
  go_enter Tryd.func11, Tryd.ntmps11
  go_wp2_with fail
  refine (G.out _).mono ?_
  rintro e w1 ⟨rfl, rfl⟩
  go_wp2_with fail
  go_ret
  exact ⟨rfl, e_alloc _ _⟩
set_option maxHeartbeats 1000000 in
set_option maxRecDepth 100000 in
theorem rt_tn_10_7 (n : Nat) (s : ByteArray) (w : World) (ht : Tabs w) (hn : n ≠ 0) : Calls Tryd.prog 10 #[(Va.mk 7 n s).val] w (ErV 4 w) := by
  have hd : ((n : Int) != 0) = true := by simpa using hn
  replace hn := Lib.hid hn
  simp only [Va.val]
  obtain ⟨t1, t2⟩ := ht.at (.cells #[.int .i64 7, .int .u64 (n : Nat), .string s] 24) 7 (by omega)
  simp only [kindsL, mostL, List.getD_cons_zero, List.getD_cons_succ] at t1 t2
  replace ht := Lib.hid ht
  go_enter Tryd.func10, Tryd.ntmps10
  go_wp2
  go_ret
  exact ⟨rfl, e_alloc _ _⟩
set_option maxHeartbeats 1000000 in
set_option maxRecDepth 100000 in
theorem rt_tn_11_7 (n : Nat) (s : ByteArray) (w : World) (ht : Tabs w) (hn : n ≠ 0) : Calls Tryd.prog 11 #[(Va.mk 7 n s).val] w (ErV 4 w) := by
  have hd : ((n : Int) != 0) = true := by simpa using hn
  replace hn := Lib.hid hn
  simp only [Va.val]
  replace ht := Lib.hid ht
  go_enter Tryd.func11, Tryd.ntmps11
  go_wp2
  go_ret
  exact ⟨rfl, e_alloc _ _⟩
set_option maxHeartbeats 1000000 in
set_option maxRecDepth 100000 in
theorem rt_tok_10_7 (s : ByteArray) (w : World) (ht : Tabs w)  : Calls Tryd.prog 10 #[(Va.mk 7 0 s).val] w (ErV 0 w) := by
  have hd : decide (((18446744073709551615 : Int)) < 0) = false := by decide
  simp only [Va.val, Int.natCast_zero]
  obtain ⟨t1, t2⟩ := ht.at (.cells #[.int .i64 7, .int .u64 0, .string s] 24) 7 (by omega)
  simp only [kindsL, mostL, List.getD_cons_zero, List.getD_cons_succ] at t1 t2
  replace ht := Lib.hid ht
  go_enter Tryd.func10, Tryd.ntmps10
  go_wp2
  go_quiet (fail)
  go_wp2
  go_ret
  exact ⟨rfl, e_drewN (e_alloc _ _) _⟩
set_option maxHeartbeats 1000000 in
set_option maxRecDepth 100000 in
theorem rt_tok_11_7 (s : ByteArray) (w : World) (ht : Tabs w)  : Calls Tryd.prog 11 #[(Va.mk 7 0 s).val] w (ErV 0 w) := by
  have G := Lib.hid (fun w => great_no 7 (by omega) 0 w (by simp [vmost]))
  have hd : decide (((18446744073709551615 : Int)) < 0) = false := by decide
  simp only [Va.val, Int.natCast_zero]
  replace ht := Lib.hid ht
  go_enter Tryd.func11, Tryd.ntmps11
  go_wp2_with fail
  refine (G.out _).mono ?_
  rintro e w1 ⟨rfl, rfl⟩
  go_wp2_with fail
  go_ret
  exact ⟨rfl, e_alloc _ _⟩
set_option maxHeartbeats 1000000 in
set_option maxRecDepth 100000 in
theorem rt_0s_10_0 (n : Nat) (s : ByteArray) (w : World) (ht : Tabs w) (hs : s.size ≠ 0) : Calls Tryd.prog 10 #[(Va.mk 0 n s).val] w (ErV 4 w) := by
  replace hs := vsize1 hs
  simp only [Va.val]
  obtain ⟨t1, t2⟩ := ht.at (.cells #[.int .i64 0, .int .u64 (n : Nat), .string s] 24) 0 (by omega)
  simp only [kindsL, mostL, List.getD_cons_zero, List.getD_cons_succ] at t1 t2
  replace ht := Lib.hid ht
  go_enter Tryd.func10, Tryd.ntmps10
  go_wp2
  go_ret
  exact ⟨rfl, e_alloc _ _⟩
set_option maxHeartbeats 1000000 in
set_option maxRecDepth 100000 in
theorem rt_0s_11_0 (n : Nat) (s : ByteArray) (w : World) (ht : Tabs w) (hs : s.size ≠ 0) : Calls Tryd.prog 11 #[(Va.mk 0 n s).val] w (ErV 4 w) := by
  replace hs := vsize1 hs
  simp only [Va.val]
  replace ht := Lib.hid ht
  go_enter Tryd.func11, Tryd.ntmps11
  go_wp2
  go_ret
  exact ⟨rfl, e_alloc _ _⟩
set_option maxHeartbeats 1000000 in
set_option maxRecDepth 100000 in
theorem rt_0n_10_0 (n : Nat) (w : World) (ht : Tabs w) (hn : n ≠ 0) : Calls Tryd.prog 10 #[(Va.mk 0 n ⟨#[]⟩).val] w (ErV 4 w) := by
  have hd : ((n : Int) != 0) = true := by simpa using hn
  replace hn := Lib.hid hn
  simp only [Va.val]
  obtain ⟨t1, t2⟩ := ht.at (.cells #[.int .i64 0, .int .u64 (n : Nat), .string ⟨#[]⟩] 24) 0 (by omega)
  simp only [kindsL, mostL, List.getD_cons_zero, List.getD_cons_succ] at t1 t2
  replace ht := Lib.hid ht
  go_enter Tryd.func10, Tryd.ntmps10
  go_wp2
  go_ret
  exact ⟨rfl, e_alloc _ _⟩
set_option maxHeartbeats 1000000 in
set_option maxRecDepth 100000 in
theorem rt_0n_11_0 (n : Nat) (w : World) (ht : Tabs w) (hn : n ≠ 0) : Calls Tryd.prog 11 #[(Va.mk 0 n ⟨#[]⟩).val] w (ErV 4 w) := by
  have hd : ((n : Int) != 0) = true := by simpa using hn
  replace hn := Lib.hid hn
  simp only [Va.val]
  replace ht := Lib.hid ht
  go_enter Tryd.func11, Tryd.ntmps11
  go_wp2
  go_ret
  exact ⟨rfl, e_alloc _ _⟩
end Go.Proofs.YtoglgdkeknojkaaDoor
