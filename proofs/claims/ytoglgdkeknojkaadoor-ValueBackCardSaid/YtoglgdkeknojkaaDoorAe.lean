/-
  LAYER 5: Put's field, of both sides.
-/
import Derived.Test.YtoglgdkeknojkaaDoorAd
namespace Go.Proofs.YtoglgdkeknojkaaDoor
open Go.RowKit

/-- The field of a value. -/
def vfd (v : Va) (b : Int) : Fd := ⟨b + v.k - 1, vkind v.k, v.n, v.s⟩
set_option maxHeartbeats 1000000 in
set_option maxRecDepth 100000 in
theorem put_7_1 (n : Nat) (s : ByteArray) (b : Int) (raw : Bool) (w : World) (ht : Tabs w) (hm : n ≤ 18446744073709551615) (h1 : 1 ≤ b) (h2 : b ≤ 1000) (hE : rightE (Va.mk 1 n s) = 0) :
    Calls Tryd.prog 7 #[(Va.mk 1 n s).val, .int .i64 b, .bool raw] w (PutF 0 [vfd (Va.mk 1 n s) b] w) := by
  have G := Lib.hid (fun w => base_yes b w h1 h2)
  have R := Lib.hid (fun w ht => right_any 10 (.inl rfl) (Va.mk 1 n s) w ht hm)
  rw [hE] at R
  replace hE := Lib.hid hE
  replace hm := Lib.hid hm
  have ht1 := Lib.hid (ht.keep (e_alloc w (.cells #[.int .i64 1, .int .u64 (n : Nat), .string s] 24)))
  replace ht := Lib.hid ht
  have hv : (vfd (Va.mk 1 n s) b).cells = [.int .i64 (b + 1 - 1), .int .i64 0, .int .u64 (n : Nat), .string s] := rfl
  have hl := fun w => vfds_lit w (vfd (Va.mk 1 n s) b)
  rw [hv] at hl
  clear hv
  generalize vfd (Va.mk 1 n s) b = f at *
  simp only [Va.val] at R ⊢
  go_enter Tryd.func7, Tryd.ntmps7
  go_wp2_with fail
  refine (G.out _).mono ?_
  rintro e w1 ⟨rfl, rfl⟩
  go_wp2_with fail
  refine (R.out _ ht1.out).mono ?_
  rintro e w1 ⟨rfl, hb⟩
  obtain ⟨c0, c1, c2⟩ := box3 hb
  obtain ⟨t1, -⟩ := ht1.out.keep hb
  have u := t1 1 (by decide)
  replace t1 := Lib.hid t1
  replace hb := Lib.hid hb
  simp only [kindsL, List.getD_cons_zero, List.getD_cons_succ] at u
  have s1 := IntWalk.i64_in (b + 1) (by omega)
  have s2 := IntWalk.i64_in (b + 1 - 1) (by omega)
  rw [Int.add_sub_cancel] at s2 hl
  replace hl := Lib.hid hl
  go_wp2_with fail
  go_still_tail 14, (by kernel_rfl)
  go_wp2_with fail
  go_ret2
  exact ⟨_, _, _, rfl, hl.out _, ext_trans (e_alloc _ _) (ext_trans hb.out ((e_drewN (Below.refl _ _) _).trans ((e_alloc _ _).mono (Nat.le_refl _))))⟩
set_option maxHeartbeats 1000000 in
set_option maxRecDepth 100000 in
theorem put_8_1 (n : Nat) (s : ByteArray) (b : Int) (raw : Bool) (w : World) (ht : Tabs w) (hm : n ≤ 18446744073709551615) (h1 : 1 ≤ b) (h2 : b ≤ 1000) (hE : rightE (Va.mk 1 n s) = 0) :
    Calls Tryd.prog 8 #[(Va.mk 1 n s).val, .int .i64 b, .bool raw] w (PutF 0 [vfd (Va.mk 1 n s) b] w) := by
  have G := Lib.hid (fun w => base_yes b w h1 h2)
  have R := Lib.hid (fun w ht => right_any 11 (.inr rfl) (Va.mk 1 n s) w ht hm)
  rw [hE] at R
  replace hE := Lib.hid hE
  replace hm := Lib.hid hm
  have ht1 := Lib.hid (ht.keep (e_alloc w (.cells #[.int .i64 1, .int .u64 (n : Nat), .string s] 24)))
  replace ht := Lib.hid ht
  have hv : (vfd (Va.mk 1 n s) b).cells = [.int .i64 (b + 1 - 1), .int .i64 0, .int .u64 (n : Nat), .string s] := rfl
  have hl := fun w => vfds_lit w (vfd (Va.mk 1 n s) b)
  rw [hv] at hl
  clear hv
  generalize vfd (Va.mk 1 n s) b = f at *
  simp only [Va.val] at R ⊢
  clear G
  have G := Lib.hid (fun w => kind_20 1 (by omega) w)
  rw [show vkind 1 = 0 from rfl] at G
  go_enter Tryd.func8, Tryd.ntmps8
  go_wp2_with fail
  refine (R.out _ ht1.out).mono ?_
  rintro e w1 ⟨rfl, hb⟩
  obtain ⟨c0, c1, c2⟩ := box3 hb
  replace hb := Lib.hid hb
  have s1 := IntWalk.i64_in (b + 1) (by omega)
  have s2 := IntWalk.i64_in (b + 1 - 1) (by omega)
  rw [Int.add_sub_cancel] at s2 hl
  replace hl := Lib.hid hl
  go_wp2_with fail
  go_still_tail 13, (by kernel_rfl)
  still_call ((G.out _).mono fun _ _ h => ⟨h.1, h.2.symm⟩)
  repeat still_step
  refine wpStill_nil ?_
  change wpList _ _ _ _ _ w1.drew
  have hb4 := Lib.hid (hb.out.trans ((ext_drew w1).mono hb.out.size))
  generalize w1.drew = w4 at *
  go_wp2_with fail
  go_ret2
  exact ⟨_, _, _, rfl, hl.out _, ext_trans (e_alloc _ _) (hb4.out.alloc hb4.out.size _)⟩
set_option maxHeartbeats 1000000 in
set_option maxRecDepth 100000 in
theorem put_7_2 (n : Nat) (s : ByteArray) (b : Int) (raw : Bool) (w : World) (ht : Tabs w) (hm : n ≤ 18446744073709551615) (h1 : 1 ≤ b) (h2 : b ≤ 1000) (hE : rightE (Va.mk 2 n s) = 0) :
    Calls Tryd.prog 7 #[(Va.mk 2 n s).val, .int .i64 b, .bool raw] w (PutF 0 [vfd (Va.mk 2 n s) b] w) := by
  have G := Lib.hid (fun w => base_yes b w h1 h2)
  have R := Lib.hid (fun w ht => right_any 10 (.inl rfl) (Va.mk 2 n s) w ht hm)
  rw [hE] at R
  replace hE := Lib.hid hE
  replace hm := Lib.hid hm
  have ht1 := Lib.hid (ht.keep (e_alloc w (.cells #[.int .i64 2, .int .u64 (n : Nat), .string s] 24)))
  replace ht := Lib.hid ht
  have hv : (vfd (Va.mk 2 n s) b).cells = [.int .i64 (b + 2 - 1), .int .i64 0, .int .u64 (n : Nat), .string s] := rfl
  have hl := fun w => vfds_lit w (vfd (Va.mk 2 n s) b)
  rw [hv] at hl
  clear hv
  generalize vfd (Va.mk 2 n s) b = f at *
  simp only [Va.val] at R ⊢
  go_enter Tryd.func7, Tryd.ntmps7
  go_wp2_with fail
  refine (G.out _).mono ?_
  rintro e w1 ⟨rfl, rfl⟩
  go_wp2_with fail
  refine (R.out _ ht1.out).mono ?_
  rintro e w1 ⟨rfl, hb⟩
  obtain ⟨c0, c1, c2⟩ := box3 hb
  obtain ⟨t1, -⟩ := ht1.out.keep hb
  have u := t1 2 (by decide)
  replace t1 := Lib.hid t1
  replace hb := Lib.hid hb
  simp only [kindsL, List.getD_cons_zero, List.getD_cons_succ] at u
  have s1 := IntWalk.i64_in (b + 2) (by omega)
  have s2 := IntWalk.i64_in (b + 2 - 1) (by omega)
  replace hl := Lib.hid hl
  go_wp2_with fail
  go_still_tail 14, (by kernel_rfl)
  go_wp2_with fail
  go_ret2
  exact ⟨_, _, _, rfl, hl.out _, ext_trans (e_alloc _ _) (ext_trans hb.out ((e_drewN (Below.refl _ _) _).trans ((e_alloc _ _).mono (Nat.le_refl _))))⟩
set_option maxHeartbeats 1000000 in
set_option maxRecDepth 100000 in
theorem put_8_2 (n : Nat) (s : ByteArray) (b : Int) (raw : Bool) (w : World) (ht : Tabs w) (hm : n ≤ 18446744073709551615) (h1 : 1 ≤ b) (h2 : b ≤ 1000) (hE : rightE (Va.mk 2 n s) = 0) :
    Calls Tryd.prog 8 #[(Va.mk 2 n s).val, .int .i64 b, .bool raw] w (PutF 0 [vfd (Va.mk 2 n s) b] w) := by
  have G := Lib.hid (fun w => base_yes b w h1 h2)
  have R := Lib.hid (fun w ht => right_any 11 (.inr rfl) (Va.mk 2 n s) w ht hm)
  rw [hE] at R
  replace hE := Lib.hid hE
  replace hm := Lib.hid hm
  have ht1 := Lib.hid (ht.keep (e_alloc w (.cells #[.int .i64 2, .int .u64 (n : Nat), .string s] 24)))
  replace ht := Lib.hid ht
  have hv : (vfd (Va.mk 2 n s) b).cells = [.int .i64 (b + 2 - 1), .int .i64 0, .int .u64 (n : Nat), .string s] := rfl
  have hl := fun w => vfds_lit w (vfd (Va.mk 2 n s) b)
  rw [hv] at hl
  clear hv
  generalize vfd (Va.mk 2 n s) b = f at *
  simp only [Va.val] at R ⊢
  clear G
  have G := Lib.hid (fun w => kind_20 2 (by omega) w)
  rw [show vkind 2 = 0 from rfl] at G
  go_enter Tryd.func8, Tryd.ntmps8
  go_wp2_with fail
  refine (R.out _ ht1.out).mono ?_
  rintro e w1 ⟨rfl, hb⟩
  obtain ⟨c0, c1, c2⟩ := box3 hb
  replace hb := Lib.hid hb
  have s1 := IntWalk.i64_in (b + 2) (by omega)
  have s2 := IntWalk.i64_in (b + 2 - 1) (by omega)
  replace hl := Lib.hid hl
  go_wp2_with fail
  go_still_tail 13, (by kernel_rfl)
  still_call ((G.out _).mono fun _ _ h => ⟨h.1, h.2.symm⟩)
  repeat still_step
  refine wpStill_nil ?_
  change wpList _ _ _ _ _ w1.drew
  have hb4 := Lib.hid (hb.out.trans ((ext_drew w1).mono hb.out.size))
  generalize w1.drew = w4 at *
  go_wp2_with fail
  go_ret2
  exact ⟨_, _, _, rfl, hl.out _, ext_trans (e_alloc _ _) (hb4.out.alloc hb4.out.size _)⟩
set_option maxHeartbeats 1000000 in
set_option maxRecDepth 100000 in
theorem put_7_3 (n : Nat) (s : ByteArray) (b : Int) (raw : Bool) (w : World) (ht : Tabs w) (hm : n ≤ 18446744073709551615) (h1 : 1 ≤ b) (h2 : b ≤ 1000) (hE : rightE (Va.mk 3 n s) = 0) :
    Calls Tryd.prog 7 #[(Va.mk 3 n s).val, .int .i64 b, .bool raw] w (PutF 0 [vfd (Va.mk 3 n s) b] w) := by
  have G := Lib.hid (fun w => base_yes b w h1 h2)
  have R := Lib.hid (fun w ht => right_any 10 (.inl rfl) (Va.mk 3 n s) w ht hm)
  rw [hE] at R
  replace hE := Lib.hid hE
  replace hm := Lib.hid hm
  have ht1 := Lib.hid (ht.keep (e_alloc w (.cells #[.int .i64 3, .int .u64 (n : Nat), .string s] 24)))
  replace ht := Lib.hid ht
  have hv : (vfd (Va.mk 3 n s) b).cells = [.int .i64 (b + 3 - 1), .int .i64 5, .int .u64 (n : Nat), .string s] := rfl
  have hl := fun w => vfds_lit w (vfd (Va.mk 3 n s) b)
  rw [hv] at hl
  clear hv
  generalize vfd (Va.mk 3 n s) b = f at *
  simp only [Va.val] at R ⊢
  go_enter Tryd.func7, Tryd.ntmps7
  go_wp2_with fail
  refine (G.out _).mono ?_
  rintro e w1 ⟨rfl, rfl⟩
  go_wp2_with fail
  refine (R.out _ ht1.out).mono ?_
  rintro e w1 ⟨rfl, hb⟩
  obtain ⟨c0, c1, c2⟩ := box3 hb
  obtain ⟨t1, -⟩ := ht1.out.keep hb
  have u := t1 3 (by decide)
  replace t1 := Lib.hid t1
  replace hb := Lib.hid hb
  simp only [kindsL, List.getD_cons_zero, List.getD_cons_succ] at u
  have s1 := IntWalk.i64_in (b + 3) (by omega)
  have s2 := IntWalk.i64_in (b + 3 - 1) (by omega)
  replace hl := Lib.hid hl
  go_wp2_with fail
  go_still_tail 14, (by kernel_rfl)
  go_wp2_with fail
  go_ret2
  exact ⟨_, _, _, rfl, hl.out _, ext_trans (e_alloc _ _) (ext_trans hb.out ((e_drewN (Below.refl _ _) _).trans ((e_alloc _ _).mono (Nat.le_refl _))))⟩
set_option maxHeartbeats 1000000 in
set_option maxRecDepth 100000 in
theorem put_8_3 (n : Nat) (s : ByteArray) (b : Int) (raw : Bool) (w : World) (ht : Tabs w) (hm : n ≤ 18446744073709551615) (h1 : 1 ≤ b) (h2 : b ≤ 1000) (hE : rightE (Va.mk 3 n s) = 0) :
    Calls Tryd.prog 8 #[(Va.mk 3 n s).val, .int .i64 b, .bool raw] w (PutF 0 [vfd (Va.mk 3 n s) b] w) := by
  have G := Lib.hid (fun w => base_yes b w h1 h2)
  have R := Lib.hid (fun w ht => right_any 11 (.inr rfl) (Va.mk 3 n s) w ht hm)
  rw [hE] at R
  replace hE := Lib.hid hE
  replace hm := Lib.hid hm
  have ht1 := Lib.hid (ht.keep (e_alloc w (.cells #[.int .i64 3, .int .u64 (n : Nat), .string s] 24)))
  replace ht := Lib.hid ht
  have hv : (vfd (Va.mk 3 n s) b).cells = [.int .i64 (b + 3 - 1), .int .i64 5, .int .u64 (n : Nat), .string s] := rfl
  have hl := fun w => vfds_lit w (vfd (Va.mk 3 n s) b)
  rw [hv] at hl
  clear hv
  generalize vfd (Va.mk 3 n s) b = f at *
  simp only [Va.val] at R ⊢
  clear G
  have G := Lib.hid (fun w => kind_20 3 (by omega) w)
  rw [show vkind 3 = 5 from rfl] at G
  go_enter Tryd.func8, Tryd.ntmps8
  go_wp2_with fail
  refine (R.out _ ht1.out).mono ?_
  rintro e w1 ⟨rfl, hb⟩
  obtain ⟨c0, c1, c2⟩ := box3 hb
  replace hb := Lib.hid hb
  have s1 := IntWalk.i64_in (b + 3) (by omega)
  have s2 := IntWalk.i64_in (b + 3 - 1) (by omega)
  replace hl := Lib.hid hl
  go_wp2_with fail
  go_still_tail 13, (by kernel_rfl)
  still_call ((G.out _).mono fun _ _ h => ⟨h.1, h.2.symm⟩)
  repeat still_step
  refine wpStill_nil ?_
  change wpList _ _ _ _ _ w1.drew
  have hb4 := Lib.hid (hb.out.trans ((ext_drew w1).mono hb.out.size))
  generalize w1.drew = w4 at *
  go_wp2_with fail
  go_ret2
  exact ⟨_, _, _, rfl, hl.out _, ext_trans (e_alloc _ _) (hb4.out.alloc hb4.out.size _)⟩
set_option maxHeartbeats 1000000 in
set_option maxRecDepth 100000 in
theorem put_7_4 (n : Nat) (s : ByteArray) (b : Int) (raw : Bool) (w : World) (ht : Tabs w) (hm : n ≤ 18446744073709551615) (h1 : 1 ≤ b) (h2 : b ≤ 1000) (hE : rightE (Va.mk 4 n s) = 0) :
    Calls Tryd.prog 7 #[(Va.mk 4 n s).val, .int .i64 b, .bool raw] w (PutF 0 [vfd (Va.mk 4 n s) b] w) := by
  have G := Lib.hid (fun w => base_yes b w h1 h2)
  have R := Lib.hid (fun w ht => right_any 10 (.inl rfl) (Va.mk 4 n s) w ht hm)
  rw [hE] at R
  replace hE := Lib.hid hE
  replace hm := Lib.hid hm
  have ht1 := Lib.hid (ht.keep (e_alloc w (.cells #[.int .i64 4, .int .u64 (n : Nat), .string s] 24)))
  replace ht := Lib.hid ht
  have hv : (vfd (Va.mk 4 n s) b).cells = [.int .i64 (b + 4 - 1), .int .i64 1, .int .u64 (n : Nat), .string s] := rfl
  have hl := fun w => vfds_lit w (vfd (Va.mk 4 n s) b)
  rw [hv] at hl
  clear hv
  generalize vfd (Va.mk 4 n s) b = f at *
  simp only [Va.val] at R ⊢
  go_enter Tryd.func7, Tryd.ntmps7
  go_wp2_with fail
  refine (G.out _).mono ?_
  rintro e w1 ⟨rfl, rfl⟩
  go_wp2_with fail
  refine (R.out _ ht1.out).mono ?_
  rintro e w1 ⟨rfl, hb⟩
  obtain ⟨c0, c1, c2⟩ := box3 hb
  obtain ⟨t1, -⟩ := ht1.out.keep hb
  have u := t1 4 (by decide)
  replace t1 := Lib.hid t1
  replace hb := Lib.hid hb
  simp only [kindsL, List.getD_cons_zero, List.getD_cons_succ] at u
  have s1 := IntWalk.i64_in (b + 4) (by omega)
  have s2 := IntWalk.i64_in (b + 4 - 1) (by omega)
  replace hl := Lib.hid hl
  go_wp2_with fail
  go_still_tail 14, (by kernel_rfl)
  go_wp2_with fail
  go_ret2
  exact ⟨_, _, _, rfl, hl.out _, ext_trans (e_alloc _ _) (ext_trans hb.out ((e_drewN (Below.refl _ _) _).trans ((e_alloc _ _).mono (Nat.le_refl _))))⟩
set_option maxHeartbeats 1000000 in
set_option maxRecDepth 100000 in
theorem put_8_4 (n : Nat) (s : ByteArray) (b : Int) (raw : Bool) (w : World) (ht : Tabs w) (hm : n ≤ 18446744073709551615) (h1 : 1 ≤ b) (h2 : b ≤ 1000) (hE : rightE (Va.mk 4 n s) = 0) :
    Calls Tryd.prog 8 #[(Va.mk 4 n s).val, .int .i64 b, .bool raw] w (PutF 0 [vfd (Va.mk 4 n s) b] w) := by
  have G := Lib.hid (fun w => base_yes b w h1 h2)
  have R := Lib.hid (fun w ht => right_any 11 (.inr rfl) (Va.mk 4 n s) w ht hm)
  rw [hE] at R
  replace hE := Lib.hid hE
  replace hm := Lib.hid hm
  have ht1 := Lib.hid (ht.keep (e_alloc w (.cells #[.int .i64 4, .int .u64 (n : Nat), .string s] 24)))
  replace ht := Lib.hid ht
  have hv : (vfd (Va.mk 4 n s) b).cells = [.int .i64 (b + 4 - 1), .int .i64 1, .int .u64 (n : Nat), .string s] := rfl
  have hl := fun w => vfds_lit w (vfd (Va.mk 4 n s) b)
  rw [hv] at hl
  clear hv
  generalize vfd (Va.mk 4 n s) b = f at *
  simp only [Va.val] at R ⊢
  clear G
  have G := Lib.hid (fun w => kind_20 4 (by omega) w)
  rw [show vkind 4 = 1 from rfl] at G
  go_enter Tryd.func8, Tryd.ntmps8
  go_wp2_with fail
  refine (R.out _ ht1.out).mono ?_
  rintro e w1 ⟨rfl, hb⟩
  obtain ⟨c0, c1, c2⟩ := box3 hb
  replace hb := Lib.hid hb
  have s1 := IntWalk.i64_in (b + 4) (by omega)
  have s2 := IntWalk.i64_in (b + 4 - 1) (by omega)
  replace hl := Lib.hid hl
  go_wp2_with fail
  go_still_tail 13, (by kernel_rfl)
  still_call ((G.out _).mono fun _ _ h => ⟨h.1, h.2.symm⟩)
  repeat still_step
  refine wpStill_nil ?_
  change wpList _ _ _ _ _ w1.drew
  have hb4 := Lib.hid (hb.out.trans ((ext_drew w1).mono hb.out.size))
  generalize w1.drew = w4 at *
  go_wp2_with fail
  go_ret2
  exact ⟨_, _, _, rfl, hl.out _, ext_trans (e_alloc _ _) (hb4.out.alloc hb4.out.size _)⟩
set_option maxHeartbeats 1000000 in
set_option maxRecDepth 100000 in
theorem put_7_5 (n : Nat) (s : ByteArray) (b : Int) (raw : Bool) (w : World) (ht : Tabs w) (hm : n ≤ 18446744073709551615) (h1 : 1 ≤ b) (h2 : b ≤ 1000) (hE : rightE (Va.mk 5 n s) = 0) :
    Calls Tryd.prog 7 #[(Va.mk 5 n s).val, .int .i64 b, .bool raw] w (PutF 0 [vfd (Va.mk 5 n s) b] w) := by
  have G := Lib.hid (fun w => base_yes b w h1 h2)
  have R := Lib.hid (fun w ht => right_any 10 (.inl rfl) (Va.mk 5 n s) w ht hm)
  rw [hE] at R
  replace hE := Lib.hid hE
  replace hm := Lib.hid hm
  have ht1 := Lib.hid (ht.keep (e_alloc w (.cells #[.int .i64 5, .int .u64 (n : Nat), .string s] 24)))
  replace ht := Lib.hid ht
  have hv : (vfd (Va.mk 5 n s) b).cells = [.int .i64 (b + 5 - 1), .int .i64 0, .int .u64 (n : Nat), .string s] := rfl
  have hl := fun w => vfds_lit w (vfd (Va.mk 5 n s) b)
  rw [hv] at hl
  clear hv
  generalize vfd (Va.mk 5 n s) b = f at *
  simp only [Va.val] at R ⊢
  go_enter Tryd.func7, Tryd.ntmps7
  go_wp2_with fail
  refine (G.out _).mono ?_
  rintro e w1 ⟨rfl, rfl⟩
  go_wp2_with fail
  refine (R.out _ ht1.out).mono ?_
  rintro e w1 ⟨rfl, hb⟩
  obtain ⟨c0, c1, c2⟩ := box3 hb
  obtain ⟨t1, -⟩ := ht1.out.keep hb
  have u := t1 5 (by decide)
  replace t1 := Lib.hid t1
  replace hb := Lib.hid hb
  simp only [kindsL, List.getD_cons_zero, List.getD_cons_succ] at u
  have s1 := IntWalk.i64_in (b + 5) (by omega)
  have s2 := IntWalk.i64_in (b + 5 - 1) (by omega)
  replace hl := Lib.hid hl
  go_wp2_with fail
  go_still_tail 14, (by kernel_rfl)
  go_wp2_with fail
  go_ret2
  exact ⟨_, _, _, rfl, hl.out _, ext_trans (e_alloc _ _) (ext_trans hb.out ((e_drewN (Below.refl _ _) _).trans ((e_alloc _ _).mono (Nat.le_refl _))))⟩
set_option maxHeartbeats 1000000 in
set_option maxRecDepth 100000 in
theorem put_8_5 (n : Nat) (s : ByteArray) (b : Int) (raw : Bool) (w : World) (ht : Tabs w) (hm : n ≤ 18446744073709551615) (h1 : 1 ≤ b) (h2 : b ≤ 1000) (hE : rightE (Va.mk 5 n s) = 0) :
    Calls Tryd.prog 8 #[(Va.mk 5 n s).val, .int .i64 b, .bool raw] w (PutF 0 [vfd (Va.mk 5 n s) b] w) := by
  have G := Lib.hid (fun w => base_yes b w h1 h2)
  have R := Lib.hid (fun w ht => right_any 11 (.inr rfl) (Va.mk 5 n s) w ht hm)
  rw [hE] at R
  replace hE := Lib.hid hE
  replace hm := Lib.hid hm
  have ht1 := Lib.hid (ht.keep (e_alloc w (.cells #[.int .i64 5, .int .u64 (n : Nat), .string s] 24)))
  replace ht := Lib.hid ht
  have hv : (vfd (Va.mk 5 n s) b).cells = [.int .i64 (b + 5 - 1), .int .i64 0, .int .u64 (n : Nat), .string s] := rfl
  have hl := fun w => vfds_lit w (vfd (Va.mk 5 n s) b)
  rw [hv] at hl
  clear hv
  generalize vfd (Va.mk 5 n s) b = f at *
  simp only [Va.val] at R ⊢
  clear G
  have G := Lib.hid (fun w => kind_20 5 (by omega) w)
  rw [show vkind 5 = 0 from rfl] at G
  go_enter Tryd.func8, Tryd.ntmps8
  go_wp2_with fail
  refine (R.out _ ht1.out).mono ?_
  rintro e w1 ⟨rfl, hb⟩
  obtain ⟨c0, c1, c2⟩ := box3 hb
  replace hb := Lib.hid hb
  have s1 := IntWalk.i64_in (b + 5) (by omega)
  have s2 := IntWalk.i64_in (b + 5 - 1) (by omega)
  replace hl := Lib.hid hl
  go_wp2_with fail
  go_still_tail 13, (by kernel_rfl)
  still_call ((G.out _).mono fun _ _ h => ⟨h.1, h.2.symm⟩)
  repeat still_step
  refine wpStill_nil ?_
  change wpList _ _ _ _ _ w1.drew
  have hb4 := Lib.hid (hb.out.trans ((ext_drew w1).mono hb.out.size))
  generalize w1.drew = w4 at *
  go_wp2_with fail
  go_ret2
  exact ⟨_, _, _, rfl, hl.out _, ext_trans (e_alloc _ _) (hb4.out.alloc hb4.out.size _)⟩
set_option maxHeartbeats 1000000 in
set_option maxRecDepth 100000 in
theorem put_7_6 (n : Nat) (s : ByteArray) (b : Int) (raw : Bool) (w : World) (ht : Tabs w) (hm : n ≤ 18446744073709551615) (h1 : 1 ≤ b) (h2 : b ≤ 1000) (hE : rightE (Va.mk 6 n s) = 0) :
    Calls Tryd.prog 7 #[(Va.mk 6 n s).val, .int .i64 b, .bool raw] w (PutF 0 [vfd (Va.mk 6 n s) b] w) := by
  have G := Lib.hid (fun w => base_yes b w h1 h2)
  have R := Lib.hid (fun w ht => right_any 10 (.inl rfl) (Va.mk 6 n s) w ht hm)
  rw [hE] at R
  replace hE := Lib.hid hE
  replace hm := Lib.hid hm
  have ht1 := Lib.hid (ht.keep (e_alloc w (.cells #[.int .i64 6, .int .u64 (n : Nat), .string s] 24)))
  replace ht := Lib.hid ht
  have hv : (vfd (Va.mk 6 n s) b).cells = [.int .i64 (b + 6 - 1), .int .i64 2, .int .u64 (n : Nat), .string s] := rfl
  have hl := fun w => vfds_lit w (vfd (Va.mk 6 n s) b)
  rw [hv] at hl
  clear hv
  generalize vfd (Va.mk 6 n s) b = f at *
  simp only [Va.val] at R ⊢
  go_enter Tryd.func7, Tryd.ntmps7
  go_wp2_with fail
  refine (G.out _).mono ?_
  rintro e w1 ⟨rfl, rfl⟩
  go_wp2_with fail
  refine (R.out _ ht1.out).mono ?_
  rintro e w1 ⟨rfl, hb⟩
  obtain ⟨c0, c1, c2⟩ := box3 hb
  obtain ⟨t1, -⟩ := ht1.out.keep hb
  have u := t1 6 (by decide)
  replace t1 := Lib.hid t1
  replace hb := Lib.hid hb
  simp only [kindsL, List.getD_cons_zero, List.getD_cons_succ] at u
  have s1 := IntWalk.i64_in (b + 6) (by omega)
  have s2 := IntWalk.i64_in (b + 6 - 1) (by omega)
  replace hl := Lib.hid hl
  go_wp2_with fail
  go_still_tail 14, (by kernel_rfl)
  go_wp2_with fail
  go_ret2
  exact ⟨_, _, _, rfl, hl.out _, ext_trans (e_alloc _ _) (ext_trans hb.out ((e_drewN (Below.refl _ _) _).trans ((e_alloc _ _).mono (Nat.le_refl _))))⟩
set_option maxHeartbeats 1000000 in
set_option maxRecDepth 100000 in
theorem put_8_6 (n : Nat) (s : ByteArray) (b : Int) (raw : Bool) (w : World) (ht : Tabs w) (hm : n ≤ 18446744073709551615) (h1 : 1 ≤ b) (h2 : b ≤ 1000) (hE : rightE (Va.mk 6 n s) = 0) :
    Calls Tryd.prog 8 #[(Va.mk 6 n s).val, .int .i64 b, .bool raw] w (PutF 0 [vfd (Va.mk 6 n s) b] w) := by
  have G := Lib.hid (fun w => base_yes b w h1 h2)
  have R := Lib.hid (fun w ht => right_any 11 (.inr rfl) (Va.mk 6 n s) w ht hm)
  rw [hE] at R
  replace hE := Lib.hid hE
  replace hm := Lib.hid hm
  have ht1 := Lib.hid (ht.keep (e_alloc w (.cells #[.int .i64 6, .int .u64 (n : Nat), .string s] 24)))
  replace ht := Lib.hid ht
  have hv : (vfd (Va.mk 6 n s) b).cells = [.int .i64 (b + 6 - 1), .int .i64 2, .int .u64 (n : Nat), .string s] := rfl
  have hl := fun w => vfds_lit w (vfd (Va.mk 6 n s) b)
  rw [hv] at hl
  clear hv
  generalize vfd (Va.mk 6 n s) b = f at *
  simp only [Va.val] at R ⊢
  clear G
  have G := Lib.hid (fun w => kind_20 6 (by omega) w)
  rw [show vkind 6 = 2 from rfl] at G
  go_enter Tryd.func8, Tryd.ntmps8
  go_wp2_with fail
  refine (R.out _ ht1.out).mono ?_
  rintro e w1 ⟨rfl, hb⟩
  obtain ⟨c0, c1, c2⟩ := box3 hb
  replace hb := Lib.hid hb
  have s1 := IntWalk.i64_in (b + 6) (by omega)
  have s2 := IntWalk.i64_in (b + 6 - 1) (by omega)
  replace hl := Lib.hid hl
  go_wp2_with fail
  go_still_tail 13, (by kernel_rfl)
  still_call ((G.out _).mono fun _ _ h => ⟨h.1, h.2.symm⟩)
  repeat still_step
  refine wpStill_nil ?_
  change wpList _ _ _ _ _ w1.drew
  have hb4 := Lib.hid (hb.out.trans ((ext_drew w1).mono hb.out.size))
  generalize w1.drew = w4 at *
  go_wp2_with fail
  go_ret2
  exact ⟨_, _, _, rfl, hl.out _, ext_trans (e_alloc _ _) (hb4.out.alloc hb4.out.size _)⟩
set_option maxHeartbeats 1000000 in
set_option maxRecDepth 100000 in
theorem put_7_7 (n : Nat) (s : ByteArray) (b : Int)  (w : World) (ht : Tabs w) (hm : n ≤ 18446744073709551615) (h1 : 1 ≤ b) (h2 : b ≤ 1000) (hE : rightE (Va.mk 7 n s) = 0) :
    Calls Tryd.prog 7 #[(Va.mk 7 n s).val, .int .i64 b, .bool true] w (PutF 0 [vfd (Va.mk 7 n s) b] w) := by
  have G := Lib.hid (fun w => base_yes b w h1 h2)
  have R := Lib.hid (fun w ht => right_any 10 (.inl rfl) (Va.mk 7 n s) w ht hm)
  rw [hE] at R
  replace hE := Lib.hid hE
  replace hm := Lib.hid hm
  have ht1 := Lib.hid (ht.keep (e_alloc w (.cells #[.int .i64 7, .int .u64 (n : Nat), .string s] 24)))
  replace ht := Lib.hid ht
  have hv : (vfd (Va.mk 7 n s) b).cells = [.int .i64 (b + 7 - 1), .int .i64 2, .int .u64 (n : Nat), .string s] := rfl
  have hl := fun w => vfds_lit w (vfd (Va.mk 7 n s) b)
  rw [hv] at hl
  clear hv
  generalize vfd (Va.mk 7 n s) b = f at *
  simp only [Va.val] at R ⊢
  go_enter Tryd.func7, Tryd.ntmps7
  go_wp2_with fail
  refine (G.out _).mono ?_
  rintro e w1 ⟨rfl, rfl⟩
  go_wp2_with fail
  refine (R.out _ ht1.out).mono ?_
  rintro e w1 ⟨rfl, hb⟩
  obtain ⟨c0, c1, c2⟩ := box3 hb
  obtain ⟨t1, -⟩ := ht1.out.keep hb
  have u := t1 7 (by decide)
  replace t1 := Lib.hid t1
  replace hb := Lib.hid hb
  simp only [kindsL, List.getD_cons_zero, List.getD_cons_succ] at u
  have s1 := IntWalk.i64_in (b + 7) (by omega)
  have s2 := IntWalk.i64_in (b + 7 - 1) (by omega)
  replace hl := Lib.hid hl
  go_wp2_with fail
  go_still_tail 14, (by kernel_rfl)
  go_wp2_with fail
  go_ret2
  exact ⟨_, _, _, rfl, hl.out _, ext_trans (e_alloc _ _) (ext_trans hb.out ((e_drewN (Below.refl _ _) _).trans ((e_alloc _ _).mono (Nat.le_refl _))))⟩
set_option maxHeartbeats 1000000 in
set_option maxRecDepth 100000 in
theorem put_8_7 (n : Nat) (s : ByteArray) (b : Int)  (w : World) (ht : Tabs w) (hm : n ≤ 18446744073709551615) (h1 : 1 ≤ b) (h2 : b ≤ 1000) (hE : rightE (Va.mk 7 n s) = 0) :
    Calls Tryd.prog 8 #[(Va.mk 7 n s).val, .int .i64 b, .bool true] w (PutF 0 [vfd (Va.mk 7 n s) b] w) := by
  have G := Lib.hid (fun w => base_yes b w h1 h2)
  have R := Lib.hid (fun w ht => right_any 11 (.inr rfl) (Va.mk 7 n s) w ht hm)
  rw [hE] at R
  replace hE := Lib.hid hE
  replace hm := Lib.hid hm
  have ht1 := Lib.hid (ht.keep (e_alloc w (.cells #[.int .i64 7, .int .u64 (n : Nat), .string s] 24)))
  replace ht := Lib.hid ht
  have hv : (vfd (Va.mk 7 n s) b).cells = [.int .i64 (b + 7 - 1), .int .i64 2, .int .u64 (n : Nat), .string s] := rfl
  have hl := fun w => vfds_lit w (vfd (Va.mk 7 n s) b)
  rw [hv] at hl
  clear hv
  generalize vfd (Va.mk 7 n s) b = f at *
  simp only [Va.val] at R ⊢
  clear G
  have G := Lib.hid (fun w => kind_20 7 (by omega) w)
  rw [show vkind 7 = 2 from rfl] at G
  go_enter Tryd.func8, Tryd.ntmps8
  go_wp2_with fail
  refine (R.out _ ht1.out).mono ?_
  rintro e w1 ⟨rfl, hb⟩
  obtain ⟨c0, c1, c2⟩ := box3 hb
  replace hb := Lib.hid hb
  have s1 := IntWalk.i64_in (b + 7) (by omega)
  have s2 := IntWalk.i64_in (b + 7 - 1) (by omega)
  replace hl := Lib.hid hl
  go_wp2_with fail
  go_still_tail 13, (by kernel_rfl)
  still_call ((G.out _).mono fun _ _ h => ⟨h.1, h.2.symm⟩)
  repeat still_step
  refine wpStill_nil ?_
  change wpList _ _ _ _ _ w1.drew
  have hb4 := Lib.hid (hb.out.trans ((ext_drew w1).mono hb.out.size))
  generalize w1.drew = w4 at *
  go_wp2_with fail
  go_ret2
  exact ⟨_, _, _, rfl, hl.out _, ext_trans (e_alloc _ _) (hb4.out.alloc hb4.out.size _)⟩
/-- What Put answers. -/
def putVE (v : Va) (b : Int) (raw : Bool) : Int :=
  if b < 1 ∨ 1000 < b then 1 else if rightE v ≠ 0 then rightE v else if v.k = 7 ∧ raw = false then 11 else 0
def putVL (v : Va) (b : Int) (raw : Bool) : List Fd := if putVE v b raw = 0 ∧ v.k ≠ 0 then [vfd v b] else []
theorem rightE_zero {v : Va} (h : rightE v = 0) : 0 ≤ v.k ∧ v.k ≤ 7 ∧ (v.k = 0 → v.n = 0 ∧ v.s.size = 0) ∧ (v.k = 6 ∨ v.k = 7 → v.n = 0) ∧ (1 ≤ v.k ∧ v.k ≤ 5 → v.s.size = 0) ∧ v.n ≤ vmost v.k := by
  unfold rightE at h
  by_cases a : v.k < 0 ∨ 7 < v.k
  · rw [if_pos a] at h; cases h
  rw [if_neg a] at h
  by_cases c : (¬ (v.k = 6 ∨ v.k = 7) ∧ v.s.size ≠ 0) ∨ ((v.k = 6 ∨ v.k = 7 ∨ v.k = 0) ∧ v.n ≠ 0)
  · rw [if_pos c] at h; cases h
  rw [if_neg c] at h
  by_cases d : vmost v.k < v.n
  · rw [if_pos d] at h; cases h
  refine ⟨by omega, by omega, fun hk => ?_, fun hk => ?_, fun hk => ?_, by omega⟩
  · refine ⟨?_, ?_⟩
    · by_cases z : v.n = 0
      · exact z
      · exact absurd (.inr ⟨by omega, z⟩) c
    · by_cases z : v.s.size = 0
      · exact z
      · exact absurd (.inl ⟨by omega, z⟩) c
  · by_cases z : v.n = 0
    · exact z
    · exact absurd (.inr ⟨by omega, z⟩) c
  · by_cases z : v.s.size = 0
    · exact z
    · exact absurd (.inl ⟨by omega, z⟩) c
/-- Put, of both sides. -/
theorem vput_any (g : FuncId) (hg : g = 7 ∨ g = 8) (v : Va) (b : Int) (raw : Bool) (w : World) (ht : Tabs w) (hm : v.n ≤ 18446744073709551615) :
    Calls Tryd.prog g #[v.val, .int .i64 b, .bool raw] w (PutF (putVE v b raw) (putVL v b raw) w) := by
  by_cases hb : b < 1 ∨ 1000 < b
  · have e : putVE v b raw = 1 := by unfold putVE; rw [if_pos hb]
    have l : putVL v b raw = [] := by unfold putVL; rw [if_neg (by rw [e]; rintro ⟨h, -⟩; cases h)]
    rw [e, l]
    exact put_base g hg v b raw w (by omega)
  by_cases hE : rightE v = 0
  · have hE' := rightE_zero hE
    obtain ⟨k0, k7, kz, -, -, -⟩ := hE'
    by_cases h7 : v.k = 7 ∧ raw = false
    · have e : putVE v b raw = 11 := by unfold putVE; rw [if_neg hb, if_neg (by rw [hE]; simp), if_pos h7]
      have l : putVL v b raw = [] := by unfold putVL; rw [if_neg (by rw [e]; rintro ⟨h, -⟩; cases h)]
      rw [e, l]
      obtain ⟨k, n, s⟩ := v
      obtain ⟨h7, rfl⟩ := h7
      simp only at h7
      subst h7
      have hn : n = 0 := (rightE_zero hE).2.2.2.1 (.inr rfl)
      subst hn
      exact put_raw g hg s b w ht (by omega) (by omega)
    have e : putVE v b raw = 0 := by unfold putVE; rw [if_neg hb, if_neg (by rw [hE]; simp), if_neg h7]
    by_cases hk : v.k = 0
    · have l : putVL v b raw = [] := by unfold putVL; rw [if_neg (by rintro ⟨-, h⟩; exact h hk)]
      rw [e, l]
      obtain ⟨k, n, s⟩ := v
      simp only at hk kz
      subst hk
      obtain ⟨rfl, hs⟩ := kz rfl
      obtain rfl := vsize0 hs
      exact put_none g hg b raw w ht (by omega) (by omega)
    have l : putVL v b raw = [vfd v b] := by unfold putVL; rw [if_pos ⟨e, hk⟩]
    rw [e, l]
    obtain ⟨k, n, s⟩ := v
    simp only at k0 k7 kz hk h7 hm
    have h1 : 1 ≤ b := by omega
    have h2 : b ≤ 1000 := by omega
    have hi : k = 1 ∨ k = 2 ∨ k = 3 ∨ k = 4 ∨ k = 5 ∨ k = 6 ∨ k = 7 := by omega
    clear k0 k7 kz hk
    rcases hg with rfl | rfl
    · rcases hi with rfl | rfl | rfl | rfl | rfl | rfl | rfl
      · exact put_7_1 n s b raw w ht hm h1 h2 hE
      · exact put_7_2 n s b raw w ht hm h1 h2 hE
      · exact put_7_3 n s b raw w ht hm h1 h2 hE
      · exact put_7_4 n s b raw w ht hm h1 h2 hE
      · exact put_7_5 n s b raw w ht hm h1 h2 hE
      · exact put_7_6 n s b raw w ht hm h1 h2 hE
      · obtain rfl : raw = true := by cases raw; exact absurd ⟨rfl, rfl⟩ h7; rfl
        exact put_7_7 n s b w ht hm h1 h2 hE
    · rcases hi with rfl | rfl | rfl | rfl | rfl | rfl | rfl
      · exact put_8_1 n s b raw w ht hm h1 h2 hE
      · exact put_8_2 n s b raw w ht hm h1 h2 hE
      · exact put_8_3 n s b raw w ht hm h1 h2 hE
      · exact put_8_4 n s b raw w ht hm h1 h2 hE
      · exact put_8_5 n s b raw w ht hm h1 h2 hE
      · exact put_8_6 n s b raw w ht hm h1 h2 hE
      · obtain rfl : raw = true := by cases raw; exact absurd ⟨rfl, rfl⟩ h7; rfl
        exact put_8_7 n s b w ht hm h1 h2 hE
  · have e : putVE v b raw = rightE v := by unfold putVE; rw [if_neg hb, if_pos hE]
    have l : putVL v b raw = [] := by unfold putVL; rw [if_neg (by rw [e]; rintro ⟨h, -⟩; exact hE h)]
    rw [e, l]
    exact put_wrong g hg v b raw w ht hm (by omega) (by omega) hE
end Go.Proofs.YtoglgdkeknojkaaDoor
