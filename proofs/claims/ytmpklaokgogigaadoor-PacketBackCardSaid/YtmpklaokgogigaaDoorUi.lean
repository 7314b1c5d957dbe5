/-
  LAYER 4: tail and step, the document's.
-/
import Derived.Test.YtmpklaokgogigaaDoorUh
namespace Go.Proofs.YtmpklaokgogigaaDoor
set_option linter.unusedSimpArgs false
set_option linter.unusedVariables false
open Go.RowKit

theorem gB_at (s : ByteArray) (k : Nat) (h : k < s.size) : ((s[k]'h).toNat) = gB s k := by
  unfold gB
  rw [get!_lt s k h, Array.getElem_toList]
  rfl
theorem tail_any (s : ByteArray) (k : Nat) (w : World) (hk : k ≤ 140737488355328) :
    Calls Tryd.prog 102 #[.string s, .int .i64 k] w fun e w' => e = .returned (.bool (tl (gB s) s.size k)) ∧ w = w' := by
  have hk' : (k : Int) ≤ 140737488355328 := by omega
  by_cases h : k < s.size
  · have hg := gB_at s k h
    have h' : (k : Int) < s.size := by omega
    have he : tl (gB s) s.size k = (decide (128 ≤ s[k]) && decide (s[k] ≤ 191)) := by
      unfold tl; rw [← hg]; simp [h, UInt8.le_iff_toNat_le]
    rw [he]
    clear he hg
    go_enter Tryd.func102, Tryd.ntmps102
    go_wp2
    all_goals
      go_ret
      refine ⟨congrArg (fun b => Ending.returned (.bool b)) ?_, rfl⟩
      have : ∀ a b : UInt8, decide (a ≤ b) = decide (a.toNat ≤ b.toNat) := fun a b => by rw [Bool.eq_iff_iff]; simp [UInt8.le_iff_toNat_le]
      rw [this, this, Bool.eq_iff_iff]
      simp
      try omega
  · have he : tl (gB s) s.size k = false := by unfold tl; simp [h]
    rw [he]
    have h' : (s.size : Int) ≤ k := by omega
    clear he
    go_enter Tryd.func102, Tryd.ntmps102
    go_wp2
    go_ret
    exact ⟨rfl, rfl⟩

def StepPost (p : Nat × Nat) (w : World) (e : Ending) (w' : World) : Prop :=
  e = .returned (.tuple #[.int .i64 p.1, .int .i64 p.2]) ∧ ∃ n, w' = w.drewN n
theorem ret2_int {k l : IntKind} {a b c d : Int} (h : a = c) (g : b = d) : Ending.returned (.tuple #[.int k a, .int l b]) = .returned (.tuple #[.int k c, .int l d]) := by rw [h, g]
set_option maxHeartbeats 1000000 in
set_option maxRecDepth 100000 in
theorem step_A (s : ByteArray) (i : Nat) (w : World) (hi : i < s.size) (hs : s.size ≤ 65535) (hx : 0 ≤ ((s[i]'hi).toNat : Int)) (hx2 : ((s[i]'hi).toNat : Int) ≤ 127)  :
    Calls Tryd.prog 100 #[.string s, .int .i64 i] w (StepPost (1, (s[i]'hi).toNat) w) := by
  have h0 : (i : Int) < s.size := by omega
  have h2 : (s.size : Int) ≤ 65535 := by omega
  go_enter Tryd.func100, Tryd.ntmps100
  go_wp2
  all_goals
    go_ret2
    exact ⟨ret2_int (by omega) (by omega), 0, rfl⟩
set_option maxHeartbeats 1000000 in
set_option maxRecDepth 100000 in
theorem step_E1 (s : ByteArray) (i : Nat) (w : World) (hi : i < s.size) (hs : s.size ≤ 65535) (hx : 128 ≤ ((s[i]'hi).toNat : Int)) (hx2 : ((s[i]'hi).toNat : Int) ≤ 193)  :
    Calls Tryd.prog 100 #[.string s, .int .i64 i] w (StepPost (0, 0) w) := by
  have h0 : (i : Int) < s.size := by omega
  have h2 : (s.size : Int) ≤ 65535 := by omega
  go_enter Tryd.func100, Tryd.ntmps100
  go_wp2
  all_goals
    go_ret2
    exact ⟨ret2_int (by omega) (by omega), 0, rfl⟩
set_option maxHeartbeats 1000000 in
set_option maxRecDepth 100000 in
theorem step_E2 (s : ByteArray) (i : Nat) (w : World) (hi : i < s.size) (hs : s.size ≤ 65535) (hx : 245 ≤ ((s[i]'hi).toNat : Int)) (hx2 : ((s[i]'hi).toNat : Int) ≤ 255)  :
    Calls Tryd.prog 100 #[.string s, .int .i64 i] w (StepPost (0, 0) w) := by
  have h0 : (i : Int) < s.size := by omega
  have h2 : (s.size : Int) ≤ 65535 := by omega
  go_enter Tryd.func100, Tryd.ntmps100
  go_wp2
  all_goals
    go_ret2
    exact ⟨ret2_int (by omega) (by omega), 0, rfl⟩
set_option maxHeartbeats 1000000 in
set_option maxRecDepth 100000 in
theorem step_B0 (s : ByteArray) (i : Nat) (w : World) (hi : i < s.size) (hs : s.size ≤ 65535) (hx : 194 ≤ ((s[i]'hi).toNat : Int)) (hx2 : ((s[i]'hi).toNat : Int) ≤ 223) (T1 : ∀ w, Calls Tryd.prog 102 #[.string s, .int .i64 ((i : Int) + 1)] w fun e w' => e = .returned (.bool false) ∧ w = w')  :
    Calls Tryd.prog 100 #[.string s, .int .i64 i] w (StepPost (0, 0) w) := by
  replace T1 := Lib.hid T1
  have h0 : (i : Int) < s.size := by omega
  have h2 : (s.size : Int) ≤ 65535 := by omega
  go_enter Tryd.func100, Tryd.ntmps100
  go_wp2_with fail
  refine (T1.out _).mono ?_
  rintro e w' ⟨rfl, rfl⟩
  go_wp2
  all_goals
    go_ret2
    exact ⟨ret2_int (by omega) (by omega), 0, rfl⟩
set_option maxHeartbeats 1000000 in
set_option maxRecDepth 100000 in
theorem step_B1 (s : ByteArray) (i : Nat) (w : World) (hi : i < s.size) (hs : s.size ≤ 65535) (hx : 194 ≤ ((s[i]'hi).toNat : Int)) (hx2 : ((s[i]'hi).toNat : Int) ≤ 223) (hi1 : i + 1 < s.size) (hy1 : 128 ≤ ((s[i + 1]'hi1).toNat : Int)) (hz1 : ((s[i + 1]'hi1).toNat : Int) ≤ 191) (T1 : ∀ w, Calls Tryd.prog 102 #[.string s, .int .i64 ((i : Int) + 1)] w fun e w' => e = .returned (.bool true) ∧ w = w')  :
    Calls Tryd.prog 100 #[.string s, .int .i64 i] w (StepPost (2, ((s[i]'hi).toNat - 192) * 64 + ((s[i + 1]'hi1).toNat - 128)) w) := by
  replace T1 := Lib.hid T1
  have h0 : (i : Int) < s.size := by omega
  have h2 : (s.size : Int) ≤ 65535 := by omega
  have g1 : (i : Int) + 1 < s.size := by omega
  go_enter Tryd.func100, Tryd.ntmps100
  go_wp2_with fail
  refine (T1.out _).mono ?_
  rintro e w' ⟨rfl, rfl⟩
  go_wp2_with fail
  have w11 : IntKind.i64.wrap ((i : Int) + 1) = i + 1 := IntWalk.i64_in _ (by omega)
  have w21 : ((i : Int) + 1).toNat = i + 1 := by omega
  have w31 : 0 ≤ (i : Int) + 1 := by omega
  go_quiet (fail)
  go_wp2
  all_goals
    go_ret2
    exact ⟨ret2_int (by omega) (by omega), nq, rfl⟩
set_option maxHeartbeats 1000000 in
set_option maxRecDepth 100000 in
theorem step_C0 (s : ByteArray) (i : Nat) (w : World) (hi : i < s.size) (hs : s.size ≤ 65535) (hx : 224 ≤ ((s[i]'hi).toNat : Int)) (hx2 : ((s[i]'hi).toNat : Int) ≤ 239) (T1 : ∀ w, Calls Tryd.prog 102 #[.string s, .int .i64 ((i : Int) + 1)] w fun e w' => e = .returned (.bool false) ∧ w = w')  :
    Calls Tryd.prog 100 #[.string s, .int .i64 i] w (StepPost (0, 0) w) := by
  replace T1 := Lib.hid T1
  have h0 : (i : Int) < s.size := by omega
  have h2 : (s.size : Int) ≤ 65535 := by omega
  go_enter Tryd.func100, Tryd.ntmps100
  go_wp2_with fail
  refine (T1.out _).mono ?_
  rintro e w' ⟨rfl, rfl⟩
  go_wp2
  all_goals
    go_ret2
    exact ⟨ret2_int (by omega) (by omega), 0, rfl⟩
set_option maxHeartbeats 1000000 in
set_option maxRecDepth 100000 in
theorem step_C1 (s : ByteArray) (i : Nat) (w : World) (hi : i < s.size) (hs : s.size ≤ 65535) (hx : 224 ≤ ((s[i]'hi).toNat : Int)) (hx2 : ((s[i]'hi).toNat : Int) ≤ 239) (T1 : ∀ w, Calls Tryd.prog 102 #[.string s, .int .i64 ((i : Int) + 1)] w fun e w' => e = .returned (.bool true) ∧ w = w') (T2 : ∀ w, Calls Tryd.prog 102 #[.string s, .int .i64 ((i : Int) + 2)] w fun e w' => e = .returned (.bool false) ∧ w = w')  :
    Calls Tryd.prog 100 #[.string s, .int .i64 i] w (StepPost (0, 0) w) := by
  replace T1 := Lib.hid T1
  replace T2 := Lib.hid T2
  have h0 : (i : Int) < s.size := by omega
  have h2 : (s.size : Int) ≤ 65535 := by omega
  go_enter Tryd.func100, Tryd.ntmps100
  go_wp2_with fail
  refine (T1.out _).mono ?_
  rintro e w' ⟨rfl, rfl⟩
  go_wp2_with fail
  refine (T2.out _).mono ?_
  rintro e w' ⟨rfl, rfl⟩
  go_wp2
  all_goals
    go_ret2
    exact ⟨ret2_int (by omega) (by omega), 0, rfl⟩
set_option maxHeartbeats 1000000 in
set_option maxRecDepth 100000 in
theorem step_Ca (s : ByteArray) (i : Nat) (w : World) (hi : i < s.size) (hs : s.size ≤ 65535) (hx : 224 ≤ ((s[i]'hi).toNat : Int)) (hx2 : ((s[i]'hi).toNat : Int) ≤ 239) (hi1 : i + 1 < s.size) (hy1 : 128 ≤ ((s[i + 1]'hi1).toNat : Int)) (hz1 : ((s[i + 1]'hi1).toNat : Int) ≤ 191) (hi2 : i + 2 < s.size) (hy2 : 128 ≤ ((s[i + 2]'hi2).toNat : Int)) (hz2 : ((s[i + 2]'hi2).toNat : Int) ≤ 191) (T1 : ∀ w, Calls Tryd.prog 102 #[.string s, .int .i64 ((i : Int) + 1)] w fun e w' => e = .returned (.bool true) ∧ w = w') (T2 : ∀ w, Calls Tryd.prog 102 #[.string s, .int .i64 ((i : Int) + 2)] w fun e w' => e = .returned (.bool true) ∧ w = w') (hN : ((s[i]'hi).toNat - 224) * 4096 + ((s[i + 1]'hi1).toNat - 128) * 64 + ((s[i + 2]'hi2).toNat - 128) < 2048) :
    Calls Tryd.prog 100 #[.string s, .int .i64 i] w (StepPost (0, 0) w) := by
  replace T1 := Lib.hid T1
  replace T2 := Lib.hid T2
  have h0 : (i : Int) < s.size := by omega
  have h2 : (s.size : Int) ≤ 65535 := by omega
  have g1 : (i : Int) + 1 < s.size := by omega
  have g2 : (i : Int) + 2 < s.size := by omega
  go_enter Tryd.func100, Tryd.ntmps100
  go_wp2_with fail
  refine (T1.out _).mono ?_
  rintro e w' ⟨rfl, rfl⟩
  go_wp2_with fail
  refine (T2.out _).mono ?_
  rintro e w' ⟨rfl, rfl⟩
  go_wp2_with fail
  have w11 : IntKind.i64.wrap ((i : Int) + 1) = i + 1 := IntWalk.i64_in _ (by omega)
  have w21 : ((i : Int) + 1).toNat = i + 1 := by omega
  have w31 : 0 ≤ (i : Int) + 1 := by omega
  have w12 : IntKind.i64.wrap ((i : Int) + 2) = i + 2 := IntWalk.i64_in _ (by omega)
  have w22 : ((i : Int) + 2).toNat = i + 2 := by omega
  have w32 : 0 ≤ (i : Int) + 2 := by omega
  go_quiet (fail)
  go_wp2
  all_goals
    go_ret2
    exact ⟨ret2_int (by omega) (by omega), nq, rfl⟩
set_option maxHeartbeats 1000000 in
set_option maxRecDepth 100000 in
theorem step_Cb (s : ByteArray) (i : Nat) (w : World) (hi : i < s.size) (hs : s.size ≤ 65535) (hx : 224 ≤ ((s[i]'hi).toNat : Int)) (hx2 : ((s[i]'hi).toNat : Int) ≤ 239) (hi1 : i + 1 < s.size) (hy1 : 128 ≤ ((s[i + 1]'hi1).toNat : Int)) (hz1 : ((s[i + 1]'hi1).toNat : Int) ≤ 191) (hi2 : i + 2 < s.size) (hy2 : 128 ≤ ((s[i + 2]'hi2).toNat : Int)) (hz2 : ((s[i + 2]'hi2).toNat : Int) ≤ 191) (T1 : ∀ w, Calls Tryd.prog 102 #[.string s, .int .i64 ((i : Int) + 1)] w fun e w' => e = .returned (.bool true) ∧ w = w') (T2 : ∀ w, Calls Tryd.prog 102 #[.string s, .int .i64 ((i : Int) + 2)] w fun e w' => e = .returned (.bool true) ∧ w = w') (hN : 55296 ≤ ((s[i]'hi).toNat - 224) * 4096 + ((s[i + 1]'hi1).toNat - 128) * 64 + ((s[i + 2]'hi2).toNat - 128)) (hM : ((s[i]'hi).toNat - 224) * 4096 + ((s[i + 1]'hi1).toNat - 128) * 64 + ((s[i + 2]'hi2).toNat - 128) ≤ 57343) :
    Calls Tryd.prog 100 #[.string s, .int .i64 i] w (StepPost (0, 0) w) := by
  replace T1 := Lib.hid T1
  replace T2 := Lib.hid T2
  have h0 : (i : Int) < s.size := by omega
  have h2 : (s.size : Int) ≤ 65535 := by omega
  have g1 : (i : Int) + 1 < s.size := by omega
  have g2 : (i : Int) + 2 < s.size := by omega
  go_enter Tryd.func100, Tryd.ntmps100
  go_wp2_with fail
  refine (T1.out _).mono ?_
  rintro e w' ⟨rfl, rfl⟩
  go_wp2_with fail
  refine (T2.out _).mono ?_
  rintro e w' ⟨rfl, rfl⟩
  go_wp2_with fail
  have w11 : IntKind.i64.wrap ((i : Int) + 1) = i + 1 := IntWalk.i64_in _ (by omega)
  have w21 : ((i : Int) + 1).toNat = i + 1 := by omega
  have w31 : 0 ≤ (i : Int) + 1 := by omega
  have w12 : IntKind.i64.wrap ((i : Int) + 2) = i + 2 := IntWalk.i64_in _ (by omega)
  have w22 : ((i : Int) + 2).toNat = i + 2 := by omega
  have w32 : 0 ≤ (i : Int) + 2 := by omega
  go_quiet (fail)
  go_wp2
  all_goals
    go_ret2
    exact ⟨ret2_int (by omega) (by omega), nq, rfl⟩
set_option maxHeartbeats 1000000 in
set_option maxRecDepth 100000 in
theorem step_Cc (s : ByteArray) (i : Nat) (w : World) (hi : i < s.size) (hs : s.size ≤ 65535) (hx : 224 ≤ ((s[i]'hi).toNat : Int)) (hx2 : ((s[i]'hi).toNat : Int) ≤ 239) (hi1 : i + 1 < s.size) (hy1 : 128 ≤ ((s[i + 1]'hi1).toNat : Int)) (hz1 : ((s[i + 1]'hi1).toNat : Int) ≤ 191) (hi2 : i + 2 < s.size) (hy2 : 128 ≤ ((s[i + 2]'hi2).toNat : Int)) (hz2 : ((s[i + 2]'hi2).toNat : Int) ≤ 191) (T1 : ∀ w, Calls Tryd.prog 102 #[.string s, .int .i64 ((i : Int) + 1)] w fun e w' => e = .returned (.bool true) ∧ w = w') (T2 : ∀ w, Calls Tryd.prog 102 #[.string s, .int .i64 ((i : Int) + 2)] w fun e w' => e = .returned (.bool true) ∧ w = w') (hN : 2048 ≤ ((s[i]'hi).toNat - 224) * 4096 + ((s[i + 1]'hi1).toNat - 128) * 64 + ((s[i + 2]'hi2).toNat - 128)) (hM : ((s[i]'hi).toNat - 224) * 4096 + ((s[i + 1]'hi1).toNat - 128) * 64 + ((s[i + 2]'hi2).toNat - 128) < 55296) :
    Calls Tryd.prog 100 #[.string s, .int .i64 i] w (StepPost (3, ((s[i]'hi).toNat - 224) * 4096 + ((s[i + 1]'hi1).toNat - 128) * 64 + ((s[i + 2]'hi2).toNat - 128)) w) := by
  replace T1 := Lib.hid T1
  replace T2 := Lib.hid T2
  have h0 : (i : Int) < s.size := by omega
  have h2 : (s.size : Int) ≤ 65535 := by omega
  have g1 : (i : Int) + 1 < s.size := by omega
  have g2 : (i : Int) + 2 < s.size := by omega
  go_enter Tryd.func100, Tryd.ntmps100
  go_wp2_with fail
  refine (T1.out _).mono ?_
  rintro e w' ⟨rfl, rfl⟩
  go_wp2_with fail
  refine (T2.out _).mono ?_
  rintro e w' ⟨rfl, rfl⟩
  go_wp2_with fail
  have w11 : IntKind.i64.wrap ((i : Int) + 1) = i + 1 := IntWalk.i64_in _ (by omega)
  have w21 : ((i : Int) + 1).toNat = i + 1 := by omega
  have w31 : 0 ≤ (i : Int) + 1 := by omega
  have w12 : IntKind.i64.wrap ((i : Int) + 2) = i + 2 := IntWalk.i64_in _ (by omega)
  have w22 : ((i : Int) + 2).toNat = i + 2 := by omega
  have w32 : 0 ≤ (i : Int) + 2 := by omega
  go_quiet (fail)
  go_wp2
  all_goals
    go_ret2
    exact ⟨ret2_int (by omega) (by omega), nq, rfl⟩
set_option maxHeartbeats 1000000 in
set_option maxRecDepth 100000 in
theorem step_Cd (s : ByteArray) (i : Nat) (w : World) (hi : i < s.size) (hs : s.size ≤ 65535) (hx : 224 ≤ ((s[i]'hi).toNat : Int)) (hx2 : ((s[i]'hi).toNat : Int) ≤ 239) (hi1 : i + 1 < s.size) (hy1 : 128 ≤ ((s[i + 1]'hi1).toNat : Int)) (hz1 : ((s[i + 1]'hi1).toNat : Int) ≤ 191) (hi2 : i + 2 < s.size) (hy2 : 128 ≤ ((s[i + 2]'hi2).toNat : Int)) (hz2 : ((s[i + 2]'hi2).toNat : Int) ≤ 191) (T1 : ∀ w, Calls Tryd.prog 102 #[.string s, .int .i64 ((i : Int) + 1)] w fun e w' => e = .returned (.bool true) ∧ w = w') (T2 : ∀ w, Calls Tryd.prog 102 #[.string s, .int .i64 ((i : Int) + 2)] w fun e w' => e = .returned (.bool true) ∧ w = w') (hN : 57343 < ((s[i]'hi).toNat - 224) * 4096 + ((s[i + 1]'hi1).toNat - 128) * 64 + ((s[i + 2]'hi2).toNat - 128)) :
    Calls Tryd.prog 100 #[.string s, .int .i64 i] w (StepPost (3, ((s[i]'hi).toNat - 224) * 4096 + ((s[i + 1]'hi1).toNat - 128) * 64 + ((s[i + 2]'hi2).toNat - 128)) w) := by
  replace T1 := Lib.hid T1
  replace T2 := Lib.hid T2
  have h0 : (i : Int) < s.size := by omega
  have h2 : (s.size : Int) ≤ 65535 := by omega
  have g1 : (i : Int) + 1 < s.size := by omega
  have g2 : (i : Int) + 2 < s.size := by omega
  go_enter Tryd.func100, Tryd.ntmps100
  go_wp2_with fail
  refine (T1.out _).mono ?_
  rintro e w' ⟨rfl, rfl⟩
  go_wp2_with fail
  refine (T2.out _).mono ?_
  rintro e w' ⟨rfl, rfl⟩
  go_wp2_with fail
  have w11 : IntKind.i64.wrap ((i : Int) + 1) = i + 1 := IntWalk.i64_in _ (by omega)
  have w21 : ((i : Int) + 1).toNat = i + 1 := by omega
  have w31 : 0 ≤ (i : Int) + 1 := by omega
  have w12 : IntKind.i64.wrap ((i : Int) + 2) = i + 2 := IntWalk.i64_in _ (by omega)
  have w22 : ((i : Int) + 2).toNat = i + 2 := by omega
  have w32 : 0 ≤ (i : Int) + 2 := by omega
  go_quiet (fail)
  go_wp2
  all_goals
    go_ret2
    exact ⟨ret2_int (by omega) (by omega), nq, rfl⟩
set_option maxHeartbeats 1000000 in
set_option maxRecDepth 100000 in
theorem step_D0 (s : ByteArray) (i : Nat) (w : World) (hi : i < s.size) (hs : s.size ≤ 65535) (hx : 240 ≤ ((s[i]'hi).toNat : Int)) (hx2 : ((s[i]'hi).toNat : Int) ≤ 244) (T1 : ∀ w, Calls Tryd.prog 102 #[.string s, .int .i64 ((i : Int) + 1)] w fun e w' => e = .returned (.bool false) ∧ w = w')  :
    Calls Tryd.prog 100 #[.string s, .int .i64 i] w (StepPost (0, 0) w) := by
  replace T1 := Lib.hid T1
  have h0 : (i : Int) < s.size := by omega
  have h2 : (s.size : Int) ≤ 65535 := by omega
  go_enter Tryd.func100, Tryd.ntmps100
  go_wp2_with fail
  refine (T1.out _).mono ?_
  rintro e w' ⟨rfl, rfl⟩
  go_wp2
  all_goals
    go_ret2
    exact ⟨ret2_int (by omega) (by omega), 0, rfl⟩
set_option maxHeartbeats 1000000 in
set_option maxRecDepth 100000 in
theorem step_D1 (s : ByteArray) (i : Nat) (w : World) (hi : i < s.size) (hs : s.size ≤ 65535) (hx : 240 ≤ ((s[i]'hi).toNat : Int)) (hx2 : ((s[i]'hi).toNat : Int) ≤ 244) (T1 : ∀ w, Calls Tryd.prog 102 #[.string s, .int .i64 ((i : Int) + 1)] w fun e w' => e = .returned (.bool true) ∧ w = w') (T2 : ∀ w, Calls Tryd.prog 102 #[.string s, .int .i64 ((i : Int) + 2)] w fun e w' => e = .returned (.bool false) ∧ w = w')  :
    Calls Tryd.prog 100 #[.string s, .int .i64 i] w (StepPost (0, 0) w) := by
  replace T1 := Lib.hid T1
  replace T2 := Lib.hid T2
  have h0 : (i : Int) < s.size := by omega
  have h2 : (s.size : Int) ≤ 65535 := by omega
  go_enter Tryd.func100, Tryd.ntmps100
  go_wp2_with fail
  refine (T1.out _).mono ?_
  rintro e w' ⟨rfl, rfl⟩
  go_wp2_with fail
  refine (T2.out _).mono ?_
  rintro e w' ⟨rfl, rfl⟩
  go_wp2
  all_goals
    go_ret2
    exact ⟨ret2_int (by omega) (by omega), 0, rfl⟩
set_option maxHeartbeats 1000000 in
set_option maxRecDepth 100000 in
theorem step_D2 (s : ByteArray) (i : Nat) (w : World) (hi : i < s.size) (hs : s.size ≤ 65535) (hx : 240 ≤ ((s[i]'hi).toNat : Int)) (hx2 : ((s[i]'hi).toNat : Int) ≤ 244) (T1 : ∀ w, Calls Tryd.prog 102 #[.string s, .int .i64 ((i : Int) + 1)] w fun e w' => e = .returned (.bool true) ∧ w = w') (T2 : ∀ w, Calls Tryd.prog 102 #[.string s, .int .i64 ((i : Int) + 2)] w fun e w' => e = .returned (.bool true) ∧ w = w') (T3 : ∀ w, Calls Tryd.prog 102 #[.string s, .int .i64 ((i : Int) + 3)] w fun e w' => e = .returned (.bool false) ∧ w = w')  :
    Calls Tryd.prog 100 #[.string s, .int .i64 i] w (StepPost (0, 0) w) := by
  replace T1 := Lib.hid T1
  replace T2 := Lib.hid T2
  replace T3 := Lib.hid T3
  have h0 : (i : Int) < s.size := by omega
  have h2 : (s.size : Int) ≤ 65535 := by omega
  go_enter Tryd.func100, Tryd.ntmps100
  go_wp2_with fail
  refine (T1.out _).mono ?_
  rintro e w' ⟨rfl, rfl⟩
  go_wp2_with fail
  refine (T2.out _).mono ?_
  rintro e w' ⟨rfl, rfl⟩
  go_wp2_with fail
  refine (T3.out _).mono ?_
  rintro e w' ⟨rfl, rfl⟩
  go_wp2
  all_goals
    go_ret2
    exact ⟨ret2_int (by omega) (by omega), 0, rfl⟩
set_option maxHeartbeats 1000000 in
set_option maxRecDepth 100000 in
theorem step_Da (s : ByteArray) (i : Nat) (w : World) (hi : i < s.size) (hs : s.size ≤ 65535) (hx : 240 ≤ ((s[i]'hi).toNat : Int)) (hx2 : ((s[i]'hi).toNat : Int) ≤ 244) (hi1 : i + 1 < s.size) (hy1 : 128 ≤ ((s[i + 1]'hi1).toNat : Int)) (hz1 : ((s[i + 1]'hi1).toNat : Int) ≤ 191) (hi2 : i + 2 < s.size) (hy2 : 128 ≤ ((s[i + 2]'hi2).toNat : Int)) (hz2 : ((s[i + 2]'hi2).toNat : Int) ≤ 191) (hi3 : i + 3 < s.size) (hy3 : 128 ≤ ((s[i + 3]'hi3).toNat : Int)) (hz3 : ((s[i + 3]'hi3).toNat : Int) ≤ 191) (T1 : ∀ w, Calls Tryd.prog 102 #[.string s, .int .i64 ((i : Int) + 1)] w fun e w' => e = .returned (.bool true) ∧ w = w') (T2 : ∀ w, Calls Tryd.prog 102 #[.string s, .int .i64 ((i : Int) + 2)] w fun e w' => e = .returned (.bool true) ∧ w = w') (T3 : ∀ w, Calls Tryd.prog 102 #[.string s, .int .i64 ((i : Int) + 3)] w fun e w' => e = .returned (.bool true) ∧ w = w') (hN : ((s[i]'hi).toNat - 240) * 262144 + ((s[i + 1]'hi1).toNat - 128) * 4096 + ((s[i + 2]'hi2).toNat - 128) * 64 + ((s[i + 3]'hi3).toNat - 128) < 65536) :
    Calls Tryd.prog 100 #[.string s, .int .i64 i] w (StepPost (0, 0) w) := by
  replace T1 := Lib.hid T1
  replace T2 := Lib.hid T2
  replace T3 := Lib.hid T3
  have h0 : (i : Int) < s.size := by omega
  have h2 : (s.size : Int) ≤ 65535 := by omega
  have g1 : (i : Int) + 1 < s.size := by omega
  have g2 : (i : Int) + 2 < s.size := by omega
  have g3 : (i : Int) + 3 < s.size := by omega
  go_enter Tryd.func100, Tryd.ntmps100
  go_wp2_with fail
  refine (T1.out _).mono ?_
  rintro e w' ⟨rfl, rfl⟩
  go_wp2_with fail
  refine (T2.out _).mono ?_
  rintro e w' ⟨rfl, rfl⟩
  go_wp2_with fail
  refine (T3.out _).mono ?_
  rintro e w' ⟨rfl, rfl⟩
  go_wp2_with fail
  have w11 : IntKind.i64.wrap ((i : Int) + 1) = i + 1 := IntWalk.i64_in _ (by omega)
  have w21 : ((i : Int) + 1).toNat = i + 1 := by omega
  have w31 : 0 ≤ (i : Int) + 1 := by omega
  have w12 : IntKind.i64.wrap ((i : Int) + 2) = i + 2 := IntWalk.i64_in _ (by omega)
  have w22 : ((i : Int) + 2).toNat = i + 2 := by omega
  have w32 : 0 ≤ (i : Int) + 2 := by omega
  have w13 : IntKind.i64.wrap ((i : Int) + 3) = i + 3 := IntWalk.i64_in _ (by omega)
  have w23 : ((i : Int) + 3).toNat = i + 3 := by omega
  have w33 : 0 ≤ (i : Int) + 3 := by omega
  go_quiet (fail)
  go_wp2
  all_goals
    go_ret2
    exact ⟨ret2_int (by omega) (by omega), nq, rfl⟩
set_option maxHeartbeats 1000000 in
set_option maxRecDepth 100000 in
theorem step_Db (s : ByteArray) (i : Nat) (w : World) (hi : i < s.size) (hs : s.size ≤ 65535) (hx : 240 ≤ ((s[i]'hi).toNat : Int)) (hx2 : ((s[i]'hi).toNat : Int) ≤ 244) (hi1 : i + 1 < s.size) (hy1 : 128 ≤ ((s[i + 1]'hi1).toNat : Int)) (hz1 : ((s[i + 1]'hi1).toNat : Int) ≤ 191) (hi2 : i + 2 < s.size) (hy2 : 128 ≤ ((s[i + 2]'hi2).toNat : Int)) (hz2 : ((s[i + 2]'hi2).toNat : Int) ≤ 191) (hi3 : i + 3 < s.size) (hy3 : 128 ≤ ((s[i + 3]'hi3).toNat : Int)) (hz3 : ((s[i + 3]'hi3).toNat : Int) ≤ 191) (T1 : ∀ w, Calls Tryd.prog 102 #[.string s, .int .i64 ((i : Int) + 1)] w fun e w' => e = .returned (.bool true) ∧ w = w') (T2 : ∀ w, Calls Tryd.prog 102 #[.string s, .int .i64 ((i : Int) + 2)] w fun e w' => e = .returned (.bool true) ∧ w = w') (T3 : ∀ w, Calls Tryd.prog 102 #[.string s, .int .i64 ((i : Int) + 3)] w fun e w' => e = .returned (.bool true) ∧ w = w') (hN : 1114111 < ((s[i]'hi).toNat - 240) * 262144 + ((s[i + 1]'hi1).toNat - 128) * 4096 + ((s[i + 2]'hi2).toNat - 128) * 64 + ((s[i + 3]'hi3).toNat - 128)) :
    Calls Tryd.prog 100 #[.string s, .int .i64 i] w (StepPost (0, 0) w) := by
  replace T1 := Lib.hid T1
  replace T2 := Lib.hid T2
  replace T3 := Lib.hid T3
  have h0 : (i : Int) < s.size := by omega
  have h2 : (s.size : Int) ≤ 65535 := by omega
  have g1 : (i : Int) + 1 < s.size := by omega
  have g2 : (i : Int) + 2 < s.size := by omega
  have g3 : (i : Int) + 3 < s.size := by omega
  go_enter Tryd.func100, Tryd.ntmps100
  go_wp2_with fail
  refine (T1.out _).mono ?_
  rintro e w' ⟨rfl, rfl⟩
  go_wp2_with fail
  refine (T2.out _).mono ?_
  rintro e w' ⟨rfl, rfl⟩
  go_wp2_with fail
  refine (T3.out _).mono ?_
  rintro e w' ⟨rfl, rfl⟩
  go_wp2_with fail
  have w11 : IntKind.i64.wrap ((i : Int) + 1) = i + 1 := IntWalk.i64_in _ (by omega)
  have w21 : ((i : Int) + 1).toNat = i + 1 := by omega
  have w31 : 0 ≤ (i : Int) + 1 := by omega
  have w12 : IntKind.i64.wrap ((i : Int) + 2) = i + 2 := IntWalk.i64_in _ (by omega)
  have w22 : ((i : Int) + 2).toNat = i + 2 := by omega
  have w32 : 0 ≤ (i : Int) + 2 := by omega
  have w13 : IntKind.i64.wrap ((i : Int) + 3) = i + 3 := IntWalk.i64_in _ (by omega)
  have w23 : ((i : Int) + 3).toNat = i + 3 := by omega
  have w33 : 0 ≤ (i : Int) + 3 := by omega
  go_quiet (fail)
  go_wp2
  all_goals
    go_ret2
    exact ⟨ret2_int (by omega) (by omega), nq, rfl⟩
set_option maxHeartbeats 1000000 in
set_option maxRecDepth 100000 in
theorem step_Dc (s : ByteArray) (i : Nat) (w : World) (hi : i < s.size) (hs : s.size ≤ 65535) (hx : 240 ≤ ((s[i]'hi).toNat : Int)) (hx2 : ((s[i]'hi).toNat : Int) ≤ 244) (hi1 : i + 1 < s.size) (hy1 : 128 ≤ ((s[i + 1]'hi1).toNat : Int)) (hz1 : ((s[i + 1]'hi1).toNat : Int) ≤ 191) (hi2 : i + 2 < s.size) (hy2 : 128 ≤ ((s[i + 2]'hi2).toNat : Int)) (hz2 : ((s[i + 2]'hi2).toNat : Int) ≤ 191) (hi3 : i + 3 < s.size) (hy3 : 128 ≤ ((s[i + 3]'hi3).toNat : Int)) (hz3 : ((s[i + 3]'hi3).toNat : Int) ≤ 191) (T1 : ∀ w, Calls Tryd.prog 102 #[.string s, .int .i64 ((i : Int) + 1)] w fun e w' => e = .returned (.bool true) ∧ w = w') (T2 : ∀ w, Calls Tryd.prog 102 #[.string s, .int .i64 ((i : Int) + 2)] w fun e w' => e = .returned (.bool true) ∧ w = w') (T3 : ∀ w, Calls Tryd.prog 102 #[.string s, .int .i64 ((i : Int) + 3)] w fun e w' => e = .returned (.bool true) ∧ w = w') (hN : 65536 ≤ ((s[i]'hi).toNat - 240) * 262144 + ((s[i + 1]'hi1).toNat - 128) * 4096 + ((s[i + 2]'hi2).toNat - 128) * 64 + ((s[i + 3]'hi3).toNat - 128)) (hM : ((s[i]'hi).toNat - 240) * 262144 + ((s[i + 1]'hi1).toNat - 128) * 4096 + ((s[i + 2]'hi2).toNat - 128) * 64 + ((s[i + 3]'hi3).toNat - 128) ≤ 1114111) :
    Calls Tryd.prog 100 #[.string s, .int .i64 i] w (StepPost (4, ((s[i]'hi).toNat - 240) * 262144 + ((s[i + 1]'hi1).toNat - 128) * 4096 + ((s[i + 2]'hi2).toNat - 128) * 64 + ((s[i + 3]'hi3).toNat - 128)) w) := by
  replace T1 := Lib.hid T1
  replace T2 := Lib.hid T2
  replace T3 := Lib.hid T3
  have h0 : (i : Int) < s.size := by omega
  have h2 : (s.size : Int) ≤ 65535 := by omega
  have g1 : (i : Int) + 1 < s.size := by omega
  have g2 : (i : Int) + 2 < s.size := by omega
  have g3 : (i : Int) + 3 < s.size := by omega
  go_enter Tryd.func100, Tryd.ntmps100
  go_wp2_with fail
  refine (T1.out _).mono ?_
  rintro e w' ⟨rfl, rfl⟩
  go_wp2_with fail
  refine (T2.out _).mono ?_
  rintro e w' ⟨rfl, rfl⟩
  go_wp2_with fail
  refine (T3.out _).mono ?_
  rintro e w' ⟨rfl, rfl⟩
  go_wp2_with fail
  have w11 : IntKind.i64.wrap ((i : Int) + 1) = i + 1 := IntWalk.i64_in _ (by omega)
  have w21 : ((i : Int) + 1).toNat = i + 1 := by omega
  have w31 : 0 ≤ (i : Int) + 1 := by omega
  have w12 : IntKind.i64.wrap ((i : Int) + 2) = i + 2 := IntWalk.i64_in _ (by omega)
  have w22 : ((i : Int) + 2).toNat = i + 2 := by omega
  have w32 : 0 ≤ (i : Int) + 2 := by omega
  have w13 : IntKind.i64.wrap ((i : Int) + 3) = i + 3 := IntWalk.i64_in _ (by omega)
  have w23 : ((i : Int) + 3).toNat = i + 3 := by omega
  have w33 : 0 ≤ (i : Int) + 3 := by omega
  go_quiet (fail)
  go_wp2
  all_goals
    go_ret2
    exact ⟨ret2_int (by omega) (by omega), nq, rfl⟩
end Go.Proofs.YtmpklaokgogigaaDoor
