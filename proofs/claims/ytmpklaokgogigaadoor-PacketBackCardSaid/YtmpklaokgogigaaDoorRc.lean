/-
  LAYER 11: contracts of Right, Publish, Told, the program's and the document's.
-/
import Derived.Test.YtmpklaokgogigaaDoorProg
import Derived.Test.YtmpklaokgogigaaDoorBlk
import Derived.WalkLawsBesides
import Derived.WalkSpells
import Derived.Deep.DeepMust
import Derived.Deep.DeepFit
import Derived.Outline
import Derived.Lib.Hide
import Derived.RegionTactic
import Derived.ChangeAlike
import Derived.BigRegion
namespace Go.Proofs.YtmpklaokgogigaaDoor.Hea
set_option linter.unusedSimpArgs false
set_option linter.unusedVariables false
open Go.RowKit

/-- The table's third place. -/
def Tab (w : World) : Prop := w.cell? ⟨0, 2, none⟩ = some (.int .u16 15423)

/-- The flags that a message's packet may have. -/
def MayBe (f : Int) : Prop := f = 0 ∨ f = 1 ∨ f = 2 ∨ f = 3 ∨ f = 4 ∨ f = 5 ∨ f = 10 ∨ f = 11 ∨ f = 12 ∨ f = 13
theorem right_ok (f : Int) (w : World) (ht : Tab w) (h : MayBe f) : Calls Tryd.prog 16 #[.int .i64 3, .int .i64 f] w fun e w' => e = .returned (.int .i64 0) ∧ w = w' := by
  unfold Tab at ht
  rcases h with rfl | rfl | rfl | rfl | rfl | rfl | rfl | rfl | rfl | rfl
  all_goals
    go_enter Tryd.func16, Tryd.ntmps16
    go_wp2
    go_ret
    exact ⟨rfl, rfl⟩
end Go.Proofs.YtmpklaokgogigaaDoor.Hea

/-
  LAYER 11: contracts of Publish, the program's and the document's; of what a kind and flags that may not be answer.
-/
namespace Go.Proofs.YtmpklaokgogigaaDoor.Hea
set_option linter.unusedSimpArgs false
set_option linter.unusedVariables false
open Go.RowKit

def Pub (dup : Bool) (qos : Int) (retain : Bool) : Int := if qos < 0 ∨ 2 < qos ∨ (dup = true ∧ qos = 0) then -1 else 2 * qos + (if dup then 8 else 0) + (if retain then 1 else 0)

theorem qos_cases (q : Int) : q < 0 ∨ 2 < q ∨ q = 0 ∨ q = 1 ∨ q = 2 := by omega

set_option maxRecDepth 100000 in
theorem pub14 (dup : Bool) (qos : Int) (retain : Bool) (w : World) : Calls Tryd.prog 52 #[.bool dup, .int .i64 qos, .bool retain] w fun e w' => e = .returned (.int .i64 (Pub dup qos retain)) ∧ w = w' := by
  unfold Pub
  rcases qos_cases qos with h | h | rfl | rfl | rfl
  · go_enter Tryd.func52, Tryd.ntmps52
    go_wp2
    all_goals go_ret
    all_goals exact ⟨rfl, rfl⟩
  · go_enter Tryd.func52, Tryd.ntmps52
    go_wp2
    all_goals go_ret
    all_goals exact ⟨rfl, rfl⟩
  all_goals cases dup <;> cases retain
  all_goals
    go_enter Tryd.func52, Tryd.ntmps52
    go_wp2
    all_goals go_ret
    all_goals exact ⟨rfl, rfl⟩

theorem not_may (f : Int) (h : ¬ MayBe f) : f < 0 ∨ 15 < f ∨ f = 6 ∨ f = 7 ∨ f = 8 ∨ f = 9 ∨ f = 14 ∨ f = 15 := by
  unfold MayBe at h
  omega

set_option maxRecDepth 100000 in
theorem right_bad (f : Int) (w : World) (ht : Tab w) (h : ¬ MayBe f) : Calls Tryd.prog 16 #[.int .i64 3, .int .i64 f] w fun e w' => e = .returned (.int .i64 10) ∧ w = w' := by
  unfold Tab at ht
  rcases not_may f h with h | h | rfl | rfl | rfl | rfl | rfl | rfl
  all_goals
    go_enter Tryd.func16, Tryd.ntmps16
    go_wp2
    all_goals go_ret
    all_goals exact ⟨rfl, rfl⟩

set_option maxRecDepth 100000 in
theorem ref_ok (f : Int) (w : World) (h : MayBe f) : Calls Tryd.prog 18 #[.int .i64 3, .int .i64 f] w fun e w' => e = .returned (.int .i64 0) ∧ w = w' := by
  rcases h with rfl | rfl | rfl | rfl | rfl | rfl | rfl | rfl | rfl | rfl
  all_goals
    go_enter Tryd.func18, Tryd.ntmps18
    go_wp2
    all_goals go_ret
    all_goals exact ⟨rfl, rfl⟩
set_option maxRecDepth 100000 in
theorem ref_bad (f : Int) (w : World) (h : ¬ MayBe f) : Calls Tryd.prog 18 #[.int .i64 3, .int .i64 f] w fun e w' => e = .returned (.int .i64 10) ∧ w = w' := by
  rcases not_may f h with h | h | rfl | rfl | rfl | rfl | rfl | rfl
  all_goals
    go_enter Tryd.func18, Tryd.ntmps18
    go_wp2
    all_goals go_ret
    all_goals exact ⟨rfl, rfl⟩
end Go.Proofs.YtmpklaokgogigaaDoor.Hea

/-
  LAYER 11: contracts of Told, the program's and the document's; awake.
-/
namespace Go.Proofs.YtmpklaokgogigaaDoor.Hea
set_option linter.unusedSimpArgs false
set_option linter.unusedVariables false
open Go.RowKit

def Tell (f : Int) : Value := .tuple #[.bool (decide (8 ≤ f)), .int .i64 (f / 2 % 4), .bool (decide (f % 2 = 1))]
def Void : Value := .tuple #[.bool false, .int .i64 0, .bool false]

set_option maxRecDepth 100000 in
theorem told_ok (f : Int) (w : World) (ht : Tab w) (h : MayBe f) : Calls Tryd.prog 32 #[.int .i64 f] w fun e w' => e = .returned (Tell f) ∧ w = w' := by
  have hr := right_ok f w ht h
  unfold Tell
  rcases h with rfl | rfl | rfl | rfl | rfl | rfl | rfl | rfl | rfl | rfl
  all_goals
    go_enter Tryd.func32, Tryd.ntmps32
    go_wp2_with (first | (go_at_call 16; refine hr.mono ?_; rintro e w' ⟨rfl, rfl⟩) | go_in)
    all_goals go_ret3
    all_goals exact ⟨rfl, rfl⟩
set_option maxRecDepth 100000 in
theorem told_bad (f : Int) (w : World) (ht : Tab w) (h : ¬ MayBe f) : Calls Tryd.prog 32 #[.int .i64 f] w fun e w' => e = .returned Void ∧ w = w' := by
  have hr := right_bad f w ht h
  unfold Void
  go_enter Tryd.func32, Tryd.ntmps32
  go_wp2_with (first | (go_at_call 16; refine hr.mono ?_; rintro e w' ⟨rfl, rfl⟩) | go_in)
  all_goals go_ret3
  all_goals exact ⟨rfl, rfl⟩
set_option maxRecDepth 100000 in
theorem reft_ok (f : Int) (w : World) (h : MayBe f) : Calls Tryd.prog 39 #[.int .i64 f] w fun e w' => e = .returned (Tell f) ∧ w = w' := by
  have hr := ref_ok f w h
  unfold Tell
  rcases h with rfl | rfl | rfl | rfl | rfl | rfl | rfl | rfl | rfl | rfl
  all_goals
    go_enter Tryd.func39, Tryd.ntmps39
    go_wp2_with (first | (go_at_call 18; refine hr.mono ?_; rintro e w' ⟨rfl, rfl⟩) | go_in)
    all_goals go_ret3
    all_goals exact ⟨rfl, rfl⟩
set_option maxRecDepth 100000 in
theorem reft_bad (f : Int) (w : World) (h : ¬ MayBe f) : Calls Tryd.prog 39 #[.int .i64 f] w fun e w' => e = .returned Void ∧ w = w' := by
  have hr := ref_bad f w h
  unfold Void
  go_enter Tryd.func39, Tryd.ntmps39
  go_wp2_with (first | (go_at_call 18; refine hr.mono ?_; rintro e w' ⟨rfl, rfl⟩) | go_in)
  all_goals go_ret3
  all_goals exact ⟨rfl, rfl⟩

end Go.Proofs.YtmpklaokgogigaaDoor.Hea

/-
  LAYER 11: Right, of any kind and any flags, the program's and the document's.
-/
namespace Go.Proofs.YtmpklaokgogigaaDoor.Hea
set_option linter.unusedSimpArgs false
set_option linter.unusedVariables false
open Go.RowKit

/-- The table's three places. -/
def Tab3 (w : World) : Prop := w.cell? ⟨0, 0, none⟩ = some (.int .u16 1) ∧ w.cell? ⟨0, 1, none⟩ = some (.int .u16 4) ∧ w.cell? ⟨0, 2, none⟩ = some (.int .u16 15423)
theorem Tab3.tab {w : World} (h : Tab3 w) : Tab w := h.2.2
def MayBe' (f : Int) : Bool := decide (f = 0 ∨ f = 1 ∨ f = 2 ∨ f = 3 ∨ f = 4 ∨ f = 5 ∨ f = 10 ∨ f = 11 ∨ f = 12 ∨ f = 13)
def RightF (k f : Int) : Int :=
  if k < 1 ∨ 14 < k then 11 else if k = 3 then (if MayBe f then 0 else 10) else if k = 6 ∨ k = 8 ∨ k = 10 then (if f = 2 then 0 else 10) else if f = 0 then 0 else 10
where MayBe (f : Int) : Bool := MayBe' f

theorem row_mid (k : Int) (w : World) (h : k = 6 ∨ k = 8 ∨ k = 10) : Calls Tryd.prog 29 #[.int .i64 k] w fun e w' => e = .returned (.int .i64 1) ∧ w = w' := by
  rcases h with rfl | rfl | rfl
  all_goals
    go_enter Tryd.func29, Tryd.ntmps29
    go_wp2
    go_ret
    exact ⟨rfl, rfl⟩
theorem row_low (k : Int) (w : World) (h3 : ((k == 3) = false)) (h6 : ((k == 6) = false)) (h8 : ((k == 8) = false)) (h10 : ((k == 10) = false)) : Calls Tryd.prog 29 #[.int .i64 k] w fun e w' => e = .returned (.int .i64 0) ∧ w = w' := by
  go_enter Tryd.func29, Tryd.ntmps29
  go_wp2
  go_ret
  exact ⟨rfl, rfl⟩
theorem flags_cases (f : Int) : f < 0 ∨ 15 < f ∨ f = 0 ∨ f = 1 ∨ f = 2 ∨ f = 3 ∨ f = 4 ∨ f = 5 ∨ f = 6 ∨ f = 7 ∨ f = 8 ∨ f = 9 ∨ f = 10 ∨ f = 11 ∨ f = 12 ∨ f = 13 ∨ f = 14 ∨ f = 15 := by omega

set_option maxRecDepth 100000 in
theorem right_mid (k f : Int) (w : World) (ht : Tab3 w) (h : k = 6 ∨ k = 8 ∨ k = 10) : Calls Tryd.prog 16 #[.int .i64 k, .int .i64 f] w fun e w' => e = .returned (.int .i64 (if f = 2 then 0 else 10)) ∧ w = w' := by
  have hr := row_mid k w h
  obtain ⟨_, t1, _⟩ := ht
  have k1 : 1 ≤ k := by omega
  have k2 : k ≤ 14 := by omega
  clear h
  rcases flags_cases f with h | h | rfl | rfl | rfl | rfl | rfl | rfl | rfl | rfl | rfl | rfl | rfl | rfl | rfl | rfl | rfl | rfl
  · rw [if_neg (by omega)]
    go_enter Tryd.func16, Tryd.ntmps16
    go_wp2_with (go_at_call 29; refine hr.mono ?_; rintro e w' ⟨rfl, rfl⟩)
    go_ret
    exact ⟨rfl, rfl⟩
  · rw [if_neg (by omega)]
    go_enter Tryd.func16, Tryd.ntmps16
    go_wp2_with (go_at_call 29; refine hr.mono ?_; rintro e w' ⟨rfl, rfl⟩)
    go_ret
    exact ⟨rfl, rfl⟩
  all_goals
    go_enter Tryd.func16, Tryd.ntmps16
    go_wp2_with (go_at_call 29; refine hr.mono ?_; rintro e w' ⟨rfl, rfl⟩)
    go_ret
    exact ⟨rfl, rfl⟩
set_option maxRecDepth 100000 in
theorem right_low (k f : Int) (w : World) (ht : Tab3 w) (k1 : 1 ≤ k) (k2 : k ≤ 14) (h3 : ((k == 3) = false)) (h6 : ((k == 6) = false)) (h8 : ((k == 8) = false)) (h10 : ((k == 10) = false)) : Calls Tryd.prog 16 #[.int .i64 k, .int .i64 f] w fun e w' => e = .returned (.int .i64 (if f = 0 then 0 else 10)) ∧ w = w' := by
  have hr := row_low k w h3 h6 h8 h10
  obtain ⟨t0, _, _⟩ := ht
  clear h3 h6 h8 h10
  rcases flags_cases f with h | h | rfl | rfl | rfl | rfl | rfl | rfl | rfl | rfl | rfl | rfl | rfl | rfl | rfl | rfl | rfl | rfl
  · rw [if_neg (by omega)]
    go_enter Tryd.func16, Tryd.ntmps16
    go_wp2_with (go_at_call 29; refine hr.mono ?_; rintro e w' ⟨rfl, rfl⟩)
    go_ret
    exact ⟨rfl, rfl⟩
  · rw [if_neg (by omega)]
    go_enter Tryd.func16, Tryd.ntmps16
    go_wp2_with (go_at_call 29; refine hr.mono ?_; rintro e w' ⟨rfl, rfl⟩)
    go_ret
    exact ⟨rfl, rfl⟩
  all_goals
    go_enter Tryd.func16, Tryd.ntmps16
    go_wp2_with (go_at_call 29; refine hr.mono ?_; rintro e w' ⟨rfl, rfl⟩)
    go_ret
    exact ⟨rfl, rfl⟩

theorem kinds (k : Int) : (k < 1 ∨ 14 < k) ∨ k = 3 ∨ (k = 6 ∨ k = 8 ∨ k = 10) ∨ (1 ≤ k ∧ k ≤ 14 ∧ ((k == 3) = false) ∧ ((k == 6) = false) ∧ ((k == 8) = false) ∧ ((k == 10) = false)) := by
  by_cases h1 : k < 1 ∨ 14 < k
  · exact .inl h1
  · by_cases h3 : k = 3
    · exact .inr (.inl h3)
    · by_cases h6 : k = 6 ∨ k = 8 ∨ k = 10
      · exact .inr (.inr (.inl h6))
      · right; right; right
        refine ⟨by omega, by omega, ?_, ?_, ?_, ?_⟩ <;> rw [beq_eq_false_iff_ne] <;> omega
theorem mayBe_iff (f : Int) : RightF.MayBe f = true ↔ MayBe f := by unfold RightF.MayBe MayBe' MayBe; exact decide_eq_true_iff
theorem right_any (k f : Int) (w : World) (ht : Tab3 w) : Calls Tryd.prog 16 #[.int .i64 k, .int .i64 f] w fun e w' => e = .returned (.int .i64 (RightF k f)) ∧ w = w' := by
  unfold RightF
  rcases kinds k with h | rfl | h | ⟨k1, k2, h3, h6, h8, h10⟩
  · rw [if_pos h]
    rcases h with h | h
    all_goals
      go_enter Tryd.func16, Tryd.ntmps16
      go_wp2
      go_ret
      exact ⟨rfl, rfl⟩
  · rw [if_neg (by decide), if_pos rfl]
    by_cases hm : MayBe f
    · rw [if_pos ((mayBe_iff f).2 hm)]
      exact right_ok f w ht.tab hm
    · rw [if_neg (fun h => hm ((mayBe_iff f).1 h))]
      exact right_bad f w ht.tab hm
  · rw [if_neg (by omega), if_neg (by omega), if_pos h]
    exact right_mid k f w ht h
  · have n3 := beq_eq_false_iff_ne.1 h3
    have n6 := beq_eq_false_iff_ne.1 h6
    have n8 := beq_eq_false_iff_ne.1 h8
    have n10 := beq_eq_false_iff_ne.1 h10
    rw [if_neg (by omega), if_neg n3, if_neg (by rintro (h | h | h) <;> contradiction)]
    exact right_low k f w ht k1 k2 h3 h6 h8 h10

theorem ref_any (k f : Int) (w : World) : Calls Tryd.prog 18 #[.int .i64 k, .int .i64 f] w fun e w' => e = .returned (.int .i64 (RightF k f)) ∧ w = w' := by
  unfold RightF
  rcases kinds k with h | rfl | h | ⟨k1, k2, h3, h6, h8, h10⟩
  · rw [if_pos h]
    rcases h with h | h
    all_goals
      go_enter Tryd.func18, Tryd.ntmps18
      go_wp2
      go_ret
      exact ⟨rfl, rfl⟩
  · rw [if_neg (by decide), if_pos rfl]
    by_cases hm : MayBe f
    · rw [if_pos ((mayBe_iff f).2 hm)]
      exact ref_ok f w hm
    · rw [if_neg (fun h => hm ((mayBe_iff f).1 h))]
      exact ref_bad f w hm
  · rw [if_neg (by omega), if_neg (by omega), if_pos h]
    by_cases hf : f = 2
    · subst hf
      rw [if_pos rfl]
      rcases h with rfl | rfl | rfl
      all_goals
        go_enter Tryd.func18, Tryd.ntmps18
        go_wp2
        go_ret
        exact ⟨rfl, rfl⟩
    · rw [if_neg hf]
      have hb : (f != 2) = true := by simpa using hf
      clear hf
      rcases h with rfl | rfl | rfl
      all_goals
        go_enter Tryd.func18, Tryd.ntmps18
        go_wp2
        go_ret
        exact ⟨rfl, rfl⟩
  · have n3 := beq_eq_false_iff_ne.1 h3
    have n6 := beq_eq_false_iff_ne.1 h6
    have n8 := beq_eq_false_iff_ne.1 h8
    have n10 := beq_eq_false_iff_ne.1 h10
    rw [if_neg (by omega), if_neg n3, if_neg (by rintro (h | h | h) <;> contradiction)]
    clear n3 n6 n8 n10
    by_cases hf : f = 0
    · subst hf
      rw [if_pos rfl]
      go_enter Tryd.func18, Tryd.ntmps18
      go_wp2
      go_ret
      exact ⟨rfl, rfl⟩
    · rw [if_neg hf]
      have hb : (f != 0) = true := by simpa using hf
      clear hf
      go_enter Tryd.func18, Tryd.ntmps18
      go_wp2
      go_ret
      exact ⟨rfl, rfl⟩
end Go.Proofs.YtmpklaokgogigaaDoor.Hea

/-
  LAYER 11: a length, the program's.
-/
namespace Go.Proofs.YtmpklaokgogigaaDoor.Hea
set_option linter.unusedSimpArgs false
set_option linter.unusedVariables false
open Go.RowKit

/-- What is read as a length: of at most f bytes more, i of them being read already as the number n: the number, how many bytes, the error. -/
def lenF : Nat → Nat → Nat → List Nat → Nat × Nat × Nat
  | 0, _, _, _ => (0, 0, 3)
  | _ + 1, _, _, [] => (0, 0, 2)
  | f + 1, i, n, c :: r => if c < 128 then (if n + c * 128 ^ i ≤ 4096 then (n + c * 128 ^ i, i + 1, 0) else (0, 0, 3)) else lenF f (i + 1) (n + (c - 128) * 128 ^ i) r
def lenV (l : List Nat) (k0 : Nat) : Value :=
  .tuple #[.int .i64 ((lenF 4 0 0 (l.drop k0)).1 : Int), .int .i64 (if (lenF 4 0 0 (l.drop k0)).2.2 = 0 then (k0 : Int) + ((lenF 4 0 0 (l.drop k0)).2.1 : Int) else 0), .int .i64 ((lenF 4 0 0 (l.drop k0)).2.2 : Int)]
theorem byte_lt (l : List Nat) (h : ∀ x ∈ l, x < 256) (j : Nat) : l.getD j 0 < 256 := by
  rw [List.getD_eq_getElem?_getD]
  cases e : l[j]? with
  | none => simp
  | some x => exact h x (List.mem_of_getElem? e)
theorem ofInt_nat (a : Nat) (h1 : a ≤ 9223372036854775807) : (BitVec.ofInt 64 (a : Int)).toNat = a := by
  rw [BitVec.toNat_ofInt]; omega
theorem i64_or_nat (x y : Nat) (hx : x < 4611686018427387904) (hy : y < 4611686018427387904) : bits .or .i64 (x : Int) (y : Int) = ((x ||| y : Nat) : Int) := by
  have e : bits .or .i64 (x : Int) (y : Int) = IntKind.i64.wrap ((BitVec.ofInt 64 (x : Int) ||| BitVec.ofInt 64 (y : Int)).toNat : Int) := rfl
  have hb : x ||| y < 2 ^ 62 := Nat.or_lt_two_pow hx hy
  rw [e, BitVec.toNat_or, ofInt_nat x (by omega), ofInt_nat y (by omega)]
  exact IntWalk.i64_in _ (by omega)
theorem pow128 (i : Nat) : (2 : Nat) ^ (7 * i) = 128 ^ i := by rw [Nat.pow_mul]
theorem or_len (n i c : Nat) (hi : i ≤ 3) (hn : n < 128 ^ i) (hc : c < 128) : bits .or .i64 (n : Int) (wrap64 ((c : Int) * 2 ^ (7 * i))) = ((n + c * 128 ^ i : Nat) : Int) := by
  have hp : (128 : Nat) ^ i ≤ 2097152 := Nat.pow_le_pow_right (n := 128) (by decide) hi
  have hm : c * 128 ^ i ≤ 127 * 2097152 := Nat.mul_le_mul (by omega) hp
  have e : (c : Int) * 2 ^ (7 * i) = ((c * 128 ^ i : Nat) : Int) := by
    rw [show (2 : Int) ^ (7 * i) = ((2 ^ (7 * i) : Nat) : Int) from by simp, pow128, ← Int.natCast_mul]
  rw [e, show wrap64 ((c * 128 ^ i : Nat) : Int) = ((c * 128 ^ i : Nat) : Int) from IntWalk.wrap64_in _ ⟨by omega, by omega⟩, i64_or_nat _ _ (by omega) (by omega), Nat.or_comm, nat_join (7 * i) _ _ (by rw [pow128]; exact Nat.mul_mod_left _ _) (by rw [pow128]; exact hn), Nat.add_comm]

def LenRel (l : List Nat) (k0 : Nat) (v i : Value) : Prop :=
  ∃ j n : Nat, i = .int .i64 j ∧ v = .int .i64 n ∧ j ≤ 4 ∧ k0 + j ≤ l.length ∧ n < 128 ^ j ∧ lenF 4 0 0 (l.drop k0) = lenF (4 - j) j n (l.drop (k0 + j))
set_option maxHeartbeats 1000000 in
set_option maxRecDepth 100000 in
theorem len_any (v : Value) (l : List Nat) (k0 : Nat) (w : World) (hB : BytesAt w v l) (h : ∀ x ∈ l, x < 256) (hl : l.length ≤ 140737488355328) (hk : k0 ≤ l.length) :
    Calls Tryd.prog 44 #[v, .int .i64 (k0 : Int)] w fun e w' => e = .returned (lenV l k0) ∧ w = w' := by
  obtain ⟨a, cap, rfl, hcp, hcase⟩ := hB
  have HC := Lib.hid hcase
  have HH := Lib.hid h
  have b0 : (0 : Int) ≤ k0 := by omega
  have b1 : (k0 : Int) ≤ l.length := by omega
  clear hcase h hcp
  go_enter Tryd.func44, Tryd.ntmps44
  go_wp2
  go_loop [7, 10] (fun v i => LenRel l k0 v i) (fun _ i => 10 - (intOf i).toNat)
  case atStart => exact ⟨0, 0, rfl, rfl, by omega, by omega, by omega, rfl⟩
  case round =>
    obtain ⟨j, n, rfl, rfl, hj, hkj, hn, hget⟩ := hrel
    by_cases hj4 : j < 4
    · have hj4' : (j : Int) < 4 := by omega
      obtain ⟨f, hf⟩ : ∃ f, 4 - j = f + 1 := ⟨3 - j, by omega⟩
      rw [hf] at hget
      by_cases hend : k0 + j = l.length
      · have HV : Hid (lenV l k0 = .tuple #[.int .i64 0, .int .i64 0, .int .i64 2]) := by
          refine Lib.hid ?_
          unfold lenV
          rw [hget, hend, List.drop_length]
          rfl
        have he2 : ((k0 : Int) + (j : Int) == (l.length : Int)) = true := by rw [beq_iff_eq]; omega
        clear hget hn hend hf
        go_wp2
        go_ret3
        exact ⟨by rw [HV.out]; rfl, rfl⟩
      · obtain ⟨d, hd⟩ : ∃ d, d = l.getD (k0 + j) 0 := ⟨_, rfl⟩
        have hd2 : d < 256 := by rw [hd]; exact byte_lt l HH.out (k0 + j)
        have hcell : ∃ b o, a = some ⟨b, o, none⟩ ∧ w.cell? ⟨b, o + (k0 + j), none⟩ = some (.int .u8 (d : Int)) := by
          rcases HC.out with h | ⟨b, o, ha, hb, hc⟩
          · rw [h] at hkj hend; simp at hkj hend; omega
          · exact ⟨b, o, ha, by rw [hd]; exact hc _ (by omega)⟩
        obtain ⟨b, o, rfl, hc⟩ := hcell
        have hdrop : lenF 4 0 0 (l.drop k0) = if d < 128 then (if n + d * 128 ^ j ≤ 4096 then (n + d * 128 ^ j, j + 1, 0) else (0, 0, 3)) else lenF f (j + 1) (n + (d - 128) * 128 ^ j) (l.drop (k0 + (j + 1))) := by
          rw [hget, List.drop_eq_getElem_cons (show k0 + j < l.length by omega), lenF]
          have e' : l.getD (k0 + j) 0 = l[k0 + j]'(by omega) := by simp [List.getD, List.getElem?_eq_getElem (show k0 + j < l.length by omega)]
          rw [← e', ← hd]
          rfl
        have HD := Lib.hid hdrop
        have HN := Lib.hid hn
        have hne : ((k0 : Int) + (j : Int) == (l.length : Int)) = false := by rw [beq_eq_false_iff_ne]; omega
        have k7 : IntKind.i64.wrap (7 * (j : Int)) = 7 * (j : Int) := IntWalk.i64_in _ (by omega)
        have k70 : (0 : Int) ≤ 7 * (j : Int) := by omega
        have k7n : (7 * (j : Int)).toNat = 7 * j := by omega
        have kand : bits .and .u8 (d : Int) 127 = ((d % 128 : Nat) : Int) := by
          rw [show (127 : Int) = ((127 : Nat) : Int) from rfl, u8_and_nat _ _ hd2 (by decide), nat_mask7]
        obtain ⟨N, hN⟩ : ∃ N : Nat, N = n + d % 128 * 128 ^ j := ⟨_, rfl⟩
        have hor : bits .or .i64 (n : Int) (wrap64 ((d : Int) % 128 * 2 ^ (7 * j))) = (N : Int) := by
          rw [hN]
          have := or_len n j (d % 128) (by omega) hn (by omega)
          rw [show ((d % 128 : Nat) : Int) = (d : Int) % 128 from by omega] at this
          exact this
        have hix : (k0 : Int) + (j : Int) < (l.length : Int) := by omega
        have hlt : N < 128 ^ (j + 1) := by
          have : d % 128 * 128 ^ j ≤ 127 * 128 ^ j := Nat.mul_le_mul_right _ (by omega)
          rw [hN, Nat.pow_succ]; omega
        have HNN := Lib.hid hN
        have HLT := Lib.hid hlt
        clear hget hdrop hd hend hn hN hlt
        by_cases hlow : d < 128
        · have hl1 : decide ((d : Int) < 128) = true := by simp; omega
          have hg := HD.out
          rw [if_pos hlow, show n + d * 128 ^ j = N from by rw [HNN.out, Nat.mod_eq_of_lt hlow]] at hg
          by_cases hN4 : N ≤ 4096
          · have hN4' : (N : Int) ≤ 4096 := by omega
            have HV : Hid (lenV l k0 = .tuple #[.int .i64 (N : Int), .int .i64 ((k0 : Int) + (j : Int) + 1), .int .i64 0]) := by
              refine Lib.hid ?_
              unfold lenV
              rw [hg, if_pos hN4]
              simp only [if_true]
              rw [show (k0 : Int) + ((j + 1 : Nat) : Int) = (k0 : Int) + (j : Int) + 1 from by omega]
              rfl
            clear hg hf
            go_wp2
            go_ret3
            exact ⟨by rw [HV.out]; rfl, rfl⟩
          · have hN4' : (4096 : Int) < (N : Int) := by omega
            have HV : Hid (lenV l k0 = .tuple #[.int .i64 0, .int .i64 0, .int .i64 3]) := by
              refine Lib.hid ?_
              unfold lenV
              rw [hg, if_neg hN4]
              rfl
            clear hg hf
            go_wp2
            go_ret3
            exact ⟨by rw [HV.out]; rfl, rfl⟩
        · have hl1 : decide ((d : Int) < 128) = false := by simp; omega
          have hg := HD.out
          rw [if_neg hlow, show n + (d - 128) * 128 ^ j = N from by rw [HNN.out, show d - 128 = d % 128 from by omega], show f = 4 - (j + 1) from by omega] at hg
          have HG := Lib.hid hg
          clear hg hf
          go_wp2
          go_round
          case rel => exact ⟨j + 1, N, by go_num, rfl, by omega, by omega, HLT.out, HG.out⟩
          case measure => simp [intOf]; omega
    · obtain rfl : j = 4 := by omega
      have HV : Hid (lenV l k0 = .tuple #[.int .i64 0, .int .i64 0, .int .i64 3]) := by
        refine Lib.hid ?_
        unfold lenV
        rw [hget]
        rfl
      clear hget
      go_wp2
      go_ret3
      exact ⟨by rw [HV.out]; rfl, rfl⟩
end Go.Proofs.YtmpklaokgogigaaDoor.Hea

/-
  LAYER 11: Get, the program's.
-/
namespace Go.Proofs.YtmpklaokgogigaaDoor.Hea
set_option linter.unusedSimpArgs false
set_option linter.unusedVariables false
open Go.RowKit

def HV (k f n to e : Int) : Value := .tuple #[.agg #[.int .i64 k, .int .i64 f, .int .i64 n], .int .i64 to, .int .i64 e]
/-- What Get answers at a place within the bytes, or at their end. -/
def getV (l : List Nat) (k0 : Nat) : Value :=
  if k0 = l.length then HV 0 0 0 0 2
  else if RightF ((l.getD k0 0 / 16 : Nat) : Int) ((l.getD k0 0 % 16 : Nat) : Int) ≠ 0 then HV 0 0 0 0 (RightF ((l.getD k0 0 / 16 : Nat) : Int) ((l.getD k0 0 % 16 : Nat) : Int))
  else if (lenF 4 0 0 (l.drop (k0 + 1))).2.2 = 0 then HV ((l.getD k0 0 / 16 : Nat) : Int) ((l.getD k0 0 % 16 : Nat) : Int) ((lenF 4 0 0 (l.drop (k0 + 1))).1 : Int) ((k0 : Int) + 1 + ((lenF 4 0 0 (l.drop (k0 + 1))).2.1 : Int)) 0
  else HV 0 0 0 0 ((lenF 4 0 0 (l.drop (k0 + 1))).2.2 : Int)
def GPost (l : List Nat) (k0 : Nat) (w : World) (e : Ending) (w' : World) : Prop := e = .returned (getV l k0) ∧ Below w.heap.size w w'
theorem Tab3.keep {w w' : World} (h : Tab3 w) (hb : Below w.heap.size w w') : Tab3 w' := by
  have h0 : 0 < w.heap.size := by
    rcases Nat.eq_zero_or_pos w.heap.size with h0 | h0
    · have : w.cell? ⟨0, 0, none⟩ = none := by
        unfold World.cell?
        simp [Array.getElem?_eq_none (show w.heap.size ≤ 0 by omega)]
      have h1 := h.1
      rw [this] at h1
      cases h1
    · exact h0
  exact ⟨(hb.cell (p := ⟨0, 0, none⟩) h0).trans h.1, (hb.cell (p := ⟨0, 1, none⟩) h0).trans h.2.1, (hb.cell (p := ⟨0, 2, none⟩) h0).trans h.2.2⟩

set_option maxHeartbeats 1000000 in
set_option maxRecDepth 100000 in
theorem get_arg (a : Option Addr) (len cap : Nat) (k : Int) (w : World) (h0 : -9223372036854775808 ≤ k) (h1 : k ≤ 9223372036854775807) (h : k < 0 ∨ (0 ≤ k ∧ (len : Int) < k)) :
    Calls Tryd.prog 20 #[.slice a len cap, .int .i64 k] w fun e w' => e = .returned (HV 0 0 0 0 1) ∧ Below w.heap.size w w' := by
  rcases h with h | ⟨h, h2⟩
  all_goals
    go_enter Tryd.func20, Tryd.ntmps20
    go_wp2
    exact bodyPost_ret (v := HV 0 0 0 0 1) (by simp [results, Tryd.results20, go_sem, HV]) rfl ⟨rfl, by repeat (first | exact Below.refl _ _ | refine Below.drew ?_ | refine Below.alloc ?_ (by simp <;> omega) _ | refine Below.setCell ?_ (by simp <;> omega) _)⟩

set_option maxHeartbeats 1000000 in
set_option maxRecDepth 100000 in
theorem get_any (v : Value) (l : List Nat) (k0 : Nat) (w : World) (ht : Tab3 w) (hB : BytesAt w v l) (h : ∀ x ∈ l, x < 256) (hl : l.length ≤ 140737488355328) (hk : k0 ≤ l.length) :
    Calls Tryd.prog 20 #[v, .int .i64 (k0 : Int)] w (GPost l k0 w) := by
  have HB := Lib.hid hB
  have HT := Lib.hid ht
  obtain ⟨a, cap, rfl, hcp, hcase⟩ := hB
  have HC := Lib.hid hcase
  have HH := Lib.hid h
  have b0 : (0 : Int) ≤ k0 := by omega
  have b1 : (k0 : Int) ≤ l.length := by omega
  clear hcase h hcp ht
  by_cases hend : k0 = l.length
  · have HVe : Hid (getV l k0 = HV 0 0 0 0 2) := Lib.hid (by unfold getV; rw [if_pos hend])
    have hb : ((k0 : Int) == (l.length : Int)) = true := by rw [beq_iff_eq]; omega
    clear hend
    go_enter Tryd.func20, Tryd.ntmps20
    go_wp2
    exact bodyPost_ret (v := HV 0 0 0 0 2) (by simp [results, Tryd.results20, go_sem, HV]) rfl ⟨by rw [HVe.out], by repeat (first | exact Below.refl _ _ | refine Below.drew ?_ | refine Below.alloc ?_ (by simp <;> omega) _ | refine Below.setCell ?_ (by simp <;> omega) _)⟩
  · obtain ⟨d, hd⟩ : ∃ d, d = l.getD k0 0 := ⟨_, rfl⟩
    have hd2 : d < 256 := by rw [hd]; exact byte_lt l HH.out k0
    have hcell : ∃ b o, a = some ⟨b, o, none⟩ ∧ b < w.heap.size ∧ w.cell? ⟨b, o + k0, none⟩ = some (.int .u8 (d : Int)) := by
      rcases HC.out with h | ⟨b, o, ha, hb, hc⟩
      · rw [h] at hk hend; simp at hk hend; omega
      · exact ⟨b, o, ha, hb, by rw [hd]; exact hc _ (by omega)⟩
    obtain ⟨b, o, rfl, hbl, hc⟩ := hcell
    have hne : ((k0 : Int) == (l.length : Int)) = false := by rw [beq_eq_false_iff_ne]; omega
    have hlt : (k0 : Int) < (l.length : Int) := by omega
    have hc1 : (w.alloc (.cells #[.int .i64 0, .int .i64 0, .int .i64 0] 23)).cell? ⟨b, o + k0, none⟩ = some (.int .u8 (d : Int)) := by rw [World.cell?_alloc_past _ _ _ hbl]; exact hc
    have kand : bits .and .u8 (d : Int) 15 = ((d % 16 : Nat) : Int) := by
      rw [show (15 : Int) = ((15 : Nat) : Int) from rfl, u8_and_nat _ _ hd2 (by decide), nat_mask4]
    obtain ⟨E, hE⟩ : ∃ E, RightF ((d : Int) / 16) ((d : Int) % 16) = E := ⟨_, rfl⟩
    have R := fun (W : World) (hW : Tab3 W) => right_any ((d : Int) / 16) ((d : Int) % 16) W hW
    rw [hE] at R
    have hq1 : ((d / 16 : Nat) : Int) = (d : Int) / 16 := by omega
    have hq2 : ((d % 16 : Nat) : Int) = (d : Int) % 16 := by omega
    obtain ⟨x, y, z, hL⟩ : ∃ x y z : Nat, lenF 4 0 0 (l.drop (k0 + 1)) = (x, y, z) := ⟨_, _, _, rfl⟩
    have hgV : getV l k0 = if E ≠ 0 then HV 0 0 0 0 E else if z = 0 then HV ((d : Int) / 16) ((d : Int) % 16) x ((k0 : Int) + 1 + y) 0 else HV 0 0 0 0 z := by
      unfold getV
      rw [if_neg hend, ← hd, hq1, hq2, hE, hL]
    have HG := Lib.hid hgV
    have RH := Lib.hid R
    have keepT : ∀ W, Below w.heap.size w W → Tab3 W := fun W hW => HT.out.keep hW
    have KT := Lib.hid keepT
    clear hend hd hE hq1 hq2 hgV R keepT
    by_cases hE0 : E = 0
    · subst hE0
      have L : ∀ W, Below w.heap.size w W → Calls Tryd.prog 44 #[.slice (some ⟨b, o, none⟩) l.length cap, .int .i64 ((k0 : Int) + 1)] W fun e w' => e = .returned (.tuple #[.int .i64 (x : Int), .int .i64 (if z = 0 then (k0 : Int) + 1 + (y : Int) else 0), .int .i64 (z : Int)]) ∧ W = w' := by
        intro W hW
        have := len_any _ l (k0 + 1) W (HB.out.keep hW (Nat.le_refl _)) HH.out hl (by omega)
        unfold lenV at this
        rw [hL] at this
        rw [show ((k0 + 1 : Nat) : Int) = (k0 : Int) + 1 from by omega] at this
        exact this
      have LH := Lib.hid L
      clear L hL
      by_cases hz : z = 0
      · subst hz
        have LH0 := LH.out
        simp only [if_true] at LH0
        have LH := Lib.hid LH0
        clear LH0
        have hHV : Hid (getV l k0 = HV ((d : Int) / 16) ((d : Int) % 16) x ((k0 : Int) + 1 + y) 0) := Lib.hid (by rw [HG.out, if_neg (by decide), if_pos rfl])
        go_enter Tryd.func20, Tryd.ntmps20
        go_wp2
        go_region
        go_wp2_with (first
          | (go_at_call 16; refine (RH.out _ (KT.out _ (by repeat (first | exact Below.refl _ _ | refine Below.drew ?_ | refine Below.alloc ?_ (by simp <;> omega) _)))).mono ?_; rintro e w' ⟨rfl, rfl⟩)
          | (go_at_call 44; refine (LH.out _ (by repeat (first | exact Below.refl _ _ | refine Below.drew ?_ | refine Below.alloc ?_ (by simp <;> omega) _))).mono ?_; rintro e w' ⟨rfl, rfl⟩))
        exact bodyPost_ret (v := HV ((d : Int) / 16) ((d : Int) % 16) x ((k0 : Int) + 1 + y) 0) (by simp [results, Tryd.results20, go_sem, HV]) rfl ⟨by rw [hHV.out], by repeat (first | exact Below.refl _ _ | refine Below.drew ?_ | refine Below.alloc ?_ (by simp <;> omega) _ | refine Below.setCell ?_ (by simp <;> omega) _)⟩
      · have hzb : (((z : Nat) : Int) != 0) = true := by simp; omega
        have LH0 := LH.out
        simp only [hz, if_false] at LH0
        have LH := Lib.hid LH0
        clear LH0
        have hHV : Hid (getV l k0 = HV 0 0 0 0 z) := Lib.hid (by rw [HG.out, if_neg (by decide), if_neg hz])
        have HZ := Lib.hid hz
        clear hz
        go_enter Tryd.func20, Tryd.ntmps20
        go_wp2
        go_region
        go_wp2_with (first
          | (go_at_call 16; refine (RH.out _ (KT.out _ (by repeat (first | exact Below.refl _ _ | refine Below.drew ?_ | refine Below.alloc ?_ (by simp <;> omega) _)))).mono ?_; rintro e w' ⟨rfl, rfl⟩)
          | (go_at_call 44; refine (LH.out _ (by repeat (first | exact Below.refl _ _ | refine Below.drew ?_ | refine Below.alloc ?_ (by simp <;> omega) _))).mono ?_; rintro e w' ⟨rfl, rfl⟩))
        exact bodyPost_ret (v := HV 0 0 0 0 z) (by simp [results, Tryd.results20, go_sem, HV]) rfl ⟨by rw [hHV.out], by repeat (first | exact Below.refl _ _ | refine Below.drew ?_ | refine Below.alloc ?_ (by simp <;> omega) _ | refine Below.setCell ?_ (by simp <;> omega) _)⟩
    · have hEb : (E != 0) = true := by simpa using hE0
      have hHV : Hid (getV l k0 = HV 0 0 0 0 E) := Lib.hid (by rw [HG.out, if_pos hE0])
      have HE0 := Lib.hid hE0
      clear hE0 hL
      go_enter Tryd.func20, Tryd.ntmps20
      go_wp2
      go_region
      go_wp2_with (go_at_call 16; refine (RH.out _ (KT.out _ (by repeat (first | exact Below.refl _ _ | refine Below.drew ?_ | refine Below.alloc ?_ (by simp <;> omega) _)))).mono ?_; rintro e w' ⟨rfl, rfl⟩)
      exact bodyPost_ret (v := HV 0 0 0 0 E) (by simp [results, Tryd.results20, go_sem, HV]) rfl ⟨by rw [hHV.out], by repeat (first | exact Below.refl _ _ | refine Below.drew ?_ | refine Below.alloc ?_ (by simp <;> omega) _ | refine Below.setCell ?_ (by simp <;> omega) _)⟩
end Go.Proofs.YtmpklaokgogigaaDoor.Hea
