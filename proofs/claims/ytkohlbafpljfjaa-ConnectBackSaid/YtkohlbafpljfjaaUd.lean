/-
  LAYER 4: Put2, Get2, GetRaw, the program's.
-/
import Derived.Test.YtkohlbafpljfjaaUc
import Derived.Deep.QuietTactic
import Derived.BigQuiet
import Derived.Laws.BitsAllLaws
import Derived.Laws.BitsLemmas
namespace Go.Proofs.Ytkohlbafpljfjaa
set_option linter.unusedSimpArgs false
set_option linter.unusedVariables false
open Go.RowKit

theorem ofInt_nat (a : Nat) (h1 : a ≤ 9223372036854775807) : (BitVec.ofInt 64 (a : Int)).toNat = a := by
  rw [BitVec.toNat_ofInt]; omega
theorem i64_or_nat (x y : Nat) (hx : x < 4611686018427387904) (hy : y < 4611686018427387904) : bits .or .i64 (x : Int) (y : Int) = ((x ||| y : Nat) : Int) := by
  have e : bits .or .i64 (x : Int) (y : Int) = IntKind.i64.wrap ((BitVec.ofInt 64 (x : Int) ||| BitVec.ofInt 64 (y : Int)).toNat : Int) := rfl
  have hb : x ||| y < 2 ^ 62 := Nat.or_lt_two_pow hx hy
  rw [e, BitVec.toNat_or, ofInt_nat x (by omega), ofInt_nat y (by omega)]
  exact IntWalk.i64_in _ (by omega)
theorem put2_any (n : Nat) (w : World) (hn : n ≤ 65535) :
    Calls Try.prog 46 #[.int .i64 n] w fun e w' => e = .returned (.tuple #[.slice (some ⟨w.heap.size, 0, none⟩) 2 2, .int .i64 0]) ∧ w' = w.alloc (.cells #[.int .u8 ((n / 256 : Nat) : Int), .int .u8 ((n % 256 : Nat) : Int)] 5) := by
  have hn' : (n : Int) ≤ 65535 := by omega
  go_enter Try.func46, Try.ntmps46
  go_wp2
  go_ret2
  exact ⟨rfl, by simp⟩
def get2V (l : List Nat) (at' : Int) : Int × Int × Int :=
  if at' < 0 ∨ (l.length : Int) < at' then (0, 0, 1)
  else if (l.length : Int) - at' < 2 then (0, 0, 2)
  else (((256 * l.getD at'.toNat 0 + l.getD (at'.toNat + 1) 0 : Nat) : Int), at' + 2, 0)
set_option maxHeartbeats 1000000 in
set_option maxRecDepth 100000 in
theorem get2_any (v : Value) (l : List Nat) (at' : Int) (w : World) (hb : BytesAt w v l) (h256 : ∀ x ∈ l, x < 256) (hl : l.length ≤ 140737488355328) (b : -9223372036854775808 ≤ at' ∧ at' ≤ 9223372036854775807) :
    Calls Try.prog 52 #[v, .int .i64 at'] w fun e w' => e = .returned (.tuple #[.int .i64 (get2V l at').1, .int .i64 (get2V l at').2.1, .int .i64 (get2V l at').2.2]) ∧ ∃ n, w' = w.drewN n := by
  obtain ⟨a, cap, rfl, hcap, hc⟩ := hb
  obtain ⟨n, hn⟩ : ∃ n, n = l.length := ⟨_, rfl⟩
  rw [← hn] at hl hcap hc ⊢
  by_cases h1 : at' < 0 ∨ (n : Int) < at'
  · have e : get2V l at' = (0, 0, 1) := by unfold get2V; rw [← hn, if_pos h1]
    rw [e]
    clear e hn hc hcap
    rcases (show at' < 0 ∨ (0 ≤ at' ∧ (n : Int) < at') by omega) with h | ⟨h, h'⟩
    all_goals
      clear h1
      go_enter Try.func52, Try.ntmps52
      go_wp2
      go_ret3
      exact ⟨rfl, 0, rfl⟩
  · obtain ⟨k, rfl⟩ := Int.eq_ofNat_of_zero_le (show 0 ≤ at' by omega)
    have h0 : (k : Int) ≤ n := by omega
    by_cases h2 : (n : Int) - k < 2
    · have e : get2V l k = (0, 0, 2) := by unfold get2V; rw [← hn, if_neg h1, if_pos h2]
      rw [e]
      clear e hn hc hcap h1
      go_enter Try.func52, Try.ntmps52
      go_wp2
      go_ret3
      exact ⟨rfl, 0, rfl⟩
    · have e : get2V l k = (((256 * l.getD k 0 + l.getD (k + 1) 0 : Nat) : Int), (k : Int) + 2, 0) := by unfold get2V; rw [← hn, if_neg h1, if_neg h2]; simp
      rw [e]
      rcases hc with hc | ⟨bb, o, rfl, hlt, hcell⟩
      · subst hc; simp at hn; omega
      have c0 := hcell k (by omega)
      have c1 := hcell (k + 1) (by omega)
      have b0 : l.getD k 0 < 256 := by
        rw [List.getD_eq_getElem?_getD, List.getElem?_eq_getElem (by omega)]; exact h256 _ (List.getElem_mem _)
      have b1 : l.getD (k + 1) 0 < 256 := by
        rw [List.getD_eq_getElem?_getD, List.getElem?_eq_getElem (by omega)]; exact h256 _ (List.getElem_mem _)
      generalize l.getD k 0 = x at *
      generalize l.getD (k + 1) 0 = y at *
      have hor : bits .or .i64 ((x : Int) * 256) (y : Int) = ((256 * x + y : Nat) : Int) := by
        rw [show (x : Int) * 256 = ((x * 256 : Nat) : Int) from by omega, i64_or_nat _ _ (by omega) (by omega), nat_join 8 _ _ (by omega) (by omega)]
        omega
      have hb0 : (x : Int) < 256 := by omega
      have hb1 : (y : Int) < 256 := by omega
      have w1 : IntKind.i64.wrap ((k : Int) + 1) = k + 1 := IntWalk.i64_in _ (by omega)
      have w2 : ((k : Int) + 1).toNat = k + 1 := by omega
      have w3 : 0 ≤ (k : Int) + 1 := by omega
      have w4 : IntKind.i64.wrap ((k : Int) + 2) = k + 2 := IntWalk.i64_in _ (by omega)
      have c1' : w.cell? ⟨bb, o + k + 1, none⟩ = some (.int .u8 (y : Int)) := by rw [Nat.add_assoc]; exact c1
      have hk2 : (k : Int) + 2 ≤ n := by omega
      clear hcell e hn h256 h1 h2 b
      go_enter Try.func52, Try.ntmps52
      go_wp2
      go_quiet (fail)
      go_wp2
      go_ret3
      exact ⟨by simp, nq, rfl⟩
end Go.Proofs.Ytkohlbafpljfjaa
