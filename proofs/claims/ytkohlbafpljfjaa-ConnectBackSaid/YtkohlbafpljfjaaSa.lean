/-
  LAYER 15: numbers ahead, codes, of both sides.
-/
import Derived.Test.YtkohlbafpljfjaaUm
namespace Go.Proofs.Ytkohlbafpljfjaa
set_option linter.unusedSimpArgs false
set_option linter.unusedVariables false
open Go.RowKit

def Bs2 (E : Int) (L : List Nat) (w : World) (e : Ending) (w' : World) : Prop := ∃ v, e = .returned (.tuple #[v, .int .i64 E]) ∧ w'.ownsRow w.heap.size 5 1 v L.length (bl L) ∧ Below w.heap.size w w'
def beginE (id : Int) (n : Int) : Int := if id < 1 ∨ 65535 < id then 1 else if n = 0 then 4 else if 8 < n then 6 else 0
def beginL (id : Int) (n : Int) : List Nat := if beginE id n = 0 then [(id / 256).toNat, (id % 256).toNat] else []
theorem two_own (w : World) (n : Nat) : (w.alloc (.cells #[.int .u8 ((n / 256 : Nat) : Int), .int .u8 ((n % 256 : Nat) : Int)] 5)).ownsRow w.heap.size 5 1 (.slice (some ⟨w.heap.size, 0, none⟩) 2 2) 2 (bl [n / 256, n % 256]) := by
  have := World.ownsRow_lit (base := w.heap.size) (e := 5) (size := 1) w #[.int .u8 ((n / 256 : Nat) : Int), .int .u8 ((n % 256 : Nat) : Int)] 2 (by simp) (by unfold maxLen; omega) rfl
  simpa [bl] using this
theorem own_nil (w : World) (B : Nat) : w.ownsRow B 5 1 (.slice none 0 0) 0 (bl []) := World.ownsRow_nil w B 5 1
set_option maxRecDepth 100000 in
theorem begin_any (id : Int) (n : Int) (w : World) (hid : -9223372036854775808 ≤ id ∧ id ≤ 9223372036854775807) (h0 : 0 ≤ n) : Calls Try.prog 24 #[.int .i64 id, .int .i64 n] w (Bs2 (beginE id n) (beginL id n) w) := by
  by_cases h1 : id < 1 ∨ 65535 < id
  · have e : beginE id n = 1 := by unfold beginE; rw [if_pos h1]
    have l : beginL id n = [] := by unfold beginL; rw [if_neg (by rw [e]; decide)]
    rw [e, l]
    have h1' : id < 1 ∨ (1 ≤ id ∧ 65535 < id) := by omega
    clear e l h1
    rcases h1' with h | ⟨h, h'⟩
    all_goals
      go_enter Try.func24, Try.ntmps24
      go_wp2
      go_ret2
      exact ⟨_, rfl, own_nil _ _, Below.refl _ _⟩
  obtain ⟨k, rfl⟩ := Int.eq_ofNat_of_zero_le (show 0 ≤ id by omega)
  have k1 : (1 : Int) ≤ k := by omega
  have k2 : (k : Int) ≤ 65535 := by omega
  by_cases h2 : n = 0
  · subst h2
    have e : beginE k 0 = 4 := by unfold beginE; rw [if_neg h1, if_pos rfl]
    have l : beginL k 0 = [] := by unfold beginL; rw [if_neg (by rw [e]; decide)]
    rw [e, l]
    clear e l h1
    go_enter Try.func24, Try.ntmps24
    go_wp2
    go_ret2
    exact ⟨_, rfl, own_nil _ _, Below.refl _ _⟩
  by_cases h3 : 8 < n
  · have e : beginE k n = 6 := by unfold beginE; rw [if_neg h1, if_neg h2, if_pos h3]
    have l : beginL k n = [] := by unfold beginL; rw [if_neg (by rw [e]; decide)]
    rw [e, l]
    clear e l h1 h2
    go_enter Try.func24, Try.ntmps24
    go_wp2
    go_ret2
    exact ⟨_, rfl, own_nil _ _, Below.refl _ _⟩
  · have e : beginE k n = 0 := by unfold beginE; rw [if_neg h1, if_neg h2, if_neg h3]
    have l : beginL k n = [k / 256, k % 256] := by
      unfold beginL; rw [if_pos e]
      simp only [List.cons.injEq, and_true]; omega
    rw [e, l]
    have P := Lib.hid (fun w => put2_any k w (by omega))
    have n0 : (n == 0) = false := by simpa using h2
    clear e l h1
    replace h2 := Lib.hid h2
    go_enter Try.func24, Try.ntmps24
    go_wp2_with fail
    refine (P.out _).mono ?_
    rintro e w1 ⟨rfl, rfl⟩
    go_wp2_with fail
    go_ret2
    exact ⟨_, rfl, two_own w k, ext_alloc _ _⟩
/-- May a code be? -/
def codeB (c : Int) : Bool := decide ((0 ≤ c ∧ c ≤ 2) ∨ c = 128)
set_option maxRecDepth 100000 in
theorem code_any (g : FuncId) (hg : g = 32 ∨ g = 33) (c : Int) (w : World) : Calls Try.prog g #[.int .i64 c] w fun e w' => e = .returned (.bool (codeB c)) ∧ w = w' := by
  have key : (c < 0) ∨ (c = 0 ∨ c = 1 ∨ c = 2) ∨ c = 128 ∨ (2 < c ∧ c ≠ 128) := by omega
  rcases key with h | h | h | ⟨h, h'⟩
  · have : codeB c = false := decide_eq_false (by omega)
    rw [this]
    have e1 : (c == 128) = false := by rw [beq_eq_false_iff_ne]; omega
    rcases hg with rfl | rfl
    · go_enter Try.func32, Try.ntmps32
      go_wp2
      go_ret
      exact ⟨rfl, rfl⟩
    · go_enter Try.func33, Try.ntmps33
      go_wp2
      go_ret
      exact ⟨rfl, rfl⟩
  · have : codeB c = true := decide_eq_true (by omega)
    rw [this]
    rcases h with rfl | rfl | rfl
    all_goals
      rcases hg with rfl | rfl
      · go_enter Try.func32, Try.ntmps32
        go_wp2
        go_ret
        exact ⟨rfl, rfl⟩
      · go_enter Try.func33, Try.ntmps33
        go_wp2
        go_ret
        exact ⟨rfl, rfl⟩
  · subst h
    rcases hg with rfl | rfl
    · go_enter Try.func32, Try.ntmps32
      go_wp2
      go_ret
      exact ⟨rfl, rfl⟩
    · go_enter Try.func33, Try.ntmps33
      go_wp2
      go_ret
      exact ⟨rfl, rfl⟩
  · have : codeB c = false := decide_eq_false (by omega)
    rw [this]
    have e1 : (c == 128) = false := by rw [beq_eq_false_iff_ne]; omega
    have e2 : decide (c ≤ 2) = false := decide_eq_false (by omega)
    have e3 : 0 ≤ c := by omega
    replace h' := Lib.hid h'
    rcases hg with rfl | rfl
    · go_enter Try.func32, Try.ntmps32
      go_wp2
      go_ret
      exact ⟨rfl, rfl⟩
    · go_enter Try.func33, Try.ntmps33
      go_wp2
      go_ret
      exact ⟨rfl, rfl⟩
end Go.Proofs.Ytkohlbafpljfjaa
