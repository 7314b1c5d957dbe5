/-
  LAYER 14: numbers made, of both sides alike.
-/
import Derived.Test.YtkihhnndidaloaaPc
namespace Go.Proofs.Ytkihhnndidaloaa
open Go.RowKit

theorem rpid_ok (n : Nat) (w : World) (h1 : 1 ≤ n) (h2 : n ≤ 65535) : Calls Try.prog 20 #[.int .i64 n] w fun e w' => e = .returned (.tuple #[.slice (some ⟨w.heap.size, 0, none⟩) 2 2, .int .i64 0]) ∧ w' = w.alloc (.cells #[.int .u8 ((n / 256 : Nat) : Int), .int .u8 ((n % 256 : Nat) : Int)] 5) := by
  have h1' : (1 : Int) ≤ n := by omega
  have h2' : (n : Int) ≤ 65535 := by omega
  go_enter Try.func20, Try.ntmps20
  go_wp2_with fail
  refine (rput2_any n _ h2).mono ?_
  rintro e w' ⟨rfl, rfl⟩
  go_wp2_with fail
  go_ret2
  exact ⟨rfl, rfl⟩
theorem pid_err (f : FuncId) (hf : f = 19 ∨ f = 20) (n : Int) (w : World) (h : n < 1 ∨ 65535 < n) : Calls Try.prog f #[.int .i64 n] w fun e w' => e = .returned (.tuple #[.slice none 0 0, .int .i64 1]) ∧ w = w' := by
  rcases (show n < 1 ∨ (1 ≤ n ∧ 65535 < n) by omega) with h | ⟨h, h'⟩
  all_goals
    rcases hf with rfl | rfl
    · go_enter Try.func19, Try.ntmps19
      go_wp2
      go_ret2
      exact ⟨rfl, rfl⟩
    · go_enter Try.func20, Try.ntmps20
      go_wp2
      go_ret2
      exact ⟨rfl, rfl⟩
def Numb (l : List Nat) (x : Int) (w : World) (e : Ending) (w' : World) : Prop := ∃ v, e = .returned (.tuple #[v, .int .i64 x]) ∧ BytesAt w' v l ∧ Below w.heap.size w w'
theorem pid_ok2 (f : FuncId) (hf : f = 19 ∨ f = 20) (k : Nat) (h1 : 1 ≤ k) (h2 : k ≤ 65535) (w : World) : Calls Try.prog f #[.int .i64 k] w (Numb [k / 256, k % 256] 0 w) := by
  rcases hf with rfl | rfl
  · refine (pid_ok k w h1 h2).mono ?_
    rintro e w' ⟨rfl, rfl⟩
    exact ⟨_, rfl, lit_two w _ _, ext_alloc _ _⟩
  · refine (rpid_ok k w h1 h2).mono ?_
    rintro e w' ⟨rfl, rfl⟩
    exact ⟨_, rfl, lit_two w _ _, ext_alloc _ _⟩
theorem pid_err2 (f : FuncId) (hf : f = 19 ∨ f = 20) (n : Int) (h : n < 1 ∨ 65535 < n) (w : World) : Calls Try.prog f #[.int .i64 n] w (Numb [] 1 w) := by
  refine (pid_err f hf n w h).mono ?_
  rintro e w' ⟨rfl, rfl⟩
  exact ⟨_, rfl, ⟨none, 0, rfl, ⟨by simp, fun _ => rfl⟩, .inl rfl⟩, Below.refl _ _⟩
theorem of_made (k : Nat) (h1 : 1 ≤ k) (h2 : k ≤ 65535) : ofF (strB [k / 256, k % 256]) = ((k : Int), 0) := by
  have hs : (strB [k / 256, k % 256]).size = 2 := by rw [strB_size]; rfl
  have e0 : gB (strB [k / 256, k % 256]) 0 = k / 256 := by
    rw [← gB_at _ _ (by omega)]
    show (UInt8.ofNat (k / 256)).toNat = k / 256
    simp; omega
  have e1 : gB (strB [k / 256, k % 256]) 1 = k % 256 := by
    rw [← gB_at _ _ (by omega)]
    show (UInt8.ofNat (k % 256)).toNat = k % 256
    simp
  unfold ofF
  rw [if_pos hs, e0, e1, show 256 * (k / 256) + k % 256 = k from by omega, if_neg (by omega)]
end Go.Proofs.Ytkihhnndidaloaa
