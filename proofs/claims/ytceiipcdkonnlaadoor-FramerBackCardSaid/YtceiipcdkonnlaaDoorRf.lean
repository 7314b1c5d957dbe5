/-
  LAYER 11: Put, the program's, of any head.
-/
import Derived.Test.YtceiipcdkonnlaaDoorRd
import Derived.OwnWalk
namespace Go.Proofs.YtceiipcdkonnlaaDoor
set_option linter.unusedSimpArgs false
set_option linter.unusedVariables false
open Go.RowKit
theorem info5 : (Tryd.prog.info? 5).map (fun i => (i.zero, i.size, i.bytes)) = some (some (.int .u8 0), 1, 1) := by kernel_rfl

/-- The bytes of a head. -/
def putB (K F n : Nat) : List Nat := if n < 128 then [16 * K + F, n] else [16 * K + F, n % 128 + 128, n / 128]
def PPost (B : Nat) (l : List Nat) (w : World) (e : Ending) (w' : World) : Prop :=
  ∃ v, e = .returned (.tuple #[v, .int .i64 0]) ∧ w'.ownsRow B 5 1 v l.length (bl l) ∧ Below B w w'
theorem right_zero {k f : Int} (h : RightF k f = 0) : 1 ≤ k ∧ k ≤ 14 ∧ 0 ≤ f ∧ f ≤ 15 := by
  unfold RightF at h
  split at h
  · omega
  · split at h
    · split at h
      · rename_i hm
        have := (mayBe_iff f).1 hm
        unfold MayBe at this
        omega
      · omega
    · split at h
      · split at h <;> omega
      · split at h <;> omega
theorem or_head (K F : Nat) (hK : K ≤ 14) (hF : F ≤ 15) : bits .or .i64 ((K : Int) * 16) (F : Int) = ((16 * K + F : Nat) : Int) := by
  rw [show (K : Int) * 16 = ((K * 16 : Nat) : Int) from by omega, i64_or_nat _ _ (by omega) (by omega), nat_join 4 _ _ (by omega) (by omega)]
  omega
theorem or_128a (n : Nat) : bits .or .u8 ((n : Int) % 256) 128 = ((n % 128 + 128 : Nat) : Int) := by
  rw [show ((n : Int) % 256) = ((n % 256 : Nat) : Int) from by omega, show (128 : Int) = ((128 : Nat) : Int) from rfl, u8_or_nat _ _ (by omega) (by decide)]
  have h : ∀ x : Fin 256, x.val ||| 128 = x.val % 128 + 128 := by decide +kernel
  have := h ⟨n % 256, by omega⟩
  simp only at this
  rw [this]
  omega
theorem or_128b (n : Nat) : bits .or .u8 (IntKind.u8.wrap (n : Int)) 128 = ((n % 128 + 128 : Nat) : Int) := by
  rw [IntKind.wrap_u8']
  exact or_128a n
end Go.Proofs.YtceiipcdkonnlaaDoor
