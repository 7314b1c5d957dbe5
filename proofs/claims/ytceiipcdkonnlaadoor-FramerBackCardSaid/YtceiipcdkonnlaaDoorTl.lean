/-
  LAYER 12: heads of two bytes; a string's bytes joined.
-/
import Derived.Test.YtceiipcdkonnlaaDoorTi
namespace Go.Proofs.YtceiipcdkonnlaaDoor
open Go.RowKit
set_option linter.unusedVariables false
set_option linter.unusedSimpArgs false
theorem nb_append (a b : ByteArray) : nb (a ++ b) = nb a ++ nb b := by
  simp [nb, ByteArray.data_append]
theorem RightN_vals (k f : Nat) : RightN k f = 0 ∨ RightN k f = 10 ∨ RightN k f = 11 := by
  unfold RightN RightF
  split
  · simp
  · split
    · split <;> simp
    · split
      · split <;> simp
      · split <;> simp
theorem hd_b0 (b : Nat) (h : RightN (b / 16) (b % 16) = 0) : hd [b, 0] = ⟨b / 16, b % 16, 0, 2, 0⟩ := by
  unfold hd
  simp [h, lenF]
theorem hd_b1 (b : Nat) (h : RightN (b / 16) (b % 16) ≠ 0) : hd [b, 0] = ⟨0, 0, 0, 0, RightN (b / 16) (b % 16)⟩ := by
  unfold hd
  simp [h]
theorem hd_192 (r : List Nat) : hd (192 :: 0 :: r) = ⟨12, 0, 0, 2, 0⟩ := by
  have h : RightN (192 / 16) (192 % 16) = 0 := by kernel_rfl
  unfold hd
  simp only [List.getD_cons_zero, List.length_cons, h, List.drop_succ_cons, List.drop_zero, lenF]
  simp
theorem nx_192 (r : List Nat) : St.next ⟨192 :: 0 :: r, 0, 0⟩ = (⟨r, 1, 0⟩, .agg #[.int .i64 12, .int .i64 0, .int .i64 0, .string ⟨#[]⟩], true, 0) := by
  have : rawV (192 :: 0 :: r) = .agg #[.int .i64 12, .int .i64 0, .int .i64 0, .string ⟨#[]⟩] := by simp [rawV, hd_192, strB]
  simp [St.next, hd_192, this]
theorem nx_b0 (b : Nat) (n : Int) (h : RightN (b / 16) (b % 16) = 0) : St.next ⟨[b, 0], n, 0⟩ = (⟨[], n + 1, 0⟩, .agg #[.int .i64 ((b / 16 : Nat) : Int), .int .i64 ((b % 16 : Nat) : Int), .int .i64 0, .string ⟨#[]⟩], true, 0) := by
  have : rawV [b, 0] = .agg #[.int .i64 ((b / 16 : Nat) : Int), .int .i64 ((b % 16 : Nat) : Int), .int .i64 0, .string ⟨#[]⟩] := by simp [rawV, hd_b0 b h, strB]
  simp [St.next, hd_b0 b h, this]
theorem nx_b1 (b : Nat) (n : Int) (h : RightN (b / 16) (b % 16) ≠ 0) : St.next ⟨[b, 0], n, 0⟩ = (⟨[], n, RightN (b / 16) (b % 16)⟩, zR, false, RightN (b / 16) (b % 16)) := by
  have := RightN_vals (b / 16) (b % 16)
  have h2 : RightN (b / 16) (b % 16) ≠ 2 := by omega
  simp [St.next, hd_b1 b h, h, h2]
theorem nx_dead (l : List Nat) (n : Int) (d : Nat) (h : d ≠ 0) : St.next ⟨l, n, d⟩ = (⟨l, n, d⟩, zR, false, d) := by simp [St.next, h]
theorem cat_size (b : Nat) : ([] : List Nat).length + (({ data := #[192, 0] } : ByteArray) ++ strB [b] ++ { data := #[0] }).size ≤ 140737488355328 := by
  rw [← nb_length, nb_append, nb_append, List.length_append, List.length_append, nb_length, nb_length, nb_length, strB_size]
  show 0 + (2 + 1 + 1) ≤ _
  omega
theorem hd_k0 (b K F : Nat) (hK : K = b / 16) (hF : F = b % 16) (h : RightN K F = 0) : hd [b, 0] = ⟨K, F, 0, 2, 0⟩ := by
  subst hK hF; exact hd_b0 b h
theorem nx_k0 (b K F : Nat) (n : Int) (hK : K = b / 16) (hF : F = b % 16) (h : RightN K F = 0) : St.next ⟨[b, 0], n, 0⟩ = (⟨[], n + 1, 0⟩, .agg #[.int .i64 (K : Int), .int .i64 (F : Int), .int .i64 0, .string ⟨#[]⟩], true, 0) := by
  subst hK hF; exact nx_b0 b n h
theorem hd_k1 (b K F : Nat) (hK : K = b / 16) (hF : F = b % 16) (h : RightN K F ≠ 0) : hd [b, 0] = ⟨0, 0, 0, 0, RightN K F⟩ := by
  subst hK hF; exact hd_b1 b h
theorem nx_k1 (b K F : Nat) (n : Int) (hK : K = b / 16) (hF : F = b % 16) (h : RightN K F ≠ 0) : St.next ⟨[b, 0], n, 0⟩ = (⟨[], n, RightN K F⟩, zR, false, RightN K F) := by
  subst hK hF; exact nx_b1 b n h
end Go.Proofs.YtceiipcdkonnlaaDoor
