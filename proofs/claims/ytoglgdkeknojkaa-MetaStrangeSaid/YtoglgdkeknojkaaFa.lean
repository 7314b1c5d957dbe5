/-
  CONTRACTS OF LAYER 2: lay, read, Turn.
-/
import Derived.Test.YtoglgdkeknojkaaProg
import Derived.Test.YtoglgdkeknojkaaByt
import Derived.Deep.DeepMust
import Derived.Deep.DeepFit
import Derived.Outline
import Derived.Deep.RegionHeld3
namespace Go.Proofs.Ytoglgdkeknojkaa
open Go.RowKit
theorem Try.info5b : (Try.prog.info? 5).map (fun i => (i.zero, i.size, i.bytes)) = some (some (.int .u8 0), 1, 1) := by kernel_rfl

def valF (zs : List Nat) (at0 : Nat) : Nat → Nat
  | 0 => 0
  | k + 1 => valF zs at0 k + zs.getD (at0 + k) 0 * 256 ^ k
theorem valF_lt (zs : List Nat) (at0 : Nat) (h : ∀ x ∈ zs, x < 256) : ∀ k, valF zs at0 k < 256 ^ k
  | 0 => by simp [valF]
  | k + 1 => by
    have ih := valF_lt zs at0 h k
    have hb : zs.getD (at0 + k) 0 < 256 := by
      rw [List.getD_eq_getElem?_getD]
      cases e : zs[at0 + k]? with
      | none => simp
      | some x => simpa using h x (List.mem_of_getElem? e)
    have h2 : (zs.getD (at0 + k) 0 + 1) * 256 ^ k ≤ 256 * 256 ^ k := Nat.mul_le_mul_right _ (by omega)
    rw [valF, Nat.pow_succ]
    rw [Nat.add_mul] at h2
    omega

theorem or_stepu64 (v c k : Nat) (hk : k < 8) (hv : v < 256 ^ k) (hc : c < 256) : bits .or .u64 (v : Int) (IntKind.u64.wrap (IntKind.u64.wrap (c : Int) * 2 ^ (8 * k))) = ((v + c * 256 ^ k : Nat) : Int) := by
  have e : (2 : Nat) ^ (8 * k) = 256 ^ k := by rw [Nat.pow_mul]
  have e' : (2 : Int) ^ (8 * k) = ((256 ^ k : Nat) : Int) := by rw [← e]; simp
  have hp : 256 ^ (k + 1) ≤ 256 ^ 8 := Nat.pow_le_pow_right (by decide) (by omega)
  have h2 : (c + 1) * 256 ^ k ≤ 256 * 256 ^ k := Nat.mul_le_mul_right _ (by omega)
  rw [Nat.pow_succ] at hp
  rw [Nat.add_mul] at h2
  have hp8 : (256 : Nat) ^ 8 = 18446744073709551616 := by decide
  rw [IntKind.wrap_u64, IntKind.wrap_u64, show (c : Int) % 18446744073709551616 = c from by omega, e', ← Int.natCast_mul, show ((c * 256 ^ k : Nat) : Int) % 18446744073709551616 = ((c * 256 ^ k : Nat) : Int) from by omega,
    u64_or_nat _ _ (by omega) (by omega), Nat.or_comm]
  have := nat_join (8 * k) (c * 256 ^ k) v (by rw [e]; exact Nat.mul_mod_left _ _) (by rw [e]; exact hv)
  rw [this, Nat.add_comm]
theorem get_lt (zs : List Nat) (h : ∀ x ∈ zs, x < 256) (i : Nat) : zs[i]?.getD 0 < 256 := by
  cases e : zs[i]? with
  | none => simp
  | some x => simpa using h x (List.mem_of_getElem? e)
theorem val_stepu64 (zs : List Nat) (at0 k : Nat) (hk : k < 8) (h : ∀ x ∈ zs, x < 256) :
    Value.int IntKind.u64 (bits BinOp.or IntKind.u64 (↑(valF zs at0 k)) (IntKind.u64.wrap (IntKind.u64.wrap ↑(zs[at0 + k]?.getD 0) * 2 ^ (8 * k)))) = Value.int IntKind.u64 ↑(valF zs at0 (k + 1)) := by
  rw [or_stepu64 _ _ _ hk (valF_lt zs at0 h k) (get_lt zs h _)]
  simp [valF]

set_option maxRecDepth 100000 in
theorem read8_ok (b off len cap at0 : Nat) (zs : List Nat) (w : World) (hlen : len ≤ 9223372036854775807) (hat : at0 + 8 ≤ len) (hb : ∀ x ∈ zs, x < 256)
    (hc : ∀ i, i < len → w.cell? ⟨b, off + i, none⟩ = some (.int .u8 ((zs.getD i 0 : Nat) : Int))) :
    Calls Try.prog 68 #[.slice (some ⟨b, off, none⟩) len cap, .int .i64 at0, .int .i64 8] w fun e w' => e = .returned (.tuple #[.int .u64 (valF zs at0 8), .int .i64 ((at0 + 8 : Nat) : Int), .int .i64 0]) ∧ w = w' := by
  go_enter Try.func68, Try.ntmps68
  go_wp2
  go_loop [9, 26] (fun v i => ∃ k : Nat, k ≤ 8 ∧ i = .int .i64 k ∧ v = .int .u64 (valF zs at0 k)) (fun _ i => 8 - (intOf i).toNat)
  case atStart => exact ⟨0, by omega, rfl, rfl⟩
  case round =>
    obtain ⟨k, hk, rfl, rfl⟩ := hrel
    by_cases h8 : k < 8
    · have hcell := hc (at0 + k) (by omega)
      go_wp2
      go_round
      case rel => exact ⟨k + 1, by omega, by go_num, val_stepu64 zs at0 k h8 hb⟩
      case measure => simp [intOf]; omega
    · go_wp2
      have : k = 8 := by omega
      subst this
      go_ret3
      exact ⟨by simp, rfl⟩
theorem read8_arg (a : Option Addr) (len cap : Nat) (at0 : Int) (w : World) (hlen : len ≤ 9223372036854775807) (h0 : -9223372036854775808 ≤ at0) (h1 : at0 ≤ 9223372036854775807) (hat : at0 < 0 ∨ (len : Int) < at0) :
    Calls Try.prog 68 #[.slice a len cap, .int .i64 at0, .int .i64 8] w fun e w' => e = .returned (.tuple #[.int .u64 0, .int .i64 0, .int .i64 1]) ∧ w = w' := by
  rcases hat with h | h
  · go_enter Try.func68, Try.ntmps68
    go_wp2
    go_ret3
    exact ⟨rfl, rfl⟩
  · by_cases h2 : at0 < 0
    · go_enter Try.func68, Try.ntmps68
      go_wp2
      go_ret3
      exact ⟨rfl, rfl⟩
    · go_enter Try.func68, Try.ntmps68
      go_wp2
      go_ret3
      exact ⟨rfl, rfl⟩
theorem read8_short (a : Option Addr) (len cap at0 : Nat) (w : World) (hlen : len ≤ 9223372036854775807) (hat : at0 ≤ len) (hs : len < at0 + 8) :
    Calls Try.prog 68 #[.slice a len cap, .int .i64 at0, .int .i64 8] w fun e w' => e = .returned (.tuple #[.int .u64 0, .int .i64 0, .int .i64 2]) ∧ w = w' := by
  go_enter Try.func68, Try.ntmps68
  go_wp2
  go_ret3
  exact ⟨rfl, rfl⟩
theorem or_stepu32 (v c k : Nat) (hk : k < 4) (hv : v < 256 ^ k) (hc : c < 256) : bits .or .u32 (v : Int) (IntKind.u32.wrap (IntKind.u32.wrap (c : Int) * 2 ^ (8 * k))) = ((v + c * 256 ^ k : Nat) : Int) := by
  have e : (2 : Nat) ^ (8 * k) = 256 ^ k := by rw [Nat.pow_mul]
  have e' : (2 : Int) ^ (8 * k) = ((256 ^ k : Nat) : Int) := by rw [← e]; simp
  have hp : 256 ^ (k + 1) ≤ 256 ^ 4 := Nat.pow_le_pow_right (by decide) (by omega)
  have h2 : (c + 1) * 256 ^ k ≤ 256 * 256 ^ k := Nat.mul_le_mul_right _ (by omega)
  rw [Nat.pow_succ] at hp
  rw [Nat.add_mul] at h2
  have hp8 : (256 : Nat) ^ 4 = 4294967296 := by decide
  rw [IntKind.wrap_u32', IntKind.wrap_u32', show (c : Int) % 4294967296 = c from by omega, e', ← Int.natCast_mul, show ((c * 256 ^ k : Nat) : Int) % 4294967296 = ((c * 256 ^ k : Nat) : Int) from by omega,
    u32_or_nat _ _ (by omega) (by omega), Nat.or_comm]
  have := nat_join (8 * k) (c * 256 ^ k) v (by rw [e]; exact Nat.mul_mod_left _ _) (by rw [e]; exact hv)
  rw [this, Nat.add_comm]
theorem val_stepu32 (zs : List Nat) (at0 k : Nat) (hk : k < 4) (h : ∀ x ∈ zs, x < 256) :
    Value.int IntKind.u32 (bits BinOp.or IntKind.u32 (↑(valF zs at0 k)) (IntKind.u32.wrap (IntKind.u32.wrap ↑(zs[at0 + k]?.getD 0) * 2 ^ (8 * k)))) = Value.int IntKind.u32 ↑(valF zs at0 (k + 1)) := by
  rw [or_stepu32 _ _ _ hk (valF_lt zs at0 h k) (get_lt zs h _)]
  simp [valF]

set_option maxRecDepth 100000 in
theorem read4_ok (b off len cap at0 : Nat) (zs : List Nat) (w : World) (hlen : len ≤ 9223372036854775807) (hat : at0 + 4 ≤ len) (hb : ∀ x ∈ zs, x < 256)
    (hc : ∀ i, i < len → w.cell? ⟨b, off + i, none⟩ = some (.int .u8 ((zs.getD i 0 : Nat) : Int))) :
    Calls Try.prog 69 #[.slice (some ⟨b, off, none⟩) len cap, .int .i64 at0, .int .i64 4] w fun e w' => e = .returned (.tuple #[.int .u32 (valF zs at0 4), .int .i64 ((at0 + 4 : Nat) : Int), .int .i64 0]) ∧ w = w' := by
  go_enter Try.func69, Try.ntmps69
  go_wp2
  go_loop [9, 26] (fun v i => ∃ k : Nat, k ≤ 4 ∧ i = .int .i64 k ∧ v = .int .u32 (valF zs at0 k)) (fun _ i => 4 - (intOf i).toNat)
  case atStart => exact ⟨0, by omega, rfl, rfl⟩
  case round =>
    obtain ⟨k, hk, rfl, rfl⟩ := hrel
    by_cases h8 : k < 4
    · have hcell := hc (at0 + k) (by omega)
      go_wp2
      go_round
      case rel => exact ⟨k + 1, by omega, by go_num, val_stepu32 zs at0 k h8 hb⟩
      case measure => simp [intOf]; omega
    · go_wp2
      have : k = 4 := by omega
      subst this
      go_ret3
      exact ⟨by simp, rfl⟩
theorem read4_arg (a : Option Addr) (len cap : Nat) (at0 : Int) (w : World) (hlen : len ≤ 9223372036854775807) (h0 : -9223372036854775808 ≤ at0) (h1 : at0 ≤ 9223372036854775807) (hat : at0 < 0 ∨ (len : Int) < at0) :
    Calls Try.prog 69 #[.slice a len cap, .int .i64 at0, .int .i64 4] w fun e w' => e = .returned (.tuple #[.int .u32 0, .int .i64 0, .int .i64 1]) ∧ w = w' := by
  rcases hat with h | h
  · go_enter Try.func69, Try.ntmps69
    go_wp2
    go_ret3
    exact ⟨rfl, rfl⟩
  · by_cases h2 : at0 < 0
    · go_enter Try.func69, Try.ntmps69
      go_wp2
      go_ret3
      exact ⟨rfl, rfl⟩
    · go_enter Try.func69, Try.ntmps69
      go_wp2
      go_ret3
      exact ⟨rfl, rfl⟩
theorem read4_short (a : Option Addr) (len cap at0 : Nat) (w : World) (hlen : len ≤ 9223372036854775807) (hat : at0 ≤ len) (hs : len < at0 + 4) :
    Calls Try.prog 69 #[.slice a len cap, .int .i64 at0, .int .i64 4] w fun e w' => e = .returned (.tuple #[.int .u32 0, .int .i64 0, .int .i64 2]) ∧ w = w' := by
  go_enter Try.func69, Try.ntmps69
  go_wp2
  go_ret3
  exact ⟨rfl, rfl⟩
end Go.Proofs.Ytoglgdkeknojkaa
