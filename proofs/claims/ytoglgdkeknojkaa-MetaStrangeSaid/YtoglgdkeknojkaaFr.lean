/-
  LAYER 2: the document's get, put and Turn.
-/
import Derived.Test.YtoglgdkeknojkaaFc
import Derived.Test.YtoglgdkeknojkaaFt
namespace Go.Proofs.Ytoglgdkeknojkaa
open Go.RowKit

/-- The number of k bytes, told from the last of them on. -/
def rv (zs : List Nat) (at0 width : Nat) : Nat → Nat
  | 0 => 0
  | k + 1 => 256 * rv zs at0 width k + zs[at0 + (width - 1 - k)]?.getD 0
theorem rv_lt (zs : List Nat) (at0 width : Nat) (h : ∀ x ∈ zs, x < 256) : ∀ k, rv zs at0 width k < 256 ^ k
  | 0 => by simp [rv]
  | k + 1 => by
    have := rv_lt zs at0 width h k
    have := get_lt zs h (at0 + (width - 1 - k))
    unfold rv
    rw [Nat.pow_succ]
    omega
theorem rv4 (zs : List Nat) (at0 : Nat) : rv zs at0 4 4 = valF zs at0 4 := by
  simp only [rv, valF]
  simp
  omega
theorem rv8 (zs : List Nat) (at0 : Nat) : rv zs at0 8 8 = valF zs at0 8 := by
  simp only [rv, valF]
  simp
  omega
theorem fpow_le8 (k : Nat) (h : k ≤ 7) : 256 ^ k ≤ 72057594037927936 := Nat.le_trans (Nat.pow_le_pow_right (by decide) h) (by decide)
set_option maxRecDepth 100000 in
theorem frget_ok (width : Nat) (hw : 1 ≤ width ∧ width ≤ 8) (b off len cap at0 : Nat) (zs : List Nat) (w : World) (hlen : len ≤ 9223372036854775807) (hat : at0 + width ≤ len) (hb : ∀ x ∈ zs, x < 256)
    (hc : ∀ i, i < len → w.cell? ⟨b, off + i, none⟩ = some (.int .u8 ((zs.getD i 0 : Nat) : Int))) :
    Calls Try.prog 66 #[.slice (some ⟨b, off, none⟩) len cap, .int .i64 at0, .int .i64 width] w fun e w' => e = .returned (.tuple #[.int .u64 (rv zs at0 width width), .int .i64 ((at0 + width : Nat) : Int), .int .i64 0]) ∧ w = w' := by
  have h1 : (1 : Int) ≤ width := by omega
  have h8 : (width : Int) ≤ 8 := by omega
  have ha : (at0 : Int) + width ≤ len := by omega
  have hl : (len : Int) ≤ 9223372036854775807 := by omega
  replace hc := Lib.hid hc
  go_enter Try.func66, Try.ntmps66
  go_wp2
  go_loop [9, 10] (fun v i => ∃ k : Nat, k ≤ width ∧ i = .int .i64 ((width : Int) - 1 - k) ∧ v = .int .u64 (rv zs at0 width k : Nat)) (fun _ i => (intOf i + 1).toNat)
  case atStart => exact ⟨0, by omega, by simp, rfl⟩
  case round =>
    obtain ⟨k, hk, rfl, rfl⟩ := hrel
    by_cases hlt : k < width
    · have hcell := hc.out (at0 + (width - 1 - k)) (by omega)
      have ew : (width : Int) - 1 - k = ((width - 1 - k : Nat) : Int) := by omega
      have es := Lib.hid (show ((width - 1 - k : Nat) : Int) - 1 = (width : Int) - 1 - ((k + 1 : Nat) : Int) by omega)
      have hv := rv_lt zs at0 width hb k
      have hp := fpow_le8 k (by omega)
      have hx := get_lt zs hb (at0 + (width - 1 - k))
      have hv' : (rv zs at0 width k : Int) ≤ 72057594037927935 := by omega
      have hz : zs.getD (at0 + (width - 1 - k)) 0 = zs[at0 + (width - 1 - k)]?.getD 0 := by simp [List.getD]
      rw [hz] at hcell
      have hs := Lib.hid (show rv zs at0 width (k + 1) = 256 * rv zs at0 width k + zs[at0 + (width - 1 - k)]?.getD 0 from rfl)
      rw [ew]
      clear hz hv hp ew
      have hm : at0 + (width - 1 - k) < len := by omega
      generalize zs[at0 + (width - 1 - k)]?.getD 0 = x at *
      generalize rv zs at0 width k = V at *
      have hx' : (x : Int) ≤ 255 := by omega
      generalize hj : width - 1 - k = j at *
      have hj' := Lib.hid hj
      clear hj
      have q1 : IntKind.u64.wrap (256 * (V : Int)) = 256 * (V : Int) := by rw [IntKind.wrap_u64]; omega
      have q2 : IntKind.u64.wrap (256 * (V : Int) + (x : Int)) = 256 * (V : Int) + (x : Int) := by rw [IntKind.wrap_u64]; omega
      go_wp2
      go_round
      case rel => exact ⟨k + 1, by omega, by rw [es.out], by rw [hs.out]; go_num⟩
      case measure => simp [intOf] <;> omega
    · go_wp2
      have : k = width := by omega
      subst this
      go_ret3
      exact ⟨by simp, rfl⟩
theorem frget_arg (a : Option Addr) (len cap : Nat) (at0 width : Int) (w : World) (hlen : len ≤ 9223372036854775807) (h0 : -9223372036854775808 ≤ at0) (h1 : at0 ≤ 9223372036854775807) (hat : at0 < 0 ∨ (0 ≤ at0 ∧ (len : Int) < at0)) :
    Calls Try.prog 66 #[.slice a len cap, .int .i64 at0, .int .i64 width] w fun e w' => e = .returned (.tuple #[.int .u64 0, .int .i64 0, .int .i64 1]) ∧ w = w' := by
  rcases hat with h | ⟨h, h2⟩
  all_goals
    go_enter Try.func66, Try.ntmps66
    go_wp2
    go_ret3
    exact ⟨rfl, rfl⟩
theorem frget_short (a : Option Addr) (len cap at0 width : Nat) (w : World) (hlen : len ≤ 9223372036854775807) (hat : at0 ≤ len) (hs : len < at0 + width) :
    Calls Try.prog 66 #[.slice a len cap, .int .i64 at0, .int .i64 width] w fun e w' => e = .returned (.tuple #[.int .u64 0, .int .i64 0, .int .i64 2]) ∧ w = w' := by
  have h1 : (at0 : Int) ≤ len := by omega
  have h2 : (len : Int) < at0 + width := by omega
  have h3 : (len : Int) - at0 < width := by omega
  go_enter Try.func66, Try.ntmps66
  go_wp2
  go_ret3
  exact ⟨rfl, rfl⟩
end Go.Proofs.Ytoglgdkeknojkaa
