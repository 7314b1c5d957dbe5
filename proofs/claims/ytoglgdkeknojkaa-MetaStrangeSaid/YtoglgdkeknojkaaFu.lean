/-
  LAYER 2: both sides' Get4 and Get8 of any place.
-/
import Derived.Test.YtoglgdkeknojkaaFs
namespace Go.Proofs.Ytoglgdkeknojkaa
open Go.RowKit

def Got (k : IntKind) (x m e : Int) (w : World) (en : Ending) (w' : World) : Prop := en = .returned (.tuple #[.int k x, .int .i64 m, .int .i64 e]) ∧ w = w'
set_option maxRecDepth 100000 in
theorem rgets4 (a : Option Addr) (len cap : Nat) (at0 x : Nat) (m e : Int) (w : World) (hx : x ≤ 4294967295)
    (P : Calls Try.prog 66 #[.slice a len cap, .int .i64 at0, .int .i64 4] w fun en w' => en = .returned (.tuple #[.int .u64 x, .int .i64 m, .int .i64 e]) ∧ w = w') :
    Calls Try.prog 58 #[.slice a len cap, .int .i64 at0] w (Got .u32 x m e w) := by
  have hx' : (x : Int) ≤ 4294967295 := by omega
  replace P := Lib.hid P
  go_enter Try.func58, Try.ntmps58
  go_wp2_with fail
  refine P.out.mono ?_
  rintro en w' ⟨rfl, rfl⟩
  go_wp2_with fail
  go_ret3
  exact ⟨rfl, rfl⟩
set_option maxRecDepth 100000 in
theorem rgets4i (a : Option Addr) (len cap : Nat) (at0 : Int) (w : World)
    (P : Calls Try.prog 66 #[.slice a len cap, .int .i64 at0, .int .i64 4] w fun en w' => en = .returned (.tuple #[.int .u64 0, .int .i64 0, .int .i64 1]) ∧ w = w') :
    Calls Try.prog 58 #[.slice a len cap, .int .i64 at0] w (Got .u32 0 0 1 w) := by
  replace P := Lib.hid P
  go_enter Try.func58, Try.ntmps58
  go_wp2_with fail
  refine P.out.mono ?_
  rintro en w' ⟨rfl, rfl⟩
  go_wp2_with fail
  go_ret3
  exact ⟨rfl, rfl⟩
set_option maxRecDepth 100000 in
theorem rgets8 (a : Option Addr) (len cap : Nat) (at0 x m e : Int) (w : World)
    (P : Calls Try.prog 66 #[.slice a len cap, .int .i64 at0, .int .i64 8] w fun en w' => en = .returned (.tuple #[.int .u64 x, .int .i64 m, .int .i64 e]) ∧ w = w') :
    Calls Try.prog 57 #[.slice a len cap, .int .i64 at0] w (Got .u64 x m e w) := by
  replace P := Lib.hid P
  go_enter Try.func57, Try.ntmps57
  go_wp2_with fail
  refine P.out.mono ?_
  rintro en w' ⟨rfl, rfl⟩
  go_wp2_with fail
  go_ret3
  exact ⟨rfl, rfl⟩
theorem fixed_gets (a : Option Addr) (len cap : Nat) (zs : List Int) (at' : Int) (w : World) (hr : IsRow .u8 w a len cap zs) (b : -9223372036854775808 ≤ at' ∧ at' ≤ 9223372036854775807) :
    ∃ x m e u p g : Int, Calls Try.prog 65 #[.slice a len cap, .int .i64 at'] w (Got .u32 x m e w) ∧ Calls Try.prog 58 #[.slice a len cap, .int .i64 at'] w (Got .u32 x m e w) ∧
      Calls Try.prog 64 #[.slice a len cap, .int .i64 at'] w (Got .u64 u p g w) ∧ Calls Try.prog 57 #[.slice a len cap, .int .i64 at'] w (Got .u64 u p g w) := by
  obtain ⟨hlen, _⟩ := hr.len_le
  by_cases h : at' < 0 ∨ (0 ≤ at' ∧ (len : Int) < at')
  · have h' : at' < 0 ∨ (len : Int) < at' := by omega
    exact ⟨0, 0, 1, 0, 0, 1, get4_arg a len cap at' w hlen b.1 b.2 h', rgets4i a len cap at' w (frget_arg a len cap at' 4 w hlen b.1 b.2 h),
      get8_arg a len cap at' w hlen b.1 b.2 h', rgets8 a len cap at' 0 0 1 w (frget_arg a len cap at' 8 w hlen b.1 b.2 h)⟩
  obtain ⟨k, rfl⟩ := Int.eq_ofNat_of_zero_le (show 0 ≤ at' by omega)
  have hk : k ≤ len := by omega
  obtain ⟨hB, hl, h256⟩ := hr.bytes
  have cells : 0 < len → ∃ b o, a = some ⟨b, o, none⟩ ∧ ∀ i, i < len → w.cell? ⟨b, o + i, none⟩ = some (.int .u8 (((((zs.take len).map Int.toNat).getD i 0) : Nat) : Int)) := fun hpos => by
    obtain ⟨a', c', hv, _, h0 | ⟨b, o, ha, _, hc⟩⟩ := hB
    · rw [h0] at hl; simp at hl; omega
    · simp only [Value.slice.injEq] at hv
      exact ⟨b, o, hv.1.trans ha, fun i hi => hc i (by omega)⟩
  generalize (zs.take len).map Int.toNat = ns at *
  by_cases h4 : k + 4 ≤ len
  · obtain ⟨bl0, o, rfl, hc⟩ := cells (by omega)
    have v4 := valF_lt ns k h256 4
    have A := get4_ok bl0 o len cap k ns w hlen h4 h256 hc
    have B0 := frget_ok 4 (by decide) bl0 o len cap k ns w hlen h4 h256 hc
    rw [rv4] at B0
    have B := rgets4 (some ⟨bl0, o, none⟩) len cap k (valF ns k 4) ((k + 4 : Nat) : Int) 0 w (by omega) B0
    by_cases h8 : k + 8 ≤ len
    · have C0 := frget_ok 8 (by decide) bl0 o len cap k ns w hlen h8 h256 hc
      rw [rv8] at C0
      exact ⟨_, _, _, _, _, _, A, B, get8_ok bl0 o len cap k ns w hlen h8 h256 hc, rgets8 (some ⟨bl0, o, none⟩) len cap k _ _ _ w C0⟩
    · exact ⟨_, _, _, _, _, _, A, B, get8_short _ len cap k w hlen hk (by omega), rgets8 (some ⟨bl0, o, none⟩) len cap k _ _ _ w (frget_short _ len cap k 8 w hlen hk (by omega))⟩
  · exact ⟨_, _, _, _, _, _, get4_short a len cap k w hlen hk (by omega), rgets4 a len cap k 0 0 2 w (by decide) (frget_short _ len cap k 4 w hlen hk (by omega)),
      get8_short a len cap k w hlen hk (by omega), rgets8 a len cap k _ _ _ w (frget_short _ len cap k 8 w hlen hk (by omega))⟩
end Go.Proofs.Ytoglgdkeknojkaa
