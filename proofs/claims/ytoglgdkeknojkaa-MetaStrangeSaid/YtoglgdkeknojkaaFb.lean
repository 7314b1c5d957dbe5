/-
  CONTRACTS OF LAYER 2: lay, Put4, Put8, Get4, Get8, awake.
-/
import Derived.Test.YtoglgdkeknojkaaFa
namespace Go.Proofs.Ytoglgdkeknojkaa
open Go.RowKit

def row4 (n : Nat) : Array Value := #[.int .u8 ((n : Int) % 256), .int .u8 ((n : Int) / 256 % 256), .int .u8 ((n : Int) / 65536 % 256), .int .u8 ((n : Int) / 16777216)]
set_option maxRecDepth 100000 in
theorem lay4 (n : Nat) (w : World) (h : n ≤ 4294967295) :
    Calls Try.prog 62 #[.int .u32 n, .int .i64 4] w fun e w' => e = .returned (.slice (some ⟨w.heap.size, 0, none⟩) 4 4) ∧ w.alloc (.cells (row4 n) 5) = w' := by
  have hmk : ∀ w, (Instr.makeSlice 25 (.int .i64 4) (.int .i64 4)).run Try.prog w = .ok (.slice (some ⟨w.heap.size, 0, none⟩) 4 4) (w.alloc (.cells #[.int .u8 0, .int .u8 0, .int .u8 0, .int .u8 0] 5)) := fun _ => by kernel_rfl
  go_enter Try.func62, Try.ntmps62
  go_wp2
  refine wp_loop_rounds 5 ?_
  rw [rounds_succ]
  go_wp2
  rw [rounds_succ]
  go_wp2
  rw [rounds_succ]
  go_wp2
  rw [rounds_succ]
  go_wp2
  rw [rounds_succ]
  go_wp2
  go_ret
  exact ⟨rfl, rfl⟩
theorem put4_any (n : Nat) (w : World) (h : n ≤ 4294967295) :
    Calls Try.prog 51 #[.int .u32 n] w fun e w' => e = .returned (.slice (some ⟨w.heap.size, 0, none⟩) 4 4) ∧ w.alloc (.cells (row4 n) 5) = w' := by
  go_enter Try.func51, Try.ntmps51
  go_wp2_with (go_at_call 62; refine (lay4 n _ h).mono ?_; rintro e w' ⟨rfl, rfl⟩)
  go_ret
  exact ⟨rfl, rfl⟩

def row8 (n : Nat) : Array Value := #[.int .u8 ((n : Int) % 256), .int .u8 ((n : Int) / 256 % 256), .int .u8 ((n : Int) / 65536 % 256), .int .u8 ((n : Int) / 16777216 % 256), .int .u8 ((n : Int) / 4294967296 % 256), .int .u8 ((n : Int) / 1099511627776 % 256), .int .u8 ((n : Int) / 281474976710656 % 256), .int .u8 ((n : Int) / 72057594037927936)]
set_option maxRecDepth 100000 in
theorem lay8 (n : Nat) (w : World) (h : n ≤ 18446744073709551615) :
    Calls Try.prog 61 #[.int .u64 n, .int .i64 8] w fun e w' => e = .returned (.slice (some ⟨w.heap.size, 0, none⟩) 8 8) ∧ w.alloc (.cells (row8 n) 5) = w' := by
  have hmk : ∀ w, (Instr.makeSlice 25 (.int .i64 8) (.int .i64 8)).run Try.prog w = .ok (.slice (some ⟨w.heap.size, 0, none⟩) 8 8) (w.alloc (.cells #[.int .u8 0, .int .u8 0, .int .u8 0, .int .u8 0, .int .u8 0, .int .u8 0, .int .u8 0, .int .u8 0] 5)) := fun _ => by kernel_rfl
  go_enter Try.func61, Try.ntmps61
  go_wp2
  refine wp_loop_rounds 9 ?_
  rw [rounds_succ]
  go_wp2
  rw [rounds_succ]
  go_wp2
  rw [rounds_succ]
  go_wp2
  rw [rounds_succ]
  go_wp2
  rw [rounds_succ]
  go_wp2
  rw [rounds_succ]
  go_wp2
  rw [rounds_succ]
  go_wp2
  rw [rounds_succ]
  go_wp2
  rw [rounds_succ]
  go_wp2
  go_ret
  exact ⟨rfl, rfl⟩
theorem put8_any (n : Nat) (w : World) (h : n ≤ 18446744073709551615) :
    Calls Try.prog 50 #[.int .u64 n] w fun e w' => e = .returned (.slice (some ⟨w.heap.size, 0, none⟩) 8 8) ∧ w.alloc (.cells (row8 n) 5) = w' := by
  go_enter Try.func50, Try.ntmps50
  go_wp2_with (go_at_call 61; refine (lay8 n _ h).mono ?_; rintro e w' ⟨rfl, rfl⟩)
  go_ret
  exact ⟨rfl, rfl⟩

theorem get4_ok (b off len cap at0 : Nat) (zs : List Nat) (w : World) (hlen : len ≤ 9223372036854775807) (hat : at0 + 4 ≤ len) (hb : ∀ x ∈ zs, x < 256)
    (hc : ∀ i, i < len → w.cell? ⟨b, off + i, none⟩ = some (.int .u8 ((zs.getD i 0 : Nat) : Int))) :
    Calls Try.prog 65 #[.slice (some ⟨b, off, none⟩) len cap, .int .i64 at0] w fun e w' => e = .returned (.tuple #[.int .u32 (valF zs at0 4), .int .i64 ((at0 + 4 : Nat) : Int), .int .i64 0]) ∧ w = w' := by
  have H := Lib.hid (read4_ok b off len cap at0 zs w hlen hat hb hc)
  clear hc hb
  go_enter Try.func65, Try.ntmps65
  go_wp2_with fail
  refine H.out.mono ?_
  rintro e w' ⟨rfl, rfl⟩
  go_wp2
  go_ret3
  exact ⟨rfl, rfl⟩
theorem get4_arg (a : Option Addr) (len cap : Nat) (at0 : Int) (w : World) (hlen : len ≤ 9223372036854775807) (h0 : -9223372036854775808 ≤ at0) (h1 : at0 ≤ 9223372036854775807) (hat : at0 < 0 ∨ (len : Int) < at0) :
    Calls Try.prog 65 #[.slice a len cap, .int .i64 at0] w fun e w' => e = .returned (.tuple #[.int .u32 0, .int .i64 0, .int .i64 1]) ∧ w = w' := by
  have H := Lib.hid (read4_arg a len cap at0 w hlen h0 h1 hat)
  clear hat
  go_enter Try.func65, Try.ntmps65
  go_wp2_with fail
  refine H.out.mono ?_
  rintro e w' ⟨rfl, rfl⟩
  go_wp2
  go_ret3
  exact ⟨rfl, rfl⟩
theorem get4_short (a : Option Addr) (len cap at0 : Nat) (w : World) (hlen : len ≤ 9223372036854775807) (hat : at0 ≤ len) (hs : len < at0 + 4) :
    Calls Try.prog 65 #[.slice a len cap, .int .i64 at0] w fun e w' => e = .returned (.tuple #[.int .u32 0, .int .i64 0, .int .i64 2]) ∧ w = w' := by
  have H := Lib.hid (read4_short a len cap at0 w hlen hat hs)
  go_enter Try.func65, Try.ntmps65
  go_wp2_with fail
  refine H.out.mono ?_
  rintro e w' ⟨rfl, rfl⟩
  go_wp2
  go_ret3
  exact ⟨rfl, rfl⟩

theorem get8_ok (b off len cap at0 : Nat) (zs : List Nat) (w : World) (hlen : len ≤ 9223372036854775807) (hat : at0 + 8 ≤ len) (hb : ∀ x ∈ zs, x < 256)
    (hc : ∀ i, i < len → w.cell? ⟨b, off + i, none⟩ = some (.int .u8 ((zs.getD i 0 : Nat) : Int))) :
    Calls Try.prog 64 #[.slice (some ⟨b, off, none⟩) len cap, .int .i64 at0] w fun e w' => e = .returned (.tuple #[.int .u64 (valF zs at0 8), .int .i64 ((at0 + 8 : Nat) : Int), .int .i64 0]) ∧ w = w' := by
  have H := Lib.hid (read8_ok b off len cap at0 zs w hlen hat hb hc)
  clear hc hb
  go_enter Try.func64, Try.ntmps64
  go_wp2_with fail
  refine H.out.mono ?_
  rintro e w' ⟨rfl, rfl⟩
  go_wp2
  go_ret3
  exact ⟨rfl, rfl⟩
theorem get8_arg (a : Option Addr) (len cap : Nat) (at0 : Int) (w : World) (hlen : len ≤ 9223372036854775807) (h0 : -9223372036854775808 ≤ at0) (h1 : at0 ≤ 9223372036854775807) (hat : at0 < 0 ∨ (len : Int) < at0) :
    Calls Try.prog 64 #[.slice a len cap, .int .i64 at0] w fun e w' => e = .returned (.tuple #[.int .u64 0, .int .i64 0, .int .i64 1]) ∧ w = w' := by
  have H := Lib.hid (read8_arg a len cap at0 w hlen h0 h1 hat)
  clear hat
  go_enter Try.func64, Try.ntmps64
  go_wp2_with fail
  refine H.out.mono ?_
  rintro e w' ⟨rfl, rfl⟩
  go_wp2
  go_ret3
  exact ⟨rfl, rfl⟩
theorem get8_short (a : Option Addr) (len cap at0 : Nat) (w : World) (hlen : len ≤ 9223372036854775807) (hat : at0 ≤ len) (hs : len < at0 + 8) :
    Calls Try.prog 64 #[.slice a len cap, .int .i64 at0] w fun e w' => e = .returned (.tuple #[.int .u64 0, .int .i64 0, .int .i64 2]) ∧ w = w' := by
  have H := Lib.hid (read8_short a len cap at0 w hlen hat hs)
  go_enter Try.func64, Try.ntmps64
  go_wp2_with fail
  refine H.out.mono ?_
  rintro e w' ⟨rfl, rfl⟩
  go_wp2
  go_ret3
  exact ⟨rfl, rfl⟩

end Go.Proofs.Ytoglgdkeknojkaa
