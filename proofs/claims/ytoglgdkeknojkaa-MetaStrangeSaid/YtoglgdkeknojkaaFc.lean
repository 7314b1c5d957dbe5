/-
  LAYER 2: bytes laid between others.
-/
import Derived.Test.YtoglgdkeknojkaaFb
import Derived.Test.YtoglgdkeknojkaaApp
namespace Go.Proofs.Ytoglgdkeknojkaa
open Go.RowKit

theorem BytesAt_lit (w : World) (l : List Nat) (cs : Array Value) (n : Nat) (hc : cs = (bl l).toArray) (hn : n = l.length) : BytesAt (w.alloc (.cells cs 5)) (.slice (some ⟨w.heap.size, 0, none⟩) n n) l := by
  subst hc hn
  refine ⟨_, l.length, rfl, ⟨Nat.le_refl _, fun h => by cases h⟩, .inr ⟨w.heap.size, 0, rfl, by simp, fun i hi => ?_⟩⟩
  rw [World.cell?_alloc_at _ _ _ _ rfl]
  simp [bl, hi]
def r4 (n : Nat) : List Nat := [n % 256, n / 256 % 256, n / 65536 % 256, n / 16777216]
def r8 (n : Nat) : List Nat := [n % 256, n / 256 % 256, n / 65536 % 256, n / 16777216 % 256, n / 4294967296 % 256, n / 1099511627776 % 256, n / 281474976710656 % 256, n / 72057594037927936]
theorem row4_bl (n : Nat) : row4 n = (bl (r4 n)).toArray := by simp [row4, r4, bl]
theorem row8_bl (n : Nat) : row8 n = (bl (r8 n)).toArray := by simp [row8, r8, bl]
theorem valF_mid (xs l ys : List Nat) : ∀ k, k ≤ l.length → valF (xs ++ l ++ ys) xs.length k = valF l 0 k
  | 0, _ => rfl
  | k + 1, h => by
    rw [valF, valF, valF_mid xs l ys k (by omega)]
    congr 2
    simp only [List.getD_eq_getElem?_getD, Nat.zero_add]
    rw [List.append_assoc, List.getElem?_append_right (by omega), Nat.add_sub_cancel_left, List.getElem?_append_left (by omega)]
theorem val4 (n : Nat) (h : n ≤ 4294967295) : valF (r4 n) 0 4 = n := by simp [valF, r4]; omega
theorem val8 (n : Nat) (h : n ≤ 18446744073709551615) : valF (r8 n) 0 8 = n := by simp [valF, r8]; omega
theorem r4_lt (n : Nat) (h : n ≤ 4294967295) : ∀ x ∈ r4 n, x < 256 := by simp [r4]; omega
theorem r8_lt (n : Nat) (h : n ≤ 18446744073709551615) : ∀ x ∈ r8 n, x < 256 := by simp [r8]; omega

/-- What reads as bytes leads to cells. -/
theorem BytesAt.cells {w : World} {v : Value} {l : List Nat} (h : BytesAt w v l) (hl : l ≠ []) :
    ∃ b o cap, v = .slice (some ⟨b, o, none⟩) l.length cap ∧ b < w.heap.size ∧ ∀ i, i < l.length → w.cell? ⟨b, o + i, none⟩ = some (.int .u8 ((l.getD i 0 : Nat) : Int)) := by
  obtain ⟨a, cap, hv, _, hc⟩ := h
  rcases hc with h0 | ⟨b, o, rfl, hb, hcell⟩
  · exact absurd h0 hl
  · exact ⟨b, o, cap, hv, hb, hcell⟩

theorem get4_mid (v : Value) (xs ys : List Nat) (n : Nat) (w : World) (h : BytesAt w v (xs ++ r4 n ++ ys)) (hn : n ≤ 4294967295) (hx : ∀ x ∈ xs, x < 256) (hy : ∀ x ∈ ys, x < 256) (hlen : (xs ++ r4 n ++ ys).length ≤ 9223372036854775807) :
    Calls Try.prog 65 #[v, .int .i64 xs.length] w fun e w' => e = .returned (.tuple #[.int .u32 n, .int .i64 ((xs.length + 4 : Nat) : Int), .int .i64 0]) ∧ w = w' := by
  obtain ⟨b, o, cap, rfl, hb, hcell⟩ := h.cells (by simp [r4])
  have := get4_ok b o (xs ++ r4 n ++ ys).length cap xs.length (xs ++ r4 n ++ ys) w hlen (by simp [r4]) (by
    intro x hx'
    rcases List.mem_append.1 hx' with h | h
    · rcases List.mem_append.1 h with h | h
      · exact hx x h
      · exact r4_lt n hn x h
    · exact hy x h) hcell
  rw [valF_mid xs (r4 n) ys 4 (by simp [r4]), val4 n hn] at this
  exact this
theorem get8_mid (v : Value) (xs ys : List Nat) (n : Nat) (w : World) (h : BytesAt w v (xs ++ r8 n ++ ys)) (hn : n ≤ 18446744073709551615) (hx : ∀ x ∈ xs, x < 256) (hy : ∀ x ∈ ys, x < 256) (hlen : (xs ++ r8 n ++ ys).length ≤ 9223372036854775807) :
    Calls Try.prog 64 #[v, .int .i64 xs.length] w fun e w' => e = .returned (.tuple #[.int .u64 n, .int .i64 ((xs.length + 8 : Nat) : Int), .int .i64 0]) ∧ w = w' := by
  obtain ⟨b, o, cap, rfl, hb, hcell⟩ := h.cells (by simp [r8])
  have := get8_ok b o (xs ++ r8 n ++ ys).length cap xs.length (xs ++ r8 n ++ ys) w hlen (by simp [r8]) (by
    intro x hx'
    rcases List.mem_append.1 hx' with h | h
    · rcases List.mem_append.1 h with h | h
      · exact hx x h
      · exact r8_lt n hn x h
    · exact hy x h) hcell
  rw [valF_mid xs (r8 n) ys 8 (by simp [r8]), val8 n hn] at this
  exact this
end Go.Proofs.Ytoglgdkeknojkaa
