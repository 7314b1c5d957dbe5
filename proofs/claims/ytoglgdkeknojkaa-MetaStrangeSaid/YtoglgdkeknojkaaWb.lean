/-
  LAYER 3: a field's bytes, of both sides.
-/
import Derived.Test.YtoglgdkeknojkaaWa
import Derived.Deep.DeepMust
namespace Go.Proofs.Ytoglgdkeknojkaa
open Go.RowKit

theorem wrE_zero {f : Fd} (h : wrE f = 0) : 1 ≤ f.num ∧ f.num ≤ 536870911 ∧ ((f.kind = 0 ∧ f.text = ⟨#[]⟩) ∨ (f.kind = 1 ∧ f.text = ⟨#[]⟩) ∨ (f.kind = 2 ∧ f.val = 0) ∨ (f.kind = 5 ∧ f.text = ⟨#[]⟩ ∧ f.val ≤ 4294967295)) := by
  obtain ⟨n, k, v, t⟩ := f
  unfold wrE at h
  simp only at h ⊢
  by_cases a : n < 1 ∨ 536870911 < n
  · rw [if_pos a] at h; cases h
  rw [if_neg a] at h
  by_cases b : isK k
  · rw [if_neg (by simpa using b)] at h
    by_cases c : (k = 2 ∧ v ≠ 0) ∨ (k ≠ 2 ∧ t.size ≠ 0)
    · rw [if_pos c] at h; cases h
    rw [if_neg c] at h
    by_cases d : k = 5 ∧ 4294967295 < v
    · rw [if_pos d] at h; cases h
    have hn : 1 ≤ n ∧ n ≤ 536870911 := by omega
    refine ⟨hn.1, hn.2, ?_⟩
    have ht : k ≠ 2 → t = ⟨#[]⟩ := fun hk => size0 (by
      by_cases z : t.size = 0
      · exact z
      · exact absurd (.inr ⟨hk, z⟩) c)
    rcases b with b | b | b | b
    · exact .inl ⟨b, ht (by omega)⟩
    · exact .inr (.inl ⟨b, ht (by omega)⟩)
    · refine .inr (.inr (.inl ⟨b, ?_⟩))
      by_cases z : v = 0
      · exact z
      · exact absurd (.inl ⟨b, z⟩) c
    · exact .inr (.inr (.inr ⟨b, ht (by omega), by omega⟩))
  · rw [if_pos b] at h; cases h
/-- What a call makes: bytes. -/
def Bs (l : List Nat) (w : World) (e : Ending) (w' : World) : Prop := ∃ a n c, e = .returned (.slice a n c) ∧ BytesAt w' (.slice a n c) l ∧ Below w.heap.size w w'
theorem bs_own {l : List Nat} {w w' : World} {v : Value} {B : Nat} (h : w'.ownsRow B 5 1 v l.length (bl l)) (hb : Below w.heap.size w w') : Bs l w (.returned v) w' := by
  have h1 := BytesAt.of_own h
  obtain ⟨a, c, rfl, -, -⟩ := h1
  exact ⟨a, _, c, rfl, BytesAt.of_own h, hb⟩
theorem bs_put (n : Nat) (w : World) (h : n ≤ 18446744073709551615) : Calls Try.prog 36 #[.int .u64 n] w (Bs (putL 9 n) w) := by
  refine (put_any n w h).mono ?_
  rintro e w' ⟨v, rfl, ho, hb, -⟩
  exact bs_own ho hb
theorem bs_rput (n : Nat) (w : World) (h : n ≤ 18446744073709551615) : Calls Try.prog 42 #[.int .u64 n] w (Bs (putL 9 n) w) := by
  refine (rput_any n w h).mono ?_
  rintro e w' ⟨v, rfl, ho, hb, -⟩
  exact bs_own ho hb
theorem bs_put4 (n : Nat) (w : World) (h : n ≤ 4294967295) : Calls Try.prog 51 #[.int .u32 n] w (Bs (r4 n) w) := by
  refine (put4_any n w h).mono ?_
  rintro e w' ⟨rfl, rfl⟩
  exact ⟨_, _, _, rfl, BytesAt_lit w (r4 n) _ 4 (row4_bl n) rfl, ext_alloc _ _⟩
theorem bs_put8 (n : Nat) (w : World) (h : n ≤ 18446744073709551615) : Calls Try.prog 50 #[.int .u64 n] w (Bs (r8 n) w) := by
  refine (put8_any n w h).mono ?_
  rintro e w' ⟨rfl, rfl⟩
  exact ⟨_, _, _, rfl, BytesAt_lit w (r8 n) _ 8 (row8_bl n) rfl, ext_alloc _ _⟩
theorem bs_rput4 (n : Nat) (w : World) (h : n ≤ 4294967295) : Calls Try.prog 44 #[.int .u32 n] w (Bs (r4 n) w) := by
  refine (rput4_any n w h).mono ?_
  rintro e w' ⟨v, rfl, ho, hb⟩
  exact bs_own ho hb
theorem bs_rput8 (n : Nat) (w : World) (h : n ≤ 18446744073709551615) : Calls Try.prog 43 #[.int .u64 n] w (Bs (r8 n) w) := by
  refine (rput8_any n w h).mono ?_
  rintro e w' ⟨v, rfl, ho, hb⟩
  exact bs_own ho hb
/-- What stands between a field's tag and its text. -/
def midL (f : Fd) : List Nat := if f.kind = 1 then r8 f.val else if f.kind = 5 then r4 f.val else if f.kind = 2 then putL 9 f.text.size else putL 9 f.val
set_option maxHeartbeats 1000000 in
set_option maxRecDepth 100000 in
theorem ahead_any (f : Fd) (w : World) (hf : f.ok) (h : wrE f = 0) : Calls Try.prog 37 #[.agg f.cells.toArray] w (Bs (midL f) w) := by
  obtain ⟨h1, h2, hk⟩ := wrE_zero h
  obtain ⟨-, -, hv, ht⟩ := hf
  clear h
  obtain ⟨n, k, v, t⟩ := f
  simp only at h1 h2 hk hv ht
  simp only [Fd.cells]
  unfold midL
  simp only
  have b0 := fun k => Lib.hid (ext_alloc w (.cells #[.int .i64 n, .int .i64 k, .int .u64 (v : Nat), .string t] 41))
  rcases hk with ⟨rfl, rfl⟩ | ⟨rfl, rfl⟩ | ⟨rfl, rfl⟩ | ⟨rfl, rfl, hv4⟩
  · rw [if_neg (by decide), if_neg (by decide), if_neg (by decide)]
    have P := Lib.hid fun w => bs_put v w hv
    replace hv := Lib.hid hv
    go_enter Try.func37, Try.ntmps37
    go_wp2_with fail
    refine (P.out _).mono ?_
    rintro e w1 ⟨a, m, c, rfl, h1, hb⟩
    go_wp2_with fail
    go_ret
    exact ⟨_, _, _, rfl, h1, ext_trans (b0 0).out hb⟩
  · rw [if_pos rfl]
    have P := Lib.hid fun w => bs_put8 v w hv
    replace hv := Lib.hid hv
    go_enter Try.func37, Try.ntmps37
    go_wp2_with fail
    refine (P.out _).mono ?_
    rintro e w1 ⟨a, m, c, rfl, h1, hb⟩
    go_wp2_with fail
    go_ret
    exact ⟨_, _, _, rfl, h1, ext_trans (b0 1).out hb⟩
  · rw [if_neg (by decide), if_neg (by decide), if_pos rfl]
    have P := Lib.hid fun w => bs_put t.size w (by omega)
    have ht' : (t.size : Int) ≤ 140737488351232 := by omega
    go_enter Try.func37, Try.ntmps37
    go_wp2_with fail
    refine (P.out _).mono ?_
    rintro e w1 ⟨a, m, c, rfl, h1, hb⟩
    go_wp2_with fail
    go_ret
    exact ⟨_, _, _, rfl, h1, ext_trans (b0 2).out hb⟩
  · rw [if_neg (by decide), if_pos rfl]
    have P := Lib.hid fun w => bs_put4 v w hv4
    have hv' : (v : Int) ≤ 4294967295 := by omega
    replace hv := Lib.hid hv
    go_enter Try.func37, Try.ntmps37
    go_wp2_with fail
    refine (P.out _).mono ?_
    rintro e w1 ⟨a, m, c, rfl, h1, hb⟩
    go_wp2_with fail
    go_ret
    exact ⟨_, _, _, rfl, h1, ext_trans (b0 5).out hb⟩
end Go.Proofs.Ytoglgdkeknojkaa
