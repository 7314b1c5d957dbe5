/-
  LAYER 2: the document's put and Turn, and its faces.
-/
import Derived.Test.YtoglgdkeknojkaaFr
namespace Go.Proofs.Ytoglgdkeknojkaa
open Go.RowKit

def dg (n : Nat) : Nat → List Nat
  | 0 => []
  | k + 1 => dg n k ++ [n / 256 ^ k % 256]
theorem dg_length (n : Nat) : ∀ k, (dg n k).length = k
  | 0 => rfl
  | k + 1 => by simp [dg, dg_length n k]
theorem dg4 (n : Nat) (h : n ≤ 4294967295) : dg n 4 = r4 n := by
  simp [dg, r4]; omega
theorem dg8 (n : Nat) (h : n ≤ 18446744073709551615) : dg n 8 = r8 n := by
  simp [dg, r8]; omega
theorem lit_one (w : World) (x : Nat) : BytesAt (w.alloc (.cells #[.int .u8 (x : Int)] 5)) (.slice (some ⟨w.heap.size, 0, none⟩) 1 1) [x] := BytesAt_lit w [x] _ 1 (by simp [bl]) rfl
def Laid (l : List Nat) (w : World) (e : Ending) (w' : World) : Prop := ∃ v, e = .returned v ∧ w'.ownsRow w.heap.size 5 1 v l.length (bl l) ∧ Below w.heap.size w w'
def FPutRel (w : World) (n width : Nat) (o x i : Value) (wr : World) : Prop :=
  ∃ k : Nat, k ≤ width ∧ i = .int .i64 k ∧ x = .int .u64 (n / 256 ^ k : Nat) ∧ wr.ownsRow w.heap.size 5 1 o (dg n k).length (bl (dg n k)) ∧ Below w.heap.size w wr
set_option maxHeartbeats 1000000 in
set_option maxRecDepth 100000 in
theorem rput_dg (n width : Nat) (hn : n ≤ 18446744073709551615) (hw : width ≤ 8) (w : World) : Calls Try.prog 59 #[.int .u64 n, .int .i64 width] w (Laid (dg n width) w) := by
  obtain ⟨i0, hi, hz0, hz1, hz2⟩ := info_parts Try.info5b
  have hw' : (width : Int) ≤ 8 := by omega
  replace hi := Lib.hid hi
  replace hz0 := Lib.hid hz0
  replace hz1 := Lib.hid hz1
  replace hz2 := Lib.hid hz2
  have hn' := Lib.hid hn
  clear hn
  go_enter Try.func59, Try.ntmps59
  go_wp2
  go_loopw [5, 6, 7] (fun o x i wr => FPutRel w n width o x i wr) (fun _ _ i _ => width - (intOf i).toNat)
  case atStart => exact ⟨0, by omega, rfl, by simp, ⟨by simp [bl, dg], .inl ⟨rfl, rfl⟩⟩, Below.refl _ _⟩
  case round =>
    obtain ⟨k, hk, rfl, rfl, ho, hb⟩ := hrel
    by_cases hlt : k < width
    · have hd : n / 256 ^ k ≤ 18446744073709551615 := Nat.le_trans (Nat.div_le_self _ _) hn'.out
      have hnx : n / 256 ^ k / 256 = n / 256 ^ (k + 1) := by rw [Nat.div_div_eq_div_mul, Nat.pow_succ]
      have hdg : dg n (k + 1) = dg n k ++ [n / 256 ^ k % 256] := rfl
      have hl := dg_length n k
      have hl' : (dg n k).length ≤ 8 := by omega
      generalize n / 256 ^ k = y at *
      generalize dg n k = d at *
      replace hnx := Lib.hid hnx
      replace hdg := Lib.hid hdg
      replace hl := Lib.hid hl
      have ha := lit_one wr (y % 256)
      have hy0 : (0 : Int) ≤ y := by omega
      have hyi : ((y % 256 : Nat) : Int) = (y : Int) % 256 := by omega
      rw [hyi] at ha
      clear hyi
      go_wp2_with (at_builtin; go_must (refine wpList_append_bytes _ rfl (.tmp 14) (.tmp 18) 25 rfl w.heap.size 5 i0 Try.underlying25 hi.out hz0.out hz1.out hz2.out _ d [y % 256] rfl (ho.alloc _) ha (by simp; omega) (by have := hb.size; simp; omega) ?_); intro v1 w1 o1 g1 n1)
      have hb1 : Below w.heap.size w w1 := (hb.alloc hb.size _).grown g1 (by have := hb.size; simp; omega) (fun j hj => (ho.lt j hj).1)
      go_roundw
      case rel => exact ⟨k + 1, by omega, by go_num, by rw [← hnx.out]; go_num, by rw [hdg.out]; exact o1, hb1⟩
      case measure => simp [intOf]; omega
    · go_wp2
      have : k = width := by omega
      subst this
      go_ret
      exact ⟨_, rfl, ho, hb⟩
theorem rput4_any (n : Nat) (w : World) (h : n ≤ 4294967295) : Calls Try.prog 44 #[.int .u32 n] w (Laid (r4 n) w) := by
  have P := fun w => rput_dg n 4 (by omega) (by decide) w
  rw [dg4 n h] at P
  replace P := Lib.hid P
  have h' : (n : Int) ≤ 4294967295 := by omega
  go_enter Try.func44, Try.ntmps44
  go_wp2_with fail
  refine (P.out _).mono ?_
  rintro e w' ⟨v, rfl, ho, hb⟩
  go_wp2_with fail
  go_ret
  exact ⟨v, rfl, ho, hb⟩
theorem rput8_any (n : Nat) (w : World) (h : n ≤ 18446744073709551615) : Calls Try.prog 43 #[.int .u64 n] w (Laid (r8 n) w) := by
  have P := fun w => rput_dg n 8 h (by decide) w
  rw [dg8 n h] at P
  replace P := Lib.hid P
  replace h := Lib.hid h
  go_enter Try.func43, Try.ntmps43
  go_wp2_with fail
  refine (P.out _).mono ?_
  rintro e w' ⟨v, rfl, ho, hb⟩
  go_wp2_with fail
  go_ret
  exact ⟨v, rfl, ho, hb⟩
def TRel (w : World) (l : List Nat) (o i : Value) (wr : World) : Prop :=
  ∃ k : Nat, k ≤ l.length ∧ i = .int .i64 ((l.length : Int) - 1 - k) ∧ wr.ownsRow w.heap.size 5 1 o ((l.reverse).take k).length (bl ((l.reverse).take k)) ∧ Below w.heap.size w wr
theorem rev_step (l : List Nat) (k : Nat) (hk : k < l.length) : l.reverse.take (k + 1) = l.reverse.take k ++ [l.getD (l.length - 1 - k) 0] := by
  rw [List.take_succ_eq_append_getElem (by simpa using hk), List.getElem_reverse]
  simp [List.getD, hk, show l.length - 1 - k < l.length by omega]
end Go.Proofs.Ytoglgdkeknojkaa
