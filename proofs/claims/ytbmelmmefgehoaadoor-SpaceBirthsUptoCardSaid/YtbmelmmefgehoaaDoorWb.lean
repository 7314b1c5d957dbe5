/-
  LAYER 20: the kind of a word: the program's.
-/
import Derived.Test.YtbmelmmefgehoaaDoorWa
namespace Go.Proofs.YtbmelmmefgehoaaDoor
open Go.RowKit

/-- The kind of a word, from a number on. -/
def kindF (s : ByteArray) (k : Nat) : Nat → Nat
  | 0 => 0
  | n + 1 => if isk k = true ∧ word k = s then k else kindF s (k + 1) n
def kindB (s : ByteArray) : Nat := kindF s 0 10
def IntIs (n : Int) (w : World) (e : Ending) (w' : World) : Prop := e = .returned (.int .i64 n) ∧ Below w.heap.size w w'
def intOf (v : Value) : Int := match v with | .int _ n => n | _ => 0
theorem ix0 (w : World) : (Instr.index 46 (.agg rowsC) (.int .i64 0)).run Tryd.prog w = .ok (.agg #[.string (word 0), .int .i64 (has 0)]) w := by kernel_rfl
theorem ix1 (w : World) : (Instr.index 46 (.agg rowsC) (.int .i64 1)).run Tryd.prog w = .ok (.agg #[.string (word 1), .int .i64 (has 1)]) w := by kernel_rfl
theorem ix2 (w : World) : (Instr.index 46 (.agg rowsC) (.int .i64 2)).run Tryd.prog w = .ok (.agg #[.string (word 2), .int .i64 (has 2)]) w := by kernel_rfl
theorem ix3 (w : World) : (Instr.index 46 (.agg rowsC) (.int .i64 3)).run Tryd.prog w = .ok (.agg #[.string (word 3), .int .i64 (has 3)]) w := by kernel_rfl
theorem ix4 (w : World) : (Instr.index 46 (.agg rowsC) (.int .i64 4)).run Tryd.prog w = .ok (.agg #[.string (word 4), .int .i64 (has 4)]) w := by kernel_rfl
theorem ix5 (w : World) : (Instr.index 46 (.agg rowsC) (.int .i64 5)).run Tryd.prog w = .ok (.agg #[.string (word 5), .int .i64 (has 5)]) w := by kernel_rfl
theorem ix6 (w : World) : (Instr.index 46 (.agg rowsC) (.int .i64 6)).run Tryd.prog w = .ok (.agg #[.string (word 6), .int .i64 (has 6)]) w := by kernel_rfl
theorem ix7 (w : World) : (Instr.index 46 (.agg rowsC) (.int .i64 7)).run Tryd.prog w = .ok (.agg #[.string (word 7), .int .i64 (has 7)]) w := by kernel_rfl
theorem ix8 (w : World) : (Instr.index 46 (.agg rowsC) (.int .i64 8)).run Tryd.prog w = .ok (.agg #[.string (word 8), .int .i64 (has 8)]) w := by kernel_rfl
theorem ix9 (w : World) : (Instr.index 46 (.agg rowsC) (.int .i64 9)).run Tryd.prog w = .ok (.agg #[.string (word 9), .int .i64 (has 9)]) w := by kernel_rfl
theorem ix_any (w : World) (k : Nat) (hk : k < 10) : (Instr.index 46 (.agg rowsC) (.int .i64 (k : Int))).run Tryd.prog w = .ok (.agg #[.string (word k), .int .i64 (has k)]) w := by
  match k, hk with
  | 0, _ => exact ix0 w
  | 1, _ => exact ix1 w
  | 2, _ => exact ix2 w
  | 3, _ => exact ix3 w
  | 4, _ => exact ix4 w
  | 5, _ => exact ix5 w
  | 6, _ => exact ix6 w
  | 7, _ => exact ix7 w
  | 8, _ => exact ix8 w
  | 9, _ => exact ix9 w
theorem kindF_yes {s : ByteArray} {k n : Nat} (h : isk k = true) (h2 : word k = s) : kindF s k (n + 1) = k := by unfold kindF; rw [if_pos ⟨h, h2⟩]
theorem kindF_no {s : ByteArray} {k n : Nat} (h : ¬ (isk k = true ∧ word k = s)) : kindF s k (n + 1) = kindF s (k + 1) n := by rw [kindF]; rw [if_neg h]
theorem ne_bytes {x y : ByteArray} (h : x ≠ y) : (x.toList == y.toList) = false := by
  rw [beq_eq_false_iff_ne, ByteArray.toList_eq, ByteArray.toList_eq]
  obtain ⟨⟨a⟩⟩ := x
  obtain ⟨⟨b⟩⟩ := y
  exact fun e => h (by simp only at e; rw [e])
set_option maxHeartbeats 2000000 in
set_option maxRecDepth 100000 in
theorem kind_any (s : ByteArray) (w : World) (ht : Tabs w) : Calls Tryd.prog 13 #[.string s] w (IntIs (kindB s) w) := by
  have K := Lib.hid (fun k w => isk_any k w)
  obtain ⟨t, fr, hh⟩ := ht
  replace hh := Lib.hid hh
  go_enter Tryd.func13, Tryd.ntmps13
  go_wp2_with (refine wpList_load_row rfl 46 _ rfl 0 rfl t rowsC fr _ hh.out Tryd.underlying46 rfl (by kernel_rfl) ?_)
  go_loopw [6] (fun i wr => ∃ k : Nat, i = .int .i64 k ∧ k ≤ 10 ∧ kindF s k (10 - k) = kindB s ∧ Below w.heap.size w wr) (fun i _ => 10 - (intOf i).toNat)
  case atStart => exact ⟨0, rfl, by omega, rfl, Below.refl _ _⟩
  case round =>
    obtain ⟨k, rfl, hk, hkk, hb⟩ := hrel
    replace hb := Lib.hid hb
    have hsz := hb.out.size
    by_cases hend : k = 10
    · subst hend
      have hz : kindB s = 0 := by rw [← hkk]; rfl
      replace hz := Lib.hid hz
      replace hkk := Lib.hid hkk
      go_wp2_with fail
      go_ret
      exact ⟨by rw [hz.out]; rfl, hb.out⟩
    · have hk2 : (k : Int) < 10 := by omega
      have ix := fun w => ix_any w k (by omega)
      have en : 10 - k = (9 - k) + 1 := by omega
      rw [en] at hkk
      replace hend := Lib.hid hend
      cases hi : isk k with
      | false =>
        have K' := K.out k
        rw [hi] at K'
        replace K' := Lib.hid K'
        rw [kindF_no (by rw [hi]; simp)] at hkk
        replace hkk := Lib.hid hkk
        replace hi := Lib.hid hi
        go_wp2_with fail
        refine (K'.out _).mono ?_
        rintro e w1 ⟨rfl, rfl⟩
        go_wp2_with fail
        go_roundw
        case rel => exact ⟨k + 1, by simp, by omega, by rw [← hkk.out]; congr 1; omega, hb.out.alloc (by omega) _⟩
        case measure => simp [intOf]; omega
      | true =>
        have K' := K.out k
        rw [hi] at K'
        replace K' := Lib.hid K'
        by_cases hs : word k = s
        · rw [kindF_yes hi hs] at hkk
          rw [← hkk, ← hs]
          rw [← hs] at hkk
          replace hkk := Lib.hid hkk
          replace hi := Lib.hid hi
          go_wp2_with fail
          refine (K'.out _).mono ?_
          rintro e w1 ⟨rfl, rfl⟩
          go_wp2_with fail
          go_ret
          exact ⟨rfl, hb.out.alloc (by omega) _⟩
        · rw [kindF_no (by rintro ⟨-, h⟩; exact hs h)] at hkk
          have hq := ne_bytes hs
          replace hkk := Lib.hid hkk
          replace hi := Lib.hid hi
          replace hs := Lib.hid hs
          go_wp2_with fail
          refine (K'.out _).mono ?_
          rintro e w1 ⟨rfl, rfl⟩
          go_wp2_with fail
          go_roundw
          case rel => exact ⟨k + 1, by simp, by omega, by rw [← hkk.out]; congr 1; omega, hb.out.alloc (by omega) _⟩
          case measure => simp [intOf]; omega
end Go.Proofs.YtbmelmmefgehoaaDoor
