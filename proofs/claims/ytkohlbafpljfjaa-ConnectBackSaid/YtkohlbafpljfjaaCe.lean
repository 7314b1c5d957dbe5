/-
  LAYER 13: the flags of who comes, of both sides.
-/
import Derived.Test.YtkohlbafpljfjaaCd
import Derived.LoopTactic
namespace Go.Proofs.Ytkohlbafpljfjaa
set_option linter.unusedSimpArgs false
set_option linter.unusedVariables false
open Go.RowKit

def b2 (b : Bool) (n : Nat) : Nat := if b then n else 0
/-- The flags behind k of the five rounds. -/
def fl (q : Nat) (cl hw rb hp hu : Bool) (k : Nat) : Nat :=
  8 * q + (if 0 < k then b2 cl 2 else 0) + (if 1 < k then b2 hw 4 else 0) + (if 2 < k then b2 rb 32 else 0) + (if 3 < k then b2 hp 64 else 0) + (if 4 < k then b2 hu 128 else 0)
theorem fl_lt : ∀ (q : Fin 3) (cl hw rb hp hu : Bool) (k : Fin 6), fl q cl hw rb hp hu k < 256 := by decide +kernel
theorem fl_or : ∀ (q : Fin 3) (cl hw rb hp hu : Bool), (cl = true → fl q cl hw rb hp hu 0 ||| 2 = fl q cl hw rb hp hu 1) ∧ (hw = true → fl q cl hw rb hp hu 1 ||| 4 = fl q cl hw rb hp hu 2) ∧
    (rb = true → fl q cl hw rb hp hu 2 ||| 32 = fl q cl hw rb hp hu 3) ∧ (hp = true → fl q cl hw rb hp hu 3 ||| 64 = fl q cl hw rb hp hu 4) ∧ (hu = true → fl q cl hw rb hp hu 4 ||| 128 = fl q cl hw rb hp hu 5) := by decide +kernel
theorem fl_no : ∀ (q : Fin 3) (cl hw rb hp hu : Bool), (cl = false → fl q cl hw rb hp hu 0 = fl q cl hw rb hp hu 1) ∧ (hw = false → fl q cl hw rb hp hu 1 = fl q cl hw rb hp hu 2) ∧
    (rb = false → fl q cl hw rb hp hu 2 = fl q cl hw rb hp hu 3) ∧ (hp = false → fl q cl hw rb hp hu 3 = fl q cl hw rb hp hu 4) ∧ (hu = false → fl q cl hw rb hp hu 4 = fl q cl hw rb hp hu 5) := by decide +kernel
set_option maxRecDepth 100000 in
set_option maxHeartbeats 1000000 in
theorem flags_any (L : Int) (cl : Bool) (K : Int) (id : ByteArray) (hw : Bool) (wt wx : ByteArray) (q : Nat) (rb : Bool) (hu : Bool) (u : ByteArray) (hp : Bool) (p : ByteArray) (w : World) (hq : q < 3) :
    Calls Try.prog 45 #[con L cl K id hw wt wx q rb hu u hp p] w fun e w' => e = .returned (.int .u8 (fl q cl hw rb hp hu 5 : Nat)) ∧ Below w.heap.size w w' := by
  have hq' : (q : Int) ≤ 2 := by omega
  unfold con
  go_enter Try.func45, Try.ntmps45
  go_wp2
  go_loopw [3, 27] (fun n i wr => ∃ k : Nat, k ≤ 5 ∧ i = .int .i64 k ∧ n = .int .i64 (fl q cl hw rb hp hu k : Nat) ∧ Below w.heap.size w wr) (fun _ i _ => 5 - (intOf i).toNat)
  case atStart => exact ⟨0, by decide, rfl, by simp [fl], ext_alloc _ _⟩
  case round =>
    obtain ⟨k, hk, rfl, rfl, hb⟩ := hrel
    have : k = 0 ∨ k = 1 ∨ k = 2 ∨ k = 3 ∨ k = 4 ∨ k = 5 := by omega
    rcases this with rfl | rfl | rfl | rfl | rfl | rfl
    · have ix : ∀ w, (Instr.index 99 (.agg #[.bool cl, .int .i64 2, .bool hw, .int .i64 4, .bool rb, .int .i64 32, .bool hp, .int .i64 64, .bool hu, .int .i64 128]) (.int .i64 0)).run Try.prog w = .ok (.agg #[.bool cl, .int .i64 2]) w := fun _ => by kernel_rfl
      have N := fl_no ⟨q, hq⟩ cl hw rb hp hu
      have O := fl_or ⟨q, hq⟩ cl hw rb hp hu
      simp only at N O
      have N := Lib.hid N.1
      have O := Lib.hid O.1
      have T := Lib.hid (fl_lt ⟨q, hq⟩ cl hw rb hp hu ⟨0, by decide⟩)
      have T1 : (0 : Int) ≤ (fl q cl hw rb hp hu 0 : Nat) := by omega
      have T2 : (fl q cl hw rb hp hu 0 : Nat) < 256 := T.out
      have or : bits .or .i64 ((fl q cl hw rb hp hu 0 : Nat) : Int) 2 = ((fl q cl hw rb hp hu 0 ||| 2 : Nat) : Int) := i64_or_nat _ 2 (by omega) (by decide)
      generalize gx : fl q cl hw rb hp hu 0 = x at *
      generalize gy : fl q cl hw rb hp hu 1 = y at *
      replace gx := Lib.hid gx
      replace gy := Lib.hid gy
      cases cl
      · clear or O
        go_wp2
        go_roundw
        case rel => exact ⟨1, by decide, rfl, by rw [gy.out, N.out rfl], hb.alloc hb.size _⟩
        case measure => simp [intOf]
      · have E := O.out rfl
        rw [E] at or
        clear E
        clear O N
        go_wp2
        go_roundw
        case rel => exact ⟨1, by decide, rfl, by rw [gy.out], hb.alloc hb.size _⟩
        case measure => simp [intOf]
    · have ix : ∀ w, (Instr.index 99 (.agg #[.bool cl, .int .i64 2, .bool hw, .int .i64 4, .bool rb, .int .i64 32, .bool hp, .int .i64 64, .bool hu, .int .i64 128]) (.int .i64 1)).run Try.prog w = .ok (.agg #[.bool hw, .int .i64 4]) w := fun _ => by kernel_rfl
      have N := fl_no ⟨q, hq⟩ cl hw rb hp hu
      have O := fl_or ⟨q, hq⟩ cl hw rb hp hu
      simp only at N O
      have N := Lib.hid N.2.1
      have O := Lib.hid O.2.1
      have T := Lib.hid (fl_lt ⟨q, hq⟩ cl hw rb hp hu ⟨1, by decide⟩)
      have T1 : (0 : Int) ≤ (fl q cl hw rb hp hu 1 : Nat) := by omega
      have T2 : (fl q cl hw rb hp hu 1 : Nat) < 256 := T.out
      have or : bits .or .i64 ((fl q cl hw rb hp hu 1 : Nat) : Int) 4 = ((fl q cl hw rb hp hu 1 ||| 4 : Nat) : Int) := i64_or_nat _ 4 (by omega) (by decide)
      generalize gx : fl q cl hw rb hp hu 1 = x at *
      generalize gy : fl q cl hw rb hp hu 2 = y at *
      replace gx := Lib.hid gx
      replace gy := Lib.hid gy
      cases hw
      · clear or O
        go_wp2
        go_roundw
        case rel => exact ⟨2, by decide, rfl, by rw [gy.out, N.out rfl], hb.alloc hb.size _⟩
        case measure => simp [intOf]
      · have E := O.out rfl
        rw [E] at or
        clear E
        clear O N
        go_wp2
        go_roundw
        case rel => exact ⟨2, by decide, rfl, by rw [gy.out], hb.alloc hb.size _⟩
        case measure => simp [intOf]
    · have ix : ∀ w, (Instr.index 99 (.agg #[.bool cl, .int .i64 2, .bool hw, .int .i64 4, .bool rb, .int .i64 32, .bool hp, .int .i64 64, .bool hu, .int .i64 128]) (.int .i64 2)).run Try.prog w = .ok (.agg #[.bool rb, .int .i64 32]) w := fun _ => by kernel_rfl
      have N := fl_no ⟨q, hq⟩ cl hw rb hp hu
      have O := fl_or ⟨q, hq⟩ cl hw rb hp hu
      simp only at N O
      have N := Lib.hid N.2.2.1
      have O := Lib.hid O.2.2.1
      have T := Lib.hid (fl_lt ⟨q, hq⟩ cl hw rb hp hu ⟨2, by decide⟩)
      have T1 : (0 : Int) ≤ (fl q cl hw rb hp hu 2 : Nat) := by omega
      have T2 : (fl q cl hw rb hp hu 2 : Nat) < 256 := T.out
      have or : bits .or .i64 ((fl q cl hw rb hp hu 2 : Nat) : Int) 32 = ((fl q cl hw rb hp hu 2 ||| 32 : Nat) : Int) := i64_or_nat _ 32 (by omega) (by decide)
      generalize gx : fl q cl hw rb hp hu 2 = x at *
      generalize gy : fl q cl hw rb hp hu 3 = y at *
      replace gx := Lib.hid gx
      replace gy := Lib.hid gy
      cases rb
      · clear or O
        go_wp2
        go_roundw
        case rel => exact ⟨3, by decide, rfl, by rw [gy.out, N.out rfl], hb.alloc hb.size _⟩
        case measure => simp [intOf]
      · have E := O.out rfl
        rw [E] at or
        clear E
        clear O N
        go_wp2
        go_roundw
        case rel => exact ⟨3, by decide, rfl, by rw [gy.out], hb.alloc hb.size _⟩
        case measure => simp [intOf]
    · have ix : ∀ w, (Instr.index 99 (.agg #[.bool cl, .int .i64 2, .bool hw, .int .i64 4, .bool rb, .int .i64 32, .bool hp, .int .i64 64, .bool hu, .int .i64 128]) (.int .i64 3)).run Try.prog w = .ok (.agg #[.bool hp, .int .i64 64]) w := fun _ => by kernel_rfl
      have N := fl_no ⟨q, hq⟩ cl hw rb hp hu
      have O := fl_or ⟨q, hq⟩ cl hw rb hp hu
      simp only at N O
      have N := Lib.hid N.2.2.2.1
      have O := Lib.hid O.2.2.2.1
      have T := Lib.hid (fl_lt ⟨q, hq⟩ cl hw rb hp hu ⟨3, by decide⟩)
      have T1 : (0 : Int) ≤ (fl q cl hw rb hp hu 3 : Nat) := by omega
      have T2 : (fl q cl hw rb hp hu 3 : Nat) < 256 := T.out
      have or : bits .or .i64 ((fl q cl hw rb hp hu 3 : Nat) : Int) 64 = ((fl q cl hw rb hp hu 3 ||| 64 : Nat) : Int) := i64_or_nat _ 64 (by omega) (by decide)
      generalize gx : fl q cl hw rb hp hu 3 = x at *
      generalize gy : fl q cl hw rb hp hu 4 = y at *
      replace gx := Lib.hid gx
      replace gy := Lib.hid gy
      cases hp
      · clear or O
        go_wp2
        go_roundw
        case rel => exact ⟨4, by decide, rfl, by rw [gy.out, N.out rfl], hb.alloc hb.size _⟩
        case measure => simp [intOf]
      · have E := O.out rfl
        rw [E] at or
        clear E
        clear O N
        go_wp2
        go_roundw
        case rel => exact ⟨4, by decide, rfl, by rw [gy.out], hb.alloc hb.size _⟩
        case measure => simp [intOf]
    · have ix : ∀ w, (Instr.index 99 (.agg #[.bool cl, .int .i64 2, .bool hw, .int .i64 4, .bool rb, .int .i64 32, .bool hp, .int .i64 64, .bool hu, .int .i64 128]) (.int .i64 4)).run Try.prog w = .ok (.agg #[.bool hu, .int .i64 128]) w := fun _ => by kernel_rfl
      have N := fl_no ⟨q, hq⟩ cl hw rb hp hu
      have O := fl_or ⟨q, hq⟩ cl hw rb hp hu
      simp only at N O
      have N := Lib.hid N.2.2.2.2
      have O := Lib.hid O.2.2.2.2
      have T := Lib.hid (fl_lt ⟨q, hq⟩ cl hw rb hp hu ⟨4, by decide⟩)
      have T1 : (0 : Int) ≤ (fl q cl hw rb hp hu 4 : Nat) := by omega
      have T2 : (fl q cl hw rb hp hu 4 : Nat) < 256 := T.out
      have or : bits .or .i64 ((fl q cl hw rb hp hu 4 : Nat) : Int) 128 = ((fl q cl hw rb hp hu 4 ||| 128 : Nat) : Int) := i64_or_nat _ 128 (by omega) (by decide)
      generalize gx : fl q cl hw rb hp hu 4 = x at *
      generalize gy : fl q cl hw rb hp hu 5 = y at *
      replace gx := Lib.hid gx
      replace gy := Lib.hid gy
      cases hu
      · clear or O
        go_wp2
        go_roundw
        case rel => exact ⟨5, by decide, rfl, by rw [gy.out, N.out rfl], hb.alloc hb.size _⟩
        case measure => simp [intOf]
      · have E := O.out rfl
        rw [E] at or
        clear E
        clear O N
        go_wp2
        go_roundw
        case rel => exact ⟨5, by decide, rfl, by rw [gy.out], hb.alloc hb.size _⟩
        case measure => simp [intOf]
    · have T := fl_lt ⟨q, hq⟩ cl hw rb hp hu ⟨5, by decide⟩
      simp only at T
      generalize gx : fl q cl hw rb hp hu 5 = x at *
      replace gx := Lib.hid gx
      go_wp2
      go_ret
      exact ⟨by rw [gx.out]; rfl, hb⟩
theorem fl5 (q : Nat) (cl hw rb hp hu : Bool) : fl q cl hw rb hp hu 5 = 8 * q + b2 cl 2 + b2 hw 4 + b2 rb 32 + b2 hp 64 + b2 hu 128 := by simp [fl]
end Go.Proofs.Ytkohlbafpljfjaa
