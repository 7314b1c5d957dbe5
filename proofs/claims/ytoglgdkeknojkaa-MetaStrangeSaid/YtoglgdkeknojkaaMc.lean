/-
  LAYER 6: the parts.
-/
import Derived.Test.YtoglgdkeknojkaaMb
namespace Go.Proofs.Ytoglgdkeknojkaa
open Go.RowKit

/-- A captured function. -/
def Cap (w : World) (g : Nat) (t : TypeId) (f : FuncId) : Prop := Blk w g t #[.func (.func f) #[] #[]]
theorem Cap.cell0 {w : World} {g : Nat} {t : TypeId} {f : FuncId} (h : Cap w g t f) : w.cell? ⟨g, 0, none⟩ = some (.func (.func f) #[] #[]) := Blk.cell h 0
def TextP (num : Int) (f : FuncId) (w : World) (e : Ending) (w' : World) : Prop :=
  ∃ g, e = .returned (.agg #[.int .i64 num, .int .i64 2, .int .u64 0, .func (.func 45) #[] #[.pointer (some ⟨g, 0, none⟩)], .func (.func 46) #[] #[.pointer (some ⟨g, 0, none⟩)]]) ∧ Cap w' g 64 f ∧ Below w.heap.size w w'
def NumP (num : Int) (f : FuncId) (w : World) (e : Ending) (w' : World) : Prop :=
  ∃ g, e = .returned (.agg #[.int .i64 num, .int .i64 0, .int .u64 18446744073709551615, .func (.func 47) #[] #[.pointer (some ⟨g, 0, none⟩)], .func (.func 48) #[] #[.pointer (some ⟨g, 0, none⟩)]]) ∧ Cap w' g 67 f ∧ Below w.heap.size w w'
set_option maxHeartbeats 1000000 in
set_option maxRecDepth 100000 in
theorem mtext_any (num : Int) (f : FuncId) (w : World) : Calls Try.prog 26 #[.int .i64 num, .func (.func f) #[] #[]] w (TextP num f w) := by
  go_enter Try.func26, Try.ntmps26
  go_wp2
  exact bodyPost_ret (v := .agg #[.int .i64 num, .int .i64 2, .int .u64 0, .func (.func 45) #[] #[.pointer (some ⟨w.heap.size, 0, none⟩)], .func (.func 46) #[] #[.pointer (some ⟨w.heap.size, 0, none⟩)]]) (by simp [results, Try.results26, go_sem]) rfl
    ⟨_, rfl, Blk.alloc (Blk.new w 64 _) _, (ext_alloc _ _).alloc (by simp) _⟩
set_option maxHeartbeats 1000000 in
set_option maxRecDepth 100000 in
theorem mnum_any (num : Int) (f : FuncId) (w : World) : Calls Try.prog 28 #[.int .i64 num, .func (.func f) #[] #[]] w (NumP num f w) := by
  go_enter Try.func28, Try.ntmps28
  go_wp2
  exact bodyPost_ret (v := .agg #[.int .i64 num, .int .i64 0, .int .u64 18446744073709551615, .func (.func 47) #[] #[.pointer (some ⟨w.heap.size, 0, none⟩)], .func (.func 48) #[] #[.pointer (some ⟨w.heap.size, 0, none⟩)]]) (by simp [results, Try.results28, go_sem]) rfl
    ⟨_, rfl, Blk.alloc (Blk.new w 67 _) _, (ext_alloc _ _).alloc (by simp) _⟩
/-- The parts: block b has them, the closures' captured functions lie in blocks of their own. -/
def Parts (w : World) (b g1 g2 g3 g4 g5 g6 g7 : Nat) : Prop :=
  Blk w b 49 #[.int .i64 1, .int .i64 0, .int .u64 1, .func (.func 24) #[] #[], .func (.func 25) #[] #[], .int .i64 2, .int .i64 2, .int .u64 0, .func (.func 45) #[] #[.pointer (some ⟨g1, 0, none⟩)], .func (.func 46) #[] #[.pointer (some ⟨g1, 0, none⟩)], .int .i64 3, .int .i64 0, .int .u64 18446744073709551615, .func (.func 47) #[] #[.pointer (some ⟨g2, 0, none⟩)], .func (.func 48) #[] #[.pointer (some ⟨g2, 0, none⟩)], .int .i64 4, .int .i64 0, .int .u64 18446744073709551615, .func (.func 47) #[] #[.pointer (some ⟨g3, 0, none⟩)], .func (.func 48) #[] #[.pointer (some ⟨g3, 0, none⟩)], .int .i64 5, .int .i64 2, .int .u64 0, .func (.func 45) #[] #[.pointer (some ⟨g4, 0, none⟩)], .func (.func 46) #[] #[.pointer (some ⟨g4, 0, none⟩)], .int .i64 6, .int .i64 2, .int .u64 0, .func (.func 45) #[] #[.pointer (some ⟨g5, 0, none⟩)], .func (.func 46) #[] #[.pointer (some ⟨g5, 0, none⟩)], .int .i64 7, .int .i64 2, .int .u64 0, .func (.func 45) #[] #[.pointer (some ⟨g6, 0, none⟩)], .func (.func 46) #[] #[.pointer (some ⟨g6, 0, none⟩)], .int .i64 8, .int .i64 2, .int .u64 0, .func (.func 45) #[] #[.pointer (some ⟨g7, 0, none⟩)], .func (.func 46) #[] #[.pointer (some ⟨g7, 0, none⟩)]] ∧ Cap w g1 64 27 ∧ Cap w g2 67 29 ∧ Cap w g3 67 30 ∧ Cap w g4 64 31 ∧ Cap w g5 64 32 ∧ Cap w g6 64 33 ∧ Cap w g7 64 34
def PartsP (w : World) (e : Ending) (w' : World) : Prop :=
  ∃ b g1 g2 g3 g4 g5 g6 g7, e = .returned (.slice (some ⟨b, 0, none⟩) 8 8) ∧ Parts w' b g1 g2 g3 g4 g5 g6 g7 ∧ Below w.heap.size w w'
theorem Parts.keep {w w' : World} {b g1 g2 g3 g4 g5 g6 g7 : Nat} (h : Parts w b g1 g2 g3 g4 g5 g6 g7) (hb : Below w.heap.size w w') : Parts w' b g1 g2 g3 g4 g5 g6 g7 := by
  obtain ⟨h0, h1, h2, h3, h4, h5, h6, h7⟩ := h
  exact ⟨Blk.ext h0 hb, Blk.ext h1 hb, Blk.ext h2 hb, Blk.ext h3 hb, Blk.ext h4 hb, Blk.ext h5 hb, Blk.ext h6 hb, Blk.ext h7 hb⟩
set_option maxHeartbeats 2000000 in
set_option maxRecDepth 100000 in
theorem parts_any (w : World) : Calls Try.prog 15 #[] w (PartsP w) := by
  go_enter Try.func15, Try.ntmps15
  go_wp2_with fail
  refine (mtext_any 2 27 _).mono ?_
  rintro e w1 ⟨g1, rfl, k1, b1⟩
  have B1 := Lib.hid b1
  clear b1
  go_wp2_with fail
  refine (mnum_any 3 29 _).mono ?_
  rintro e w2 ⟨g2, rfl, k2, b2⟩
  have B2 := Lib.hid (ext_trans B1.out b2)
  have k1 := Blk.ext k1 b2
  clear b2
  go_wp2_with fail
  refine (mnum_any 4 30 _).mono ?_
  rintro e w3 ⟨g3, rfl, k3, b3⟩
  have B3 := Lib.hid (ext_trans B2.out b3)
  have k1 := Blk.ext k1 b3
  have k2 := Blk.ext k2 b3
  clear b3
  go_wp2_with fail
  refine (mtext_any 5 31 _).mono ?_
  rintro e w4 ⟨g4, rfl, k4, b4⟩
  have B4 := Lib.hid (ext_trans B3.out b4)
  have k1 := Blk.ext k1 b4
  have k2 := Blk.ext k2 b4
  have k3 := Blk.ext k3 b4
  clear b4
  go_wp2_with fail
  refine (mtext_any 6 32 _).mono ?_
  rintro e w5 ⟨g5, rfl, k5, b5⟩
  have B5 := Lib.hid (ext_trans B4.out b5)
  have k1 := Blk.ext k1 b5
  have k2 := Blk.ext k2 b5
  have k3 := Blk.ext k3 b5
  have k4 := Blk.ext k4 b5
  clear b5
  go_wp2_with fail
  refine (mtext_any 7 33 _).mono ?_
  rintro e w6 ⟨g6, rfl, k6, b6⟩
  have B6 := Lib.hid (ext_trans B5.out b6)
  have k1 := Blk.ext k1 b6
  have k2 := Blk.ext k2 b6
  have k3 := Blk.ext k3 b6
  have k4 := Blk.ext k4 b6
  have k5 := Blk.ext k5 b6
  clear b6
  go_wp2_with fail
  refine (mtext_any 8 34 _).mono ?_
  rintro e w7 ⟨g7, rfl, k7, b7⟩
  have B7 := Lib.hid (ext_trans B6.out b7)
  have k1 := Blk.ext k1 b7
  have k2 := Blk.ext k2 b7
  have k3 := Blk.ext k3 b7
  have k4 := Blk.ext k4 b7
  have k5 := Blk.ext k5 b7
  have k6 := Blk.ext k6 b7
  clear b7
  replace k1 := Lib.hid k1
  replace k2 := Lib.hid k2
  replace k3 := Lib.hid k3
  replace k4 := Lib.hid k4
  replace k5 := Lib.hid k5
  replace k6 := Lib.hid k6
  replace k7 := Lib.hid k7
  go_wp2_with fail
  go_ret
  exact ⟨_, g1, g2, g3, g4, g5, g6, g7, rfl, ⟨Blk.new w7 49 _, Blk.alloc k1.out _, Blk.alloc k2.out _, Blk.alloc k3.out _, Blk.alloc k4.out _, Blk.alloc k5.out _, Blk.alloc k6.out _, Blk.alloc k7.out _⟩, B7.out.alloc B7.out.size _⟩
end Go.Proofs.Ytoglgdkeknojkaa
