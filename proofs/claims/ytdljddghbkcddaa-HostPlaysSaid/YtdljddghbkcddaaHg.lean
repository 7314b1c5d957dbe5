/-
  LAYER 34: hosts compared by their names.
-/
import Derived.Test.YtdljddghbkcddaaHf
import Derived.Test.YtdljddghbkcddaaShelf
namespace Go.Proofs.Ytdljddghbkcddaa.Hst
open Go.RowKit Go.Maps Go.WideMaps Go.Sort Go.Lib
def cmpS (a b : ByteArray) : Int := if Op.bytesLess a.toList b.toList then -1 else if a.toList == b.toList then 0 else 1
def cmpH (x y : Host) : Int := cmpS x.1 y.1
def encH (x : Host) : List Value := [.string x.1, .bool x.2]
theorem nan49 (a : ByteArray) (W : World) : Calls Try.prog 49 #[.string a] W fun e w' => e = .returned (.bool false) ∧ W = w' := by
  go_enter Try.func49, Try.ntmps49
  go_wp2
  go_ret
  exact ⟨rfl, rfl⟩
set_option maxRecDepth 100000 in
theorem cmp42 (a b : ByteArray) (W : World) : Calls Try.prog 42 #[.string a, .string b] W fun e w' => e = .returned (.int .i64 (cmpS a b)) ∧ W = w' := by
  have N1 := Lib.hid (nan49 a W)
  have N2 := Lib.hid (nan49 b W)
  unfold cmpS
  cases h1 : Op.bytesLess a.toList b.toList
  · cases h2 : (a.toList == b.toList)
    all_goals
      go_enter Try.func42, Try.ntmps42
      go_wp2_with fail
      refine N1.out.mono ?_
      rintro e w1 ⟨rfl, rfl⟩
      go_wp2_with fail
      refine N2.out.mono ?_
      rintro e w1 ⟨rfl, rfl⟩
      go_wp2
      go_ret
      exact ⟨rfl, rfl⟩
  · go_enter Try.func42, Try.ntmps42
    go_wp2_with fail
    refine N1.out.mono ?_
    rintro e w1 ⟨rfl, rfl⟩
    go_wp2_with fail
    refine N2.out.mono ?_
    rintro e w1 ⟨rfl, rfl⟩
    go_wp2
    go_ret
    exact ⟨rfl, rfl⟩
set_option maxRecDepth 100000 in
theorem closure41 (x y : Host) (W : World) : Calls Try.prog 41 #[.agg #[.string x.1, .bool x.2], .agg #[.string y.1, .bool y.2]] W fun e w' => e = .returned (.int .i64 (cmpH x y)) ∧ ∃ q os', w' = grow (W.drewN q) os' := by
  have C := Lib.hid (fun W' => cmp42 x.1 y.1 W')
  unfold cmpH
  generalize cmpS x.1 y.1 = r at *
  go_enter Try.func41, Try.ntmps41
  go_wp2_with fail
  refine (C.out _).mono ?_
  rintro e w1 ⟨rfl, rfl⟩
  go_wp2
  go_ret
  exact ⟨rfl, 0, _, by rw [alloc_eq_grow, alloc_eq_grow, grow_grow]; rfl⟩
theorem cmpLays41 (blk off size : Nat) (w : World) : CmpLays Try.prog 41 #[] encH 2 cmpH blk off size w := fun _ _ _ _ x y => closure41 x y _
theorem hlen12 (n : Nat) (W : World) (h : n ≤ 12) : Calls Try.prog 48 #[.int .u64 n] W fun e w' => (∃ l : Int, e = .returned (.int .i64 l)) ∧ w' = W :=
  (Any.bits_Len Try.bitsLen2 n W (by omega) (by omega)).mono fun _ _ ⟨he, hw⟩ => ⟨⟨_, he⟩, hw⟩
theorem isAgg63 (w : World) : (isAgg 63).run Try.prog w = .ok true w := by kernel_rfl
theorem sizeOf63 (w : World) : (Go.sizeOf 63).run Try.prog w = .ok 2 w := by kernel_rfl
theorem lt_list (a b : ByteArray) : Op.bytesLess a.toList b.toList = decide (a.toList < b.toList) := Go.Proofs.bytesLess_eq _ _
theorem ltH (x y : Host) : ltOf cmpH x y = decide (x.1.toList < y.1.toList) := by
  unfold ltOf cmpH cmpS
  rw [lt_list]
  by_cases h : x.1.toList < y.1.toList
  · simp [h]
  · simp only [h, decide_false]
    rw [if_neg (by simp)]
    split <;> simp
theorem swoH : SWO (ltOf cmpH) where
  irrefl x := by rw [ltH]; simp [List.lt_irrefl]
  trans x y z h1 h2 := by
    rw [ltH, decide_eq_true_eq] at *
    exact List.lt_trans h1 h2
  ntrans x y z h1 h2 := by
    rw [ltH, decide_eq_false_iff_not, List.not_lt] at *
    exact List.le_trans h2 h1
end Go.Proofs.Ytdljddghbkcddaa.Hst
