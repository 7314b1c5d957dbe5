/-
  LAYER 20: kinds and words: the program's.
-/
import Derived.Test.YtbmelmmefgehoaaDoorTb
import Derived.Test.YtbmelmmefgehoaaDoorSc
namespace Go.Proofs.YtbmelmmefgehoaaDoor
open Go.RowKit

def Same (v : Value) (w : World) (e : Ending) (w' : World) : Prop := e = .returned v ∧ w' = w
def isk (k : Int) : Bool := decide (0 < k) && decide (k ≤ 9)
set_option maxHeartbeats 1000000 in
theorem isk_any (k : Int) (w : World) : Calls Tryd.prog 16 #[.int .i64 k] w (Same (.bool (isk k)) w) := by
  unfold isk
  by_cases h : 0 < k
  · rw [decide_eq_true h]
    go_enter Tryd.func16, Tryd.ntmps16
    go_wp2_with fail
    go_ret
    exact ⟨rfl, rfl⟩
  · rw [decide_eq_false h]
    go_enter Tryd.func16, Tryd.ntmps16
    go_wp2_with fail
    go_ret
    exact ⟨rfl, rfl⟩
def wordI (k : Int) : ByteArray := if isk k = true then word k.toNat else ⟨#[]⟩
set_option maxHeartbeats 1000000 in
theorem word_any (k : Int) (w : World) (ht : Tabs w) : Calls Tryd.prog 11 #[.int .i64 k] w (Same (.string (wordI k)) w) := by
  have K := Lib.hid (fun w => isk_any k w)
  unfold wordI
  cases hk : isk k with
  | false =>
    rw [hk] at K
    replace hk := Lib.hid hk
    clear ht
    go_enter Tryd.func11, Tryd.ntmps11
    go_wp2_with fail
    refine (K.out _).mono ?_
    rintro e w1 ⟨rfl, rfl⟩
    go_wp2_with fail
    go_ret
    exact ⟨rfl, rfl⟩
  | true =>
    rw [hk] at K
    unfold isk at hk
    simp only [Bool.and_eq_true, decide_eq_true_eq] at hk
    obtain ⟨n, rfl⟩ : ∃ n : Nat, k = n := ⟨k.toNat, by omega⟩
    have c1 := (ht.cells n (by omega)).1
    have k1 : (0 : Int) ≤ n := by omega
    have k2 : (n : Int) < 10 := by omega
    replace hk := Lib.hid hk
    clear ht
    rw [if_pos rfl]
    show Calls Tryd.prog 11 #[.int .i64 (n : Int)] w (Same (.string (word n)) w)
    go_enter Tryd.func11, Tryd.ntmps11
    go_wp2_with fail
    refine (K.out _).mono ?_
    rintro e w1 ⟨rfl, rfl⟩
    go_wp2_with fail
    go_ret
    exact ⟨rfl, rfl⟩
end Go.Proofs.YtbmelmmefgehoaaDoor
