/-
  LAYER 26: Next, plus.
-/
import Derived.Test.YtcjoemejoeekiaaCf
namespace Go.Proofs.Ytcjoemejoeekiaa.Cl
open Go.RowKit Go.Maps Que Hp Hg
section
variable {B : Nat} {w w' : World} {c t m n : Nat} {v : Value} {L : List Tm}
theorem next_none (hc : w.cell? ⟨c, 0, none⟩ = some (.pointer (some ⟨t, 0, none⟩))) (h : Ct B w t m n v []) : Calls Try.prog 21 #[.pointer (some ⟨c, 0, none⟩)] w fun e w' => e = .returned (.tuple #[.int .i64 0, .bool false]) ∧ w = w' := by
  have N : Hid (Calls Try.prog 24 #[.pointer (some ⟨c, 0, none⟩)] w fun e w' => e = .returned (.int .i64 0) ∧ w = w') := Lib.hid (len_any hc h)
  clear h
  go_enter Try.func21, Try.ntmps21
  go_wp2_with fail
  refine N.out.mono ?_
  rintro e w1 ⟨rfl, rfl⟩
  go_wp2
  go_ret2
  exact ⟨rfl, rfl⟩
theorem next_any (hc : w.cell? ⟨c, 0, none⟩ = some (.pointer (some ⟨t, 0, none⟩))) (h : Ct B w t m n v L) {x : Tm} (hx : L[0]? = some x) : Calls Try.prog 21 #[.pointer (some ⟨c, 0, none⟩)] w fun e w' => e = .returned (.tuple #[.int .i64 x.d, .bool true]) ∧ w = w' := by
  have N := Lib.hid (len_any hc h)
  have hl := (List.getElem?_eq_some_iff.1 hx).1
  have c0 := h.c0
  obtain ⟨gb, cb, hv⟩ := own_slice' h.its hl
  have z0 := (h.at hv hx).1
  rw [Nat.zero_mul] at z0
  subst hv
  have hl0 : (0 : Int) < (L.length : Int) := by omega
  have hl1 : ((L.length : Int) == 0) = false := by rw [beq_eq_false_iff_ne]; omega
  clear h hx
  go_enter Try.func21, Try.ntmps21
  go_wp2_with fail
  refine N.out.mono ?_
  rintro e w1 ⟨rfl, rfl⟩
  go_wp2
  go_ret2
  exact ⟨rfl, rfl⟩
theorem plus_any (a b : Int) (w : World) (ha : 0 ≤ a) (hb : 0 ≤ b) (ha1 : a ≤ 9223372036854775807) (hb1 : b ≤ 9223372036854775807) : Calls Try.prog 46 #[.int .i64 a, .int .i64 b] w fun e w' => e = .returned (.int .i64 (min (a + b) 9223372036854775807)) ∧ w = w' := by
  by_cases h : 9223372036854775807 - b < a
  · rw [show min (a + b) 9223372036854775807 = 9223372036854775807 by omega]
    go_enter Try.func46, Try.ntmps46
    go_wp2
    go_ret
    exact ⟨rfl, rfl⟩
  · rw [show min (a + b) 9223372036854775807 = a + b by omega]
    go_enter Try.func46, Try.ntmps46
    go_wp2
    go_ret
    exact ⟨rfl, rfl⟩
end
end Go.Proofs.Ytcjoemejoeekiaa.Cl
