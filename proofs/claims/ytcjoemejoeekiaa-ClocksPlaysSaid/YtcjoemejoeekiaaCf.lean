/-
  LAYER 26: the clocks: none, Len; plus.
-/
import Derived.Test.YtcjoemejoeekiaaCe
namespace Go.Proofs.Ytcjoemejoeekiaa.Cl
open Go.RowKit Go.Maps Que Hp Hg
section
variable {B : Nat} {w w' : World} {c t m n : Nat} {v : Value} {L : List Tm}
theorem none_any (hc : w.cell? ⟨c, 0, none⟩ = some (.pointer (some ⟨t, 0, none⟩))) : Calls Try.prog 40 #[.pointer (some ⟨c, 0, none⟩)] w fun e w' => e = .returned (.bool false) ∧ w = w' := by
  go_enter Try.func40, Try.ntmps40
  go_wp2
  go_ret
  exact ⟨rfl, rfl⟩
theorem none_nil (w : World) : Calls Try.prog 40 #[.pointer none] w fun e w' => e = .returned (.bool true) ∧ w = w' := by
  go_enter Try.func40, Try.ntmps40
  go_wp2
  go_ret
  exact ⟨rfl, rfl⟩
theorem none_zero (hc : w.cell? ⟨c, 0, none⟩ = some (.pointer none)) : Calls Try.prog 40 #[.pointer (some ⟨c, 0, none⟩)] w fun e w' => e = .returned (.bool true) ∧ w = w' := by
  go_enter Try.func40, Try.ntmps40
  go_wp2
  go_ret
  exact ⟨rfl, rfl⟩
theorem len_any (hc : w.cell? ⟨c, 0, none⟩ = some (.pointer (some ⟨t, 0, none⟩))) (h : Ct B w t m n v L) : Calls Try.prog 24 #[.pointer (some ⟨c, 0, none⟩)] w fun e w' => e = .returned (.int .i64 (L.length : Nat)) ∧ w = w' := by
  have N := Lib.hid (none_any hc)
  have c0 := h.c0
  obtain ⟨a, k, rfl⟩ := own_slice h.its
  clear h
  go_enter Try.func24, Try.ntmps24
  go_wp2_with fail
  refine N.out.mono ?_
  rintro e w1 ⟨rfl, rfl⟩
  go_wp2
  go_ret
  exact ⟨rfl, rfl⟩
end
end Go.Proofs.Ytcjoemejoeekiaa.Cl
