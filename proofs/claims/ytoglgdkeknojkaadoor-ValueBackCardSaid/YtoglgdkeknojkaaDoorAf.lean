/-
  LAYER 5: the law's own: awake.
-/
import Derived.Test.YtoglgdkeknojkaaDoorAe
import Derived.Test.YtoglgdkeknojkaaDoorWm
import Derived.Deep.RegionHeld3
namespace Go.Proofs.YtoglgdkeknojkaaDoor
open Go.RowKit

def one5 : Va := ⟨5, 1, ⟨#[]⟩⟩
set_option maxHeartbeats 1000000 in
set_option maxRecDepth 100000 in
theorem vawake_any (w : World) (ht : Tabs w) : Calls Tryd.prog 14 #[] w (Yes w) := by
  have P := Lib.hid (vput_any 7 (.inl rfl) one5 10 true w ht (by decide))
  rw [show putVE one5 10 true = 0 by decide, show putVL one5 10 true = [⟨14, 0, 1, ⟨#[]⟩⟩] by rfl] at P
  replace ht := Lib.hid ht
  go_enter Tryd.func14, Tryd.ntmps14
  go_wp2_with fail
  refine (P.out).mono ?_
  rintro e w1 ⟨a, n, c, rfl, h, hb⟩
  obtain ⟨a1, c1, hv, -, hc⟩ := h
  simp only [Value.slice.injEq] at hv
  obtain ⟨rfl, rfl, rfl⟩ := hv
  rcases hc with hc | ⟨b, o, rfl, hbl, hcell⟩
  · cases hc
  obtain ⟨q0, q1, q2, q3⟩ := rangeAt4 (hcell 0 _ rfl)
  simp only [Nat.zero_mul, Nat.add_zero] at q0 q1 q2 q3
  clear hcell
  replace hb := Lib.hid hb
  go_wp2_with fail
  go_ret
  exact ⟨rfl, hb.out⟩
end Go.Proofs.YtoglgdkeknojkaaDoor
