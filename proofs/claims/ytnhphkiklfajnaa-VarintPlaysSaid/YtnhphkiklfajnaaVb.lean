/-
  LAYER 1: awake, and two laws.
-/
import Derived.Test.YtnhphkiklfajnaaVa
namespace Go.Proofs.Ytnhphkiklfajnaa
open Go.RowKit

set_option maxRecDepth 100000 in
theorem awake_any (w : World) : Calls Try.prog 21 #[] w (Yes w) := by
  go_enter Try.func21, Try.ntmps21
  go_wp2_with fail
  refine (put_any 300 w (by decide)).mono ?_
  rintro e w1 ⟨v, rfl, hown, hb, hnn⟩
  rw [show putL 9 300 = [172, 2] from by decide] at hown
  obtain ⟨g, cap, hv, hg, hgs, hc, hcell⟩ := own_at hown hnn
  have c0 := hcell 0 (.int .u8 172) rfl
  have c1 := hcell 1 (.int .u8 2) rfl
  rw [hv]
  clear hcell hown hnn hv
  go_wp2_with (go_at_call 17; refine (zig_any (-1) _ (by decide) (by decide)).mono ?_; rintro e w' ⟨rfl, rfl⟩)
  go_ret
  exact ⟨by rw [show (zigF (-1) == 1) = true from by decide]; rfl, hb⟩

end Go.Proofs.Ytnhphkiklfajnaa
