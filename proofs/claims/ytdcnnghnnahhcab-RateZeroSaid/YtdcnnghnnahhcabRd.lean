/-
  RateZero: the law itself.
-/
import Derived.Test.YtdcnnghnnahhcabRc
namespace Go.Proofs.Ytdcnnghnnahhcab
open Go.RowKit

set_option maxHeartbeats 2000000 in
set_option maxRecDepth 100000 in
theorem rzero_any (k : ByteArray) (n : Int) (w : World) : Calls Try.prog 5 #[.string k, .int .i64 n] w (Yes w) := by
  go_enter Try.func5, Try.ntmps5
  go_wp2_with (first | (go_at_call 29; refine (awake35_any _).mono ?_; rintro e w' ⟨rfl, hb⟩) | go_in)
  go_ret
  exact ⟨rfl, ext_trans (by repeat (first | exact Below.refl _ _ | refine Below.drew ?_ | refine Below.alloc ?_ (by first | (simp; done) | (simp; omega)) _)) hb⟩
end Go.Proofs.Ytdcnnghnnahhcab
