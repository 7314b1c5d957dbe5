/-
  LAYER 15: the law's own: are two lists of filters one?
-/
import Derived.Test.YtkohlbafpljfjaaSp
import Derived.Test.YtkohlbafpljfjaaSe
namespace Go.Proofs.Ytkohlbafpljfjaa
open Go.RowKit

set_option maxHeartbeats 1000000 in
set_option maxRecDepth 100000 in
theorem fis_eq (v1 v2 : Value) (l : List Fi) (w : World) (h1 : FisAt w v1 l) (h2 : FisAt w v2 l) : Calls Try.prog 14 #[v1, v2] w (Yes w) := by
  obtain ⟨a1, p1, rfl, hlen, hc1⟩ := h1
  obtain ⟨a2, p2, rfl, -, hc2⟩ := h2
  replace hc1 := Lib.hid hc1
  replace hc2 := Lib.hid hc2
  have hlen' : (l.length : Int) ≤ 9223372036854775807 := by omega
  go_enter Try.func14, Try.ntmps14
  go_wp2
  go_loopw [5] (fun i wr => ∃ k : Nat, i = .int .i64 k ∧ k ≤ l.length ∧ Below w.heap.size w wr) (fun i _ => l.length - (intOf i).toNat)
  case atStart => exact ⟨0, rfl, by omega, Below.refl _ _⟩
  case round =>
    obtain ⟨k, rfl, hk, hb⟩ := hrel
    by_cases hend : k = l.length
    · subst hend
      replace hb := Lib.hid hb
      go_wp2
      go_ret
      exact ⟨rfl, hb.out⟩
    obtain ⟨f, hf⟩ : ∃ f, l[k]? = some f := ⟨_, List.getElem?_eq_getElem (by omega)⟩
    obtain ⟨b1, o1, rfl, hbl1, c1, d1⟩ := fi_at hf hb hc1.out
    obtain ⟨b2, o2, rfl, hbl2, c2, d2⟩ := fi_at hf hb hc2.out
    have klt : (k : Int) < (l.length : Int) := by omega
    obtain ⟨t, q⟩ := f
    simp only at c1 d1 c2 d2
    replace hb := Lib.hid hb
    replace hf := Lib.hid hf
    go_wp2_with fail
    go_quiet (fail)
    go_wp2_with fail
    go_roundw
    case rel => exact ⟨k + 1, by simp, by omega, below_drewN hb.out _⟩
    case measure => simp [intOf]; omega
end Go.Proofs.Ytkohlbafpljfjaa
