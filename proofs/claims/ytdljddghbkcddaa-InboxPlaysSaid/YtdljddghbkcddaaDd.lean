/-
  LAYER 32: are two views the same?
-/
import Derived.Test.YtdljddghbkcddaaDb
import Derived.Deep.QuietTactic
import Derived.BigQuiet
namespace Go.Proofs.Ytdljddghbkcddaa
open Go.RowKit

set_option maxHeartbeats 4000000 in
set_option maxRecDepth 100000 in
theorem same_eq (nm : ByteArray) (on : Bool) (v1 v2 : Value) (L : List It) (w : World) (h1 : ItsAt w v1 L) (h2 : ItsAt w v2 L) : Calls Try.prog 18 #[.agg #[.string nm, .bool on, v1], .agg #[.string nm, .bool on, v2]] w (Yes w) := by
  obtain ⟨a1, p1, rfl, hlen, hc1⟩ := h1
  obtain ⟨a2, p2, rfl, -, hc2⟩ := h2
  replace hc1 := Lib.hid hc1
  replace hc2 := Lib.hid hc2
  have hlen' : (L.length : Int) ≤ 9223372036854775807 := by omega
  have hnm : (nm.toList == nm.toList) = true := by simp
  have hW0 := Lib.hid (ext_two w (.cells #[.string nm, .bool on, .slice a1 L.length p1] 31) (.cells #[.string nm, .bool on, .slice a2 L.length p2] 31))
  have R1 := Lib.hid (fun wr (hb : Below ((w.alloc (.cells #[.string nm, .bool on, .slice a1 L.length p1] 31)).alloc (.cells #[.string nm, .bool on, .slice a2 L.length p2] 31)).heap.size ((w.alloc (.cells #[.string nm, .bool on, .slice a1 L.length p1] 31)).alloc (.cells #[.string nm, .bool on, .slice a2 L.length p2] 31)) wr) =>
    And.intro (show wr.cell? ⟨w.heap.size, 2, none⟩ = some (.slice a1 L.length p1) from (hb.cell (by simp <;> omega)).trans (by simp)) (show wr.cell? ⟨w.heap.size + 1, 2, none⟩ = some (.slice a2 L.length p2) from (hb.cell (by simp <;> omega)).trans (by simp)))
  go_enter Try.func18, Try.ntmps18
  go_wp2
  go_loopw [5] (fun i wr => ∃ k : Nat, i = .int .i64 k ∧ k ≤ L.length ∧ Below ((w.alloc (.cells #[.string nm, .bool on, .slice a1 L.length p1] 31)).alloc (.cells #[.string nm, .bool on, .slice a2 L.length p2] 31)).heap.size ((w.alloc (.cells #[.string nm, .bool on, .slice a1 L.length p1] 31)).alloc (.cells #[.string nm, .bool on, .slice a2 L.length p2] 31)) wr) (fun i _ => L.length - (intOf i).toNat)
  case atStart => exact ⟨0, rfl, by omega, Below.refl _ _⟩
  case round =>
    obtain ⟨k, rfl, hk, hb⟩ := hrel
    obtain ⟨x1, x2⟩ := R1.out wr hb
    have HB := Lib.hid (ext_trans hW0.out hb)
    replace hb := Lib.hid hb
    by_cases hend : k = L.length
    · subst hend
      go_wp2
      go_ret
      exact ⟨rfl, HB.out⟩
    obtain ⟨f, hf⟩ : ∃ f, L[k]? = some f := ⟨_, List.getElem?_eq_getElem (by omega)⟩
    obtain ⟨b1, o1, rfl, hbl1, c0, c1, c2, c3, c4, c5, c6, c7⟩ := itsAt_at hf HB.out hc1.out
    obtain ⟨b2, o2, rfl, hbl2, e0, e1, e2, e3, e4, e5, e6, e7⟩ := itsAt_at hf HB.out hc2.out
    have klt : (k : Int) < (L.length : Int) := by omega
    obtain ⟨f0, f1, f2, f3, f4, f5, f6, f7⟩ := f
    simp only at c0 c1 c2 c3 c4 c5 c6 c7 e0 e1 e2 e3 e4 e5 e6 e7
    replace hf := Lib.hid hf
    replace hend := Lib.hid hend
    go_wp2_with fail
    go_quiet (fail)
    go_wp2_with fail
    go_roundw
    case rel => exact ⟨k + 1, by simp, by omega, below_drewN hb.out _⟩
    case measure => simp [intOf]; omega
end Go.Proofs.Ytdljddghbkcddaa
