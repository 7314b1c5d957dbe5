/-
  LAYER 3: the law's own: awake; are two lists of fields one?
-/
import Derived.Test.YtoglgdkeknojkaaDoorWl
namespace Go.Proofs.YtoglgdkeknojkaaDoor
open Go.RowKit

def one1 : Fd := ⟨1, 0, 300, ⟨#[]⟩⟩
theorem fds_lit (w : World) (f : Fd) : FdsAt (w.alloc (.cells f.cells.toArray 48)) (.slice (some ⟨w.heap.size, 0, none⟩) 1 1) [f] := by
  refine ⟨some ⟨w.heap.size, 0, none⟩, 1, rfl, by simp, .inr ⟨w.heap.size, 0, rfl, by simp, fun i g hi => ?_⟩⟩
  have hi0 : i = 0 := by
    have := (List.getElem?_eq_some_iff.1 hi).1
    simp at this; omega
  subst hi0
  simp at hi
  subst hi
  intro j u hj
  rw [World.cell?_alloc_at _ _ _ _ rfl]
  simpa using hj
theorem putsE1 : putsE [one1] = 0 := rfl
theorem putsL1 : putsL [one1] = [8, 172, 2] := rfl
theorem ofR1 : ofR [8, 172, 2] = ([one1], 0) := rfl
set_option maxHeartbeats 1000000 in
set_option maxRecDepth 100000 in
theorem same_eq (v1 v2 : Value) (l : List Fd) (w : World) (h1 : FdsAt w v1 l) (h2 : FdsAt w v2 l) : Calls Tryd.prog 9 #[v1, v2] w (Yes w) := by
  obtain ⟨a1, p1, rfl, hlen, hc1⟩ := h1
  obtain ⟨a2, p2, rfl, -, hc2⟩ := h2
  replace hc1 := Lib.hid hc1
  replace hc2 := Lib.hid hc2
  have hlen' : (l.length : Int) ≤ 9223372036854775807 := by omega
  go_enter Tryd.func9, Tryd.ntmps9
  go_wp2
  go_loopw [5] (fun i wr => ∃ k : Nat, i = .int .i64 k ∧ k ≤ l.length ∧ Below w.heap.size w wr) (fun i _ => l.length - (intOf i).toNat)
  case atStart => exact ⟨0, rfl, by omega, Below.refl _ _⟩
  case round =>
    obtain ⟨k, rfl, hk, hb⟩ := hrel
    replace hb := Lib.hid hb
    by_cases hend : k = l.length
    · subst hend
      go_wp2
      go_ret
      exact ⟨rfl, hb.out⟩
    obtain ⟨f, hf⟩ : ∃ f, l[k]? = some f := ⟨_, List.getElem?_eq_getElem (by omega)⟩
    obtain ⟨b1, o1, rfl, hbl1, hcell1⟩ : ∃ b o, a1 = some ⟨b, o, none⟩ ∧ b < w.heap.size ∧ w.rangeAt b (o + k * 4) f.cells := by
      rcases hc1.out with h | ⟨b, o, ha, hb, hc⟩
      · subst h; simp at hf
      · exact ⟨b, o, ha, hb, hc k f hf⟩
    obtain ⟨b2, o2, rfl, hbl2, hcell2⟩ : ∃ b o, a2 = some ⟨b, o, none⟩ ∧ b < w.heap.size ∧ w.rangeAt b (o + k * 4) f.cells := by
      rcases hc2.out with h | ⟨b, o, ha, hb, hc⟩
      · subst h; simp at hf
      · exact ⟨b, o, ha, hb, hc k f hf⟩
    obtain ⟨c0, c1, c2, c3⟩ := rangeAt4 (rangeAt_keep hcell1 hb.out hbl1)
    obtain ⟨d0, d1, d2, d3⟩ := rangeAt4 (rangeAt_keep hcell2 hb.out hbl2)
    obtain ⟨fn, fk, fv, ft⟩ := f
    simp only at c0 c1 c2 c3 d0 d1 d2 d3
    replace hf := Lib.hid hf
    have klt : (k : Int) < (l.length : Int) := by omega
    clear hcell1 hcell2
    go_wp2_with fail
    go_quiet (fail)
    go_wp2_with fail
    go_roundw
    case rel => exact ⟨k + 1, by simp, by omega, below_drewN hb.out _⟩
    case measure => simp [intOf]; omega
theorem Src.of_row {w : World} {a : Option Addr} {len cap : Nat} {zs : List Int} (h : IsRow .u8 w a len cap zs) : Src w (.slice a len cap) ((zs.take len).map Int.toNat) := by
  have hb := h.bytes
  obtain ⟨⟨a', cap', hv, ⟨h1, h2⟩, hcase⟩, hlen, _⟩ := hb
  rw [hlen] at hv h1
  simp only [Value.slice.injEq, true_and] at hv
  obtain ⟨rfl, rfl⟩ := hv
  refine ⟨a, cap, by rw [hlen], by omega, ?_, h2, ?_⟩
  · rcases h with ⟨_, _, rfl, _⟩ | ⟨x, _, _, hm, _⟩
    · omega
    · unfold maxLen at hm; omega
  · rcases hcase with h0 | ⟨b, o, ha, hb, hc⟩
    · by_cases hcap : cap = 0
      · exact .inl hcap
      · right
        rcases h with ⟨_, _, h3, _⟩ | ⟨x, rfl, hl, hm, hz, hcell, hwz⟩
        · exact absurd h3 hcap
        · obtain ⟨b, off, spot⟩ := x
          have hc0 := hcell 0 (by omega)
          have hs : spot = none := by simpa [Addr.add] using World.cell?_spot hc0
          subst hs
          refine ⟨b, off, rfl, by have := World.block_lt_of_cell? w _ hc0; simpa [Addr.add] using this, fun j hj => ?_⟩
          rw [h0] at hj
          simp at hj
    · exact .inr ⟨b, o, ha, hb, hc⟩
end Go.Proofs.YtoglgdkeknojkaaDoor
