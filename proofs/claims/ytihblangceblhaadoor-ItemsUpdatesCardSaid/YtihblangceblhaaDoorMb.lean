/-
  LAYER 31: the first item of a name, on both sides.
-/
import Derived.Test.YtihblangceblhaaDoorMa
namespace Go.Proofs.YtihblangceblhaaDoor
set_option linter.unusedVariables false
set_option linter.unusedSimpArgs false
open Go.RowKit
/-- The place of the first item of a name. -/
def plc (l : List It) (nm : ByteArray) : Option Nat := l.findIdx? fun x => decide (x.a0 = nm)
theorem plc_some {l : List It} {nm : ByteArray} {k : Nat} {x : It} (hx : l[k]? = some x) (hn : x.a0 = nm) (ha : ∀ j y, j < k → l[j]? = some y → y.a0 ≠ nm) : plc l nm = some k := by
  obtain ⟨hk, hxk⟩ := List.getElem?_eq_some_iff.1 hx
  refine List.findIdx?_eq_some_iff_getElem.2 ⟨hk, by rw [hxk]; simpa using hn, fun j hj => ?_⟩
  have := ha j _ hj (List.getElem?_eq_getElem (by omega))
  simpa using this
theorem plc_none {l : List It} {nm : ByteArray} (ha : ∀ j y, j < l.length → l[j]? = some y → y.a0 ≠ nm) : plc l nm = none := by
  refine List.findIdx?_eq_none_iff.2 fun x hx => ?_
  obtain ⟨j, hj, rfl⟩ := List.getElem_of_mem hx
  simpa using ha j _ hj (List.getElem?_eq_getElem hj)
theorem plc_spec {l : List It} {nm : ByteArray} {k : Nat} (h : plc l nm = some k) : ∃ x, l[k]? = some x ∧ x.a0 = nm ∧ ∀ j y, j < k → l[j]? = some y → y.a0 ≠ nm := by
  obtain ⟨hk, h1, h2⟩ := List.findIdx?_eq_some_iff_getElem.1 h
  refine ⟨l[k], List.getElem?_eq_getElem hk, by simpa using h1, fun j y hj hy => ?_⟩
  obtain ⟨hj', rfl⟩ := List.getElem?_eq_some_iff.1 hy
  simpa using h2 j hj
theorem plc_lt {l : List It} {nm : ByteArray} {k : Nat} (h : plc l nm = some k) : k < l.length := by
  obtain ⟨x, hx, -⟩ := plc_spec h
  exact (List.getElem?_eq_some_iff.1 hx).1
def plcI (l : List It) (nm : ByteArray) : Int := match plc l nm with | some i => (i : Int) | none => -1
def ptrOf (a : Option Addr) (l : List It) (nm : ByteArray) : Value := match plc l nm with | some i => .pointer (a.map fun p => ⟨p.block, p.off + i * 8, none⟩) | none => .pointer none
set_option maxRecDepth 100000 in
theorem place_any (v : Value) (l : List It) (nm : ByteArray) (w : World) (h : ItsAt w v l) : Calls Tryd.prog 23 #[v, .string nm] w fun e w' => e = .returned (.int .i64 (plcI l nm)) ∧ w = w' := by
  obtain ⟨a, cap, rfl, hlen, hc⟩ := h
  have hlen' : (l.length : Int) ≤ 140737488355328 := by omega
  replace hc := Lib.hid hc
  obtain ⟨R, hR⟩ : ∃ R, R = plcI l nm := ⟨_, rfl⟩
  rw [← hR]
  unfold plcI at hR
  replace hR := Lib.hid hR
  go_enter Tryd.func23, Tryd.ntmps23
  go_wp2
  go_loopw [5] (fun i wr => ∃ k : Nat, i = .int .i64 k ∧ k ≤ l.length ∧ (∀ j y, j < k → l[j]? = some y → y.a0 ≠ nm) ∧ wr = w) (fun i _ => l.length - (intOf i).toNat)
  case atStart => exact ⟨0, rfl, by omega, by omega, rfl⟩
  case round =>
    obtain ⟨k, rfl, hk, ha, rfl⟩ := hrel
    by_cases hend : k = l.length
    · subst hend
      have hp := plc_none ha
      replace ha := Lib.hid ha
      replace hp := Lib.hid hp
      go_wp2
      go_ret
      exact ⟨by rw [hR.out, hp.out]; rfl, rfl⟩
    have hkl : k < l.length := by omega
    have klt : (k : Int) < (l.length : Int) := by omega
    obtain ⟨x, hx⟩ : ∃ x, l[k]? = some x := ⟨_, List.getElem?_eq_getElem hkl⟩
    obtain ⟨b, o, rfl, hb, e0, -⟩ := itsAt_at hx (Below.refl wr.heap.size wr) hc.out
    by_cases hn : x.a0 = nm
    · have hp := plc_some hx hn ha
      subst hn
      have es := str_eq x.a0
      replace ha := Lib.hid ha
      replace hp := Lib.hid hp
      replace hx := Lib.hid hx
      go_wp2
      go_ret
      exact ⟨by rw [hR.out, hp.out]; rfl, rfl⟩
    · have es := str_ne hn
      have ha2 : ∀ j y, j < k + 1 → l[j]? = some y → y.a0 ≠ nm := by
        intro j y hj hy
        by_cases e : j = k
        · subst e
          rw [hx] at hy
          obtain rfl := Option.some.inj hy
          exact hn
        · exact ha j y (by omega) hy
      replace ha := Lib.hid ha
      replace ha2 := Lib.hid ha2
      replace hx := Lib.hid hx
      replace hn := Lib.hid hn
      go_wp2
      go_roundw
      case rel => exact ⟨k + 1, by simp, by omega, ha2.out, by trivial⟩
      case measure => simp [intOf]; omega
set_option maxRecDepth 100000 in
theorem find_any31 (a : Option Addr) (cap g : Nat) (l : List It) (nm : ByteArray) (w : World) (h : ItsAt w (.slice a l.length cap) l) (hg : w.cell? ⟨g, 0, none⟩ = some (.slice a l.length cap)) :
    Calls Tryd.prog 24 #[.string nm, .slice (some ⟨g, 0, none⟩) 1 1] w fun e w' => e = .returned (ptrOf a l nm) ∧ w = w' := by
  obtain ⟨a', cap', e, hlen, hc⟩ := h
  simp only [Value.slice.injEq, true_and] at e
  obtain ⟨rfl, rfl⟩ := e
  have hlen' : (l.length : Int) ≤ 140737488355328 := by omega
  replace hc := Lib.hid hc
  obtain ⟨R, hR⟩ : ∃ R, R = ptrOf a l nm := ⟨_, rfl⟩
  rw [← hR]
  unfold ptrOf at hR
  replace hR := Lib.hid hR
  go_enter Tryd.func24, Tryd.ntmps24
  go_wp2
  go_loopw [10] (fun i wr => ∃ k : Nat, i = .int .i64 k ∧ k ≤ 1 ∧ (k = 1 → plc l nm = none) ∧ wr = w) (fun i _ => 1 - (intOf i).toNat)
  case atStart => exact ⟨0, rfl, by omega, by omega, rfl⟩
  case round =>
    obtain ⟨q, rfl, hq, hnone, rfl⟩ := hrel
    rcases (show q = 1 ∨ q = 0 by omega) with rfl | rfl
    · have hp := Lib.hid (hnone rfl)
      clear hnone
      go_wp2
      go_ret
      exact ⟨by rw [hR.out, hp.out]; rfl, rfl⟩
    clear hnone
    go_wp2
    go_loopw [16] (fun i w2 => ∃ k : Nat, i = .int .i64 k ∧ k ≤ l.length ∧ (∀ j y, j < k → l[j]? = some y → y.a0 ≠ nm) ∧ w2 = wr) (fun i _ => l.length - (intOf i).toNat)
    case atStart => exact ⟨0, rfl, by omega, by omega, rfl⟩
    case round =>
      obtain ⟨k, rfl, hk, ha, rfl⟩ := hrel
      by_cases hend : k = l.length
      · subst hend
        have hp := plc_none ha
        replace ha := Lib.hid ha
        replace hp := Lib.hid hp
        go_wp2
        go_roundw
        case rel => exact ⟨1, by simp, by omega, fun _ => hp.out, by trivial⟩
        case measure => simp [intOf]
      have hkl : k < l.length := by omega
      have klt : (k : Int) < (l.length : Int) := by omega
      obtain ⟨x, hx⟩ : ∃ x, l[k]? = some x := ⟨_, List.getElem?_eq_getElem hkl⟩
      obtain ⟨b, o, rfl, hb, e0, -⟩ := itsAt_at hx (Below.refl wr.heap.size wr) hc.out
      by_cases hn : x.a0 = nm
      · have hp := plc_some hx hn ha
        subst hn
        have es := str_eq x.a0
        replace ha := Lib.hid ha
        replace hp := Lib.hid hp
        replace hx := Lib.hid hx
        go_wp2
        go_ret
        exact ⟨by rw [hR.out, hp.out]; rfl, rfl⟩
      · have es := str_ne hn
        have ha2 : ∀ j y, j < k + 1 → l[j]? = some y → y.a0 ≠ nm := by
          intro j y hj hy
          by_cases e : j = k
          · subst e
            rw [hx] at hy
            obtain rfl := Option.some.inj hy
            exact hn
          · exact ha j y (by omega) hy
        replace ha := Lib.hid ha
        replace ha2 := Lib.hid ha2
        replace hx := Lib.hid hx
        replace hn := Lib.hid hn
        go_wp2
        go_roundw
        case rel => exact ⟨k + 1, by simp, by omega, ha2.out, by trivial⟩
        case measure => simp [intOf]; omega
end Go.Proofs.YtihblangceblhaaDoor
