/-
  LAYER 16: slices.Equal of filters and of numbers.
-/
import Derived.Test.YtmpklaokgogigaaDoorLe
namespace Go.Proofs.YtmpklaokgogigaaDoor.Pac
set_option linter.unusedVariables false
set_option linter.unusedSimpArgs false
open Go.Proofs.YtmpklaokgogigaaDoor
open Go.RowKit
/-- The answer tells whether b holds. -/
def IfP (b : Prop) (w : World) (e : Ending) (w' : World) : Prop := ∃ v : Bool, e = .returned (.bool v) ∧ (v = true ↔ b) ∧ Below w.heap.size w w'
theorem list_eq {α : Type} {l m : List α} (h : l.length = m.length) (h2 : ∀ j, j < l.length → l[j]? = m[j]?) : l = m := by
  apply List.ext_getElem? 
  intro j
  by_cases hj : j < l.length
  · exact h2 j hj
  · rw [List.getElem?_eq_none (by omega), List.getElem?_eq_none (by omega)]
theorem toList_ne {a b : ByteArray} (h : a ≠ b) : ¬ a.toList = b.toList := by
  intro e
  rw [ByteArray.toList_eq, ByteArray.toList_eq] at e
  exact h (ByteArray.ext (Array.toList_inj.1 e))
set_option maxHeartbeats 4000000 in
set_option maxRecDepth 100000 in
theorem equal_i (v1 v2 : Value) (l m : List Int) (w : World) (h1 : IntsAt w v1 l) (h2 : IntsAt w v2 m) : Calls Tryd.prog 28 #[v1, v2] w (IfP (l = m) w) := by
  obtain ⟨a1, p1, rfl, hl, hc1⟩ := h1
  obtain ⟨a2, p2, rfl, hm, hc2⟩ := h2
  replace hc1 := Lib.hid hc1
  replace hc2 := Lib.hid hc2
  have hl' : (l.length : Int) ≤ 9223372036854775807 := by omega
  have hm' : (m.length : Int) ≤ 9223372036854775807 := by omega
  by_cases hlen : l.length = m.length
  rotate_left
  · have hd : ((l.length : Int) != (m.length : Int)) = true := by simp; omega
    replace hlen := Lib.hid hlen
    go_enter Tryd.func28, Tryd.ntmps28
    go_wp2
    go_ret
    exact ⟨false, rfl, ⟨fun h => Bool.noConfusion h, fun h => absurd (congrArg List.length h) hlen.out⟩, Below.refl _ _⟩
  · have hd : ((l.length : Int) != (m.length : Int)) = false := by simp; omega
    replace hlen := Lib.hid hlen
    go_enter Tryd.func28, Tryd.ntmps28
    go_wp2
    go_loopw [13] (fun i wr => ∃ k : Nat, i = .int .i64 k ∧ k ≤ l.length ∧ (∀ j, j < k → l[j]? = m[j]?) ∧ Below w.heap.size w wr) (fun i _ => l.length - (intOf i).toNat)
    case atStart => exact ⟨0, rfl, by omega, fun j hj => absurd hj (by omega), Below.refl _ _⟩
    case round =>
      obtain ⟨k, rfl, hk, hall, hb⟩ := hrel
      replace hall := Lib.hid hall
      by_cases hend : k = l.length
      · subst hend
        replace hb := Lib.hid hb
        go_wp2
        go_ret
        exact ⟨true, rfl, ⟨fun _ => list_eq hlen.out hall.out, fun _ => rfl⟩, hb.out⟩
      have klt' : k < l.length := by omega
      have kmt' : k < m.length := by have := hlen.out; omega
      obtain ⟨b1, o1, rfl, hbl1, c1⟩ := int_at klt' hb hc1.out
      obtain ⟨b2, o2, rfl, hbl2, c2⟩ := int_at kmt' hb hc2.out
      have hx : Hid (l[k]? = some (l.getD k 0)) := Lib.hid (by simp [List.getD, List.getElem?_eq_getElem klt'])
      have hy : Hid (m[k]? = some (m.getD k 0)) := Lib.hid (by simp [List.getD, List.getElem?_eq_getElem kmt'])
      generalize l.getD k 0 = x at *
      generalize m.getD k 0 = y at *
      have klt : (k : Int) < (l.length : Int) := by omega
      have kmt : (k : Int) < (m.length : Int) := by omega
      replace hb := Lib.hid hb
      by_cases he : x = y
      · subst he
        go_wp2_with fail
        go_quiet (fail)
        go_wp2_with fail
        go_roundw
        case rel => exact ⟨k + 1, by simp, by omega, fun j hj => (Nat.lt_succ_iff_lt_or_eq.1 hj).elim (fun h => hall.out j h) (fun h => by rw [h]; exact hx.out.trans hy.out.symm), below_drewN hb.out _⟩
        case measure => simp [intOf]; omega
      · have he1 : (x == y) = false := by simpa using he
        have he2 : (x != y) = true := by simpa using he
        replace he := Lib.hid he
        go_wp2_with fail
        go_quiet (fail)
        go_wp2_with fail
        go_ret
        exact ⟨false, rfl, ⟨fun h => Bool.noConfusion h, fun e => absurd (by have := hx.out.symm.trans ((congrArg (fun z => z[k]?) e).trans hy.out); simpa using this) he.out⟩, below_drewN hb.out _⟩
set_option maxHeartbeats 4000000 in
set_option maxRecDepth 100000 in
theorem equal_f (v1 v2 : Value) (l m : List Fi) (w : World) (h1 : FisAt w v1 l) (h2 : FisAt w v2 m) : Calls Tryd.prog 27 #[v1, v2] w (IfP (l = m) w) := by
  obtain ⟨a1, p1, rfl, hl, hc1⟩ := h1
  obtain ⟨a2, p2, rfl, hm, hc2⟩ := h2
  replace hc1 := Lib.hid hc1
  replace hc2 := Lib.hid hc2
  have hl' : (l.length : Int) ≤ 9223372036854775807 := by omega
  have hm' : (m.length : Int) ≤ 9223372036854775807 := by omega
  by_cases hlen : l.length = m.length
  rotate_left
  · have hd : ((l.length : Int) != (m.length : Int)) = true := by simp; omega
    replace hlen := Lib.hid hlen
    go_enter Tryd.func27, Tryd.ntmps27
    go_wp2
    go_ret
    exact ⟨false, rfl, ⟨fun h => Bool.noConfusion h, fun h => absurd (congrArg List.length h) hlen.out⟩, Below.refl _ _⟩
  · have hd : ((l.length : Int) != (m.length : Int)) = false := by simp; omega
    replace hlen := Lib.hid hlen
    go_enter Tryd.func27, Tryd.ntmps27
    go_wp2
    go_loopw [13] (fun i wr => ∃ k : Nat, i = .int .i64 k ∧ k ≤ l.length ∧ (∀ j, j < k → l[j]? = m[j]?) ∧ Below w.heap.size w wr) (fun i _ => l.length - (intOf i).toNat)
    case atStart => exact ⟨0, rfl, by omega, fun j hj => absurd hj (by omega), Below.refl _ _⟩
    case round =>
      obtain ⟨k, rfl, hk, hall, hb⟩ := hrel
      replace hall := Lib.hid hall
      by_cases hend : k = l.length
      · subst hend
        replace hb := Lib.hid hb
        go_wp2
        go_ret
        exact ⟨true, rfl, ⟨fun _ => list_eq hlen.out hall.out, fun _ => rfl⟩, hb.out⟩
      have klt' : k < l.length := by omega
      have kmt' : k < m.length := by have := hlen.out; omega
      obtain ⟨f, hf⟩ : ∃ f, l[k]? = some f := ⟨_, List.getElem?_eq_getElem klt'⟩
      obtain ⟨g, hg⟩ : ∃ f, m[k]? = some f := ⟨_, List.getElem?_eq_getElem kmt'⟩
      obtain ⟨b1, o1, rfl, hbl1, c1, d1⟩ := fi_at hf hb hc1.out
      obtain ⟨b2, o2, rfl, hbl2, c2, d2⟩ := fi_at hg hb hc2.out
      obtain ⟨t1, q1⟩ := f
      obtain ⟨t2, q2⟩ := g
      simp only at c1 d1 c2 d2
      replace hf := Lib.hid hf
      replace hg := Lib.hid hg
      have klt : (k : Int) < (l.length : Int) := by omega
      have kmt : (k : Int) < (m.length : Int) := by omega
      replace hb := Lib.hid hb
      by_cases he : t1 = t2 ∧ q1 = q2
      · obtain ⟨rfl, rfl⟩ := he
        go_wp2_with fail
        go_quiet (fail)
        go_wp2_with fail
        go_roundw
        case rel => exact ⟨k + 1, by simp, by omega, fun j hj => (Nat.lt_succ_iff_lt_or_eq.1 hj).elim (fun h => hall.out j h) (fun h => by rw [h]; exact hf.out.trans hg.out.symm), below_drewN hb.out _⟩
        case measure => simp [intOf]; omega
      · by_cases ht : t1 = t2
        · subst ht
          have hq : ¬ q1 = q2 := fun h => he ⟨rfl, h⟩
          replace he := Lib.hid he
          go_wp2_with fail
          go_quiet (fail)
          go_wp2_with fail
          go_ret
          exact ⟨false, rfl, ⟨fun h => Bool.noConfusion h, fun e => absurd (by have := hf.out.symm.trans ((congrArg (fun z => z[k]?) e).trans hg.out); simpa using this) he.out⟩, below_drewN hb.out _⟩

        · have hq : ¬ t1.toList = t2.toList := toList_ne ht
          replace ht := Lib.hid ht
          replace he := Lib.hid he
          go_wp2_with fail
          go_quiet (fail)
          go_wp2_with fail
          go_ret
          exact ⟨false, rfl, ⟨fun h => Bool.noConfusion h, fun e => absurd (by have := hf.out.symm.trans ((congrArg (fun z => z[k]?) e).trans hg.out); simpa using this) he.out⟩, below_drewN hb.out _⟩

end Go.Proofs.YtmpklaokgogigaaDoor.Pac
