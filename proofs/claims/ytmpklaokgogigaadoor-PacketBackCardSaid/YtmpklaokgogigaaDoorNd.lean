/-
  LAYER 16: slices.Equal of filters and of numbers.
-/
import Derived.Test.YtmpklaokgogigaaDoorLe
import Derived.BigQuiet
namespace Go.Proofs.YtmpklaokgogigaaDoor.Pac
set_option linter.unusedVariables false
set_option linter.unusedSimpArgs false
open Go.Proofs.YtmpklaokgogigaaDoor
open Go.RowKit
/-- The answer tells whether b holds. -/
def IfP (b : Prop) (w : World) (e : Ending) (w' : World) : Prop := ∃ v : Bool, e = .returned (.bool v) ∧ (v = true ↔ b) ∧ Below w.heap.size w w'
theorem list_eq {α : Type} {l m : List α} (h : l.length = m.length) (h2 : ∀ j, j < l.length → l[j]? = m[j]?) : l = m := by
  apply List.ext_getElem? 
  intro j
  by_cases hj : j < l.length
  · exact h2 j hj
  · rw [List.getElem?_eq_none (by omega), List.getElem?_eq_none (by omega)]
theorem toList_ne {a b : ByteArray} (h : a ≠ b) : ¬ a.toList = b.toList := by
  intro e
  rw [ByteArray.toList_eq, ByteArray.toList_eq] at e
  exact h (ByteArray.ext (Array.toList_inj.1 e))
set_option maxHeartbeats 4000000 in
set_option maxRecDepth 100000 in
theorem equal_i (v1 v2 : Value) (l m : List Int) (w : World) (h1 : IntsAt w v1 l) (h2 : IntsAt w v2 m) : Calls Tryd.prog 28 #[v1, v2] w (IfP (l = m) w) := by
  obtain ⟨a1, p1, rfl, hl, hc1⟩ := h1
  obtain ⟨a2, p2, rfl, hm, hc2⟩ := h2
  replace hc1 := Lib.hid hc1
  replace hc2 := Lib.hid hc2
  have hl' : (l.length : Int) ≤ 9223372036854775807 := by omega
  have hm' : (m.length : Int) ≤ 9223372036854775807 := by omega
  by_cases hlen : l.length = m.length
  rotate_left
  · have hd : ((l.length : Int) != (m.length : Int)) = true := by simp; omega
    replace hlen := Lib.hid hlen
    go_enter Tryd.func28, Tryd.ntmps28
    go_wp2
    go_ret
    exact ⟨false, rfl, ⟨fun h => Bool.noConfusion h, fun h => absurd (congrArg List.length h) hlen.out⟩, Below.refl _ _⟩
  · have hd : ((l.length : Int) != (m.length : Int)) = false := by simp; omega
    replace hlen := Lib.hid hlen
    go_enter Tryd.func28, Tryd.ntmps28
    go_wp2
    go_loopw [13] (fun i wr => ∃ k : Nat, i = .int .i64 k ∧ k ≤ l.length ∧ (∀ j, j < k → l[j]? = m[j]?) ∧ Below w.heap.size w wr) (fun i _ => l.length - (intOf i).toNat)
    case atStart => exact ⟨0, rfl, by omega, fun j hj => absurd hj (by omega), Below.refl _ _⟩
    case round =>
      obtain ⟨k, rfl, hk, hall, hb⟩ := hrel
      replace hall := Lib.hid hall
      by_cases hend : k = l.length
      · subst hend
        replace hb := Lib.hid hb
        go_wp2
        go_ret
        exact ⟨true, rfl, ⟨fun _ => list_eq hlen.out hall.out, fun _ => rfl⟩, hb.out⟩
      have klt' : k < l.length := by omega
      have kmt' : k < m.length := by have := hlen.out; omega
      obtain ⟨b1, o1, rfl, hbl1, c1⟩ := int_at klt' hb hc1.out
      obtain ⟨b2, o2, rfl, hbl2, c2⟩ := int_at kmt' hb hc2.out
      have hx : Hid (l[k]? = some (l.getD k 0)) := Lib.hid (by simp [List.getD, List.getElem?_eq_getElem klt'])
      have hy : Hid (m[k]? = some (m.getD k 0)) := Lib.hid (by simp [List.getD, List.getElem?_eq_getElem kmt'])
      generalize l.getD k 0 = x at *
      generalize m.getD k 0 = y at *
      have klt : (k : Int) < (l.length : Int) := by omega
      have kmt : (k : Int) < (m.length : Int) := by omega
      replace hb := Lib.hid hb
      by_cases he : x = y
      · subst he
        go_wp2_with fail
        go_quiet (fail)
        go_wp2_with fail
        go_roundw
        case rel => exact ⟨k + 1, by simp, by omega, fun j hj => (Nat.lt_succ_iff_lt_or_eq.1 hj).elim (fun h => hall.out j h) (fun h => by rw [h]; exact hx.out.trans hy.out.symm), below_drewN hb.out _⟩
        case measure => simp [intOf]; omega
      · have he1 : (x == y) = false := by simpa using he
        have he2 : (x != y) = true := by simpa using he
        replace he := Lib.hid he
        go_wp2_with fail
        go_quiet (fail)
        go_wp2_with fail
        go_ret
        exact ⟨false, rfl, ⟨fun h => Bool.noConfusion h, fun e => absurd (by have := hx.out.symm.trans ((congrArg (fun z => z[k]?) e).trans hy.out); simpa using this) he.out⟩, below_drewN hb.out _⟩
set_option maxHeartbeats 4000000 in
set_option maxRecDepth 100000 in
theorem equal_f (v1 v2 : Value) (l m : List Fi) (w : World) (h1 : FisAt w v1 l) (h2 : FisAt w v2 m) : Calls Tryd.prog 27 #[v1, v2] w (IfP (l = m) w) := by
  obtain ⟨a1, p1, rfl, hl, hc1⟩ := h1
  obtain ⟨a2, p2, rfl, hm, hc2⟩ := h2
  replace hc1 := Lib.hid hc1
  replace hc2 := Lib.hid hc2
  have hl' : (l.length : Int) ≤ 9223372036854775807 := by omega
  have hm' : (m.length : Int) ≤ 9223372036854775807 := by omega
  by_cases hlen : l.length = m.length
  rotate_left
  · have hd : ((l.length : Int) != (m.length : Int)) = true := by simp; omega
    replace hlen := Lib.hid hlen
    go_enter Tryd.func27, Tryd.ntmps27
    go_wp2
    go_ret
    exact ⟨false, rfl, ⟨fun h => Bool.noConfusion h, fun h => absurd (congrArg List.length h) hlen.out⟩, Below.refl _ _⟩
  · have hd : ((l.length : Int) != (m.length : Int)) = false := by simp; omega
    replace hlen := Lib.hid hlen
    go_enter Tryd.func27, Tryd.ntmps27
    go_wp2
    go_loopw [13] (fun i wr => ∃ k : Nat, i = .int .i64 k ∧ k ≤ l.length ∧ (∀ j, j < k → l[j]? = m[j]?) ∧ Below w.heap.size w wr) (fun i _ => l.length - (intOf i).toNat)
    case atStart => exact ⟨0, rfl, by omega, fun j hj => absurd hj (by omega), Below.refl _ _⟩
    case round =>
      obtain ⟨k, rfl, hk, hall, hb⟩ := hrel
      replace hall := Lib.hid hall
      by_cases hend : k = l.length
      · subst hend
        replace hb := Lib.hid hb
        go_wp2
        go_ret
        exact ⟨true, rfl, ⟨fun _ => list_eq hlen.out hall.out, fun _ => rfl⟩, hb.out⟩
      have klt' : k < l.length := by omega
      have kmt' : k < m.length := by have := hlen.out; omega
      obtain ⟨f, hf⟩ : ∃ f, l[k]? = some f := ⟨_, List.getElem?_eq_getElem klt'⟩
      obtain ⟨g, hg⟩ : ∃ f, m[k]? = some f := ⟨_, List.getElem?_eq_getElem kmt'⟩
      obtain ⟨b1, o1, rfl, hbl1, c1, d1⟩ := fi_at hf hb hc1.out
      obtain ⟨b2, o2, rfl, hbl2, c2, d2⟩ := fi_at hg hb hc2.out
      obtain ⟨t1, q1⟩ := f
      obtain ⟨t2, q2⟩ := g
      simp only at c1 d1 c2 d2
      replace hf := Lib.hid hf
      replace hg := Lib.hid hg
      have klt : (k : Int) < (l.length : Int) := by omega
      have kmt : (k : Int) < (m.length : Int) := by omega
      replace hb := Lib.hid hb
      by_cases he : t1 = t2 ∧ q1 = q2
      · obtain ⟨rfl, rfl⟩ := he
        go_wp2_with fail
        go_quiet (fail)
        go_wp2_with fail
        go_roundw
        case rel => exact ⟨k + 1, by simp, by omega, fun j hj => (Nat.lt_succ_iff_lt_or_eq.1 hj).elim (fun h => hall.out j h) (fun h => by rw [h]; exact hf.out.trans hg.out.symm), below_drewN hb.out _⟩
        case measure => simp [intOf]; omega
      · by_cases ht : t1 = t2
        · subst ht
          have hq : ¬ q1 = q2 := fun h => he ⟨rfl, h⟩
          replace he := Lib.hid he
          go_wp2_with fail
          go_quiet (fail)
          go_wp2_with fail
          go_ret
          exact ⟨false, rfl, ⟨fun h => Bool.noConfusion h, fun e => absurd (by have := hf.out.symm.trans ((congrArg (fun z => z[k]?) e).trans hg.out); simpa using this) he.out⟩, below_drewN hb.out _⟩

        · have hq : ¬ t1.toList = t2.toList := toList_ne ht
          replace ht := Lib.hid ht
          replace he := Lib.hid he
          go_wp2_with fail
          go_quiet (fail)
          go_wp2_with fail
          go_ret
          exact ⟨false, rfl, ⟨fun h => Bool.noConfusion h, fun e => absurd (by have := hf.out.symm.trans ((congrArg (fun z => z[k]?) e).trans hg.out); simpa using this) he.out⟩, below_drewN hb.out _⟩

end Go.Proofs.YtmpklaokgogigaaDoor.Pac

/-
  LAYER 16: Same of any two packets, the program's.
-/
namespace Go.Proofs.YtmpklaokgogigaaDoor.Pac
set_option linter.unusedVariables false
set_option linter.unusedSimpArgs false
open Go.Proofs.YtmpklaokgogigaaDoor
open Go.RowKit
def mV (t x : ByteArray) (q : Int) (r : Bool) : Array Value := #[.string t, .string x, .int .i64 q, .bool r]
theorem m_ne (t x : ByteArray) (q : Int) (r : Bool) (t' x' : ByteArray) (q' : Int) (r' : Bool) (h : ¬ (t = t' ∧ x = x' ∧ q = q' ∧ r = r')) (W : World) :
    (binOp .eql 27 (.agg #[.string t, .string x, .int .i64 q, .bool r]) (.agg #[.string t', .string x', .int .i64 q', .bool r'])).run Tryd.prog W = .ok (.bool false) W ∧ (binOp .neq 27 (.agg #[.string t, .string x, .int .i64 q, .bool r]) (.agg #[.string t', .string x', .int .i64 q', .bool r'])).run Tryd.prog W = .ok (.bool true) W := by
  by_cases h1 : t = t'
  · by_cases h2 : x = x'
    · by_cases h3 : q = q'
      · have h4 : ¬ r = r' := fun h4 => h ⟨h1, h2, h3, h4⟩
        subst h1 h2 h3
        constructor <;> go_simp <;> simp [h4]
      · subst h1 h2
        constructor <;> go_simp <;> simp [h3]
    · have h2' := toList_ne h2
      subst h1
      constructor <;> go_simp <;> simp [h2']
  · have h1' := toList_ne h1
    constructor <;> go_simp <;> simp [h1']
theorem c_ne (X Y : Con.Con) (h : X ≠ Y) (W : World) : (binOp .eql 29 (.agg X.v) (.agg Y.v)).run Tryd.prog W = .ok (.bool false) W ∧ (binOp .neq 29 (.agg X.v) (.agg Y.v)).run Tryd.prog W = .ok (.bool true) W := by
  have hs : ¬ (X.lev = Y.lev ∧ X.clean = Y.clean ∧ X.keep = Y.keep ∧ X.client.toList = Y.client.toList ∧ X.hasW = Y.hasW ∧ X.topic.toList = Y.topic.toList ∧ X.text.toList = Y.text.toList ∧ X.qos = Y.qos ∧ X.ret = Y.ret ∧ X.hasU = Y.hasU ∧ X.user.toList = Y.user.toList ∧ X.hasP = Y.hasP ∧ X.pass.toList = Y.pass.toList) := by
    rintro ⟨a1, a2, a3, a4, a5, a6, a7, a8, a9, a10, a11, a12, a13⟩
    have tl : ∀ {a b : ByteArray}, a.toList = b.toList → a = b := fun {a b} e => by
      by_cases hh : a = b
      · exact hh
      · exact absurd e (toList_ne hh)
    apply h
    cases X; cases Y
    simp only at a1 a2 a3 a4 a5 a6 a7 a8 a9 a10 a11 a12 a13
    simp only [a1, a2, a3, tl a4, a5, tl a6, tl a7, a8, a9, a10, tl a11, a12, tl a13]
  have e1 : (binOp .eql 29 (.agg X.v) (.agg Y.v)).run Tryd.prog W = .ok (.bool (decide (X.lev = Y.lev ∧ X.clean = Y.clean ∧ X.keep = Y.keep ∧ X.client.toList = Y.client.toList ∧ X.hasW = Y.hasW ∧ X.topic.toList = Y.topic.toList ∧ X.text.toList = Y.text.toList ∧ X.qos = Y.qos ∧ X.ret = Y.ret ∧ X.hasU = Y.hasU ∧ X.user.toList = Y.user.toList ∧ X.hasP = Y.hasP ∧ X.pass.toList = Y.pass.toList))) W := by
    unfold Con.Con.v
    go_simp
    repeat' split
    all_goals simp_all
  have e2 : (binOp .neq 29 (.agg X.v) (.agg Y.v)).run Tryd.prog W = .ok (.bool (!decide (X.lev = Y.lev ∧ X.clean = Y.clean ∧ X.keep = Y.keep ∧ X.client.toList = Y.client.toList ∧ X.hasW = Y.hasW ∧ X.topic.toList = Y.topic.toList ∧ X.text.toList = Y.text.toList ∧ X.qos = Y.qos ∧ X.ret = Y.ret ∧ X.hasU = Y.hasU ∧ X.user.toList = Y.user.toList ∧ X.hasP = Y.hasP ∧ X.pass.toList = Y.pass.toList))) W := by
    unfold Con.Con.v
    go_simp
    repeat' split
    all_goals simp_all
  rw [e1, e2, decide_eq_false hs]
  exact ⟨rfl, rfl⟩
set_option maxHeartbeats 4000000 in
set_option maxRecDepth 100000 in
theorem same15_kind (P Q : Pk) (f1 c1 f2 c2 : Value) (w : World) (hf1 : FisAt w f1 P.fl) (hc1 : IntsAt w c1 P.cl) (hf2 : FisAt w f2 Q.fl) (hc2 : IntsAt w c2 Q.cl)  (hx : ¬ P.kind = Q.kind) : Calls Tryd.prog 15 #[.agg (P.v f1 c1), .agg (Q.v f2 c2)] w (IfP (P = Q) w) := by
  have hne : Hid (¬ P = Q) := Lib.hid (fun e => hx (by subst e; rfl))
  obtain ⟨kind, id, dup, t, x, q, r, ⟨x0, x1, x2, x3, x4, x5, x6, x7, x8, x9, x10, x11, x12⟩, pres, code, fl, cl⟩ := P
  obtain ⟨kind', id', dup', t', x', q', r', ⟨y0, y1, y2, y3, y4, y5, y6, y7, y8, y9, y10, y11, y12⟩, pres', code', fl', cl'⟩ := Q
  obtain ⟨a1, p1, rfl, hlen, h1⟩ := hf1
  obtain ⟨a2, p2, rfl, hlen2, h2⟩ := hf2
  obtain ⟨a3, p3, rfl, hlen3, h3⟩ := hc1
  obtain ⟨a4, p4, rfl, hlen4, h4⟩ := hc2
  unfold Pk.v
  simp only at *
  have g1 : (kind == kind') = false := by simpa using hx
  have g2 : (kind != kind') = true := by simpa using hx
  replace hx := Lib.hid hx
  clear h1 h2 h3 h4
  go_enter Tryd.func15, Tryd.ntmps15
  go_wp2_with fail
  go_ret
  exact ⟨false, rfl, ⟨fun h => Bool.noConfusion h, fun e => absurd e hne.out⟩, ((Below.refl _ w).alloc (Nat.le_refl _) _).alloc (by simp) _⟩
set_option maxHeartbeats 4000000 in
set_option maxRecDepth 100000 in
theorem same15_id (P Q : Pk) (f1 c1 f2 c2 : Value) (w : World) (hf1 : FisAt w f1 P.fl) (hc1 : IntsAt w c1 P.cl) (hf2 : FisAt w f2 Q.fl) (hc2 : IntsAt w c2 Q.cl) (e0 : P.kind = Q.kind) (hx : ¬ P.id = Q.id) : Calls Tryd.prog 15 #[.agg (P.v f1 c1), .agg (Q.v f2 c2)] w (IfP (P = Q) w) := by
  have hne : Hid (¬ P = Q) := Lib.hid (fun e => hx (by subst e; rfl))
  obtain ⟨kind, id, dup, t, x, q, r, ⟨x0, x1, x2, x3, x4, x5, x6, x7, x8, x9, x10, x11, x12⟩, pres, code, fl, cl⟩ := P
  obtain ⟨kind', id', dup', t', x', q', r', ⟨y0, y1, y2, y3, y4, y5, y6, y7, y8, y9, y10, y11, y12⟩, pres', code', fl', cl'⟩ := Q
  obtain ⟨a1, p1, rfl, hlen, h1⟩ := hf1
  obtain ⟨a2, p2, rfl, hlen2, h2⟩ := hf2
  obtain ⟨a3, p3, rfl, hlen3, h3⟩ := hc1
  obtain ⟨a4, p4, rfl, hlen4, h4⟩ := hc2
  unfold Pk.v
  simp only at *
  subst e0
  have g1 : (id == id') = false := by simpa using hx
  have g2 : (id != id') = true := by simpa using hx
  replace hx := Lib.hid hx
  clear h1 h2 h3 h4
  go_enter Tryd.func15, Tryd.ntmps15
  go_wp2_with fail
  go_ret
  exact ⟨false, rfl, ⟨fun h => Bool.noConfusion h, fun e => absurd e hne.out⟩, ((Below.refl _ w).alloc (Nat.le_refl _) _).alloc (by simp) _⟩
set_option maxHeartbeats 4000000 in
set_option maxRecDepth 100000 in
theorem same15_dup (P Q : Pk) (f1 c1 f2 c2 : Value) (w : World) (hf1 : FisAt w f1 P.fl) (hc1 : IntsAt w c1 P.cl) (hf2 : FisAt w f2 Q.fl) (hc2 : IntsAt w c2 Q.cl) (e0 : P.kind = Q.kind) (e1 : P.id = Q.id) (hx : ¬ P.dup = Q.dup) : Calls Tryd.prog 15 #[.agg (P.v f1 c1), .agg (Q.v f2 c2)] w (IfP (P = Q) w) := by
  have hne : Hid (¬ P = Q) := Lib.hid (fun e => hx (by subst e; rfl))
  obtain ⟨kind, id, dup, t, x, q, r, ⟨x0, x1, x2, x3, x4, x5, x6, x7, x8, x9, x10, x11, x12⟩, pres, code, fl, cl⟩ := P
  obtain ⟨kind', id', dup', t', x', q', r', ⟨y0, y1, y2, y3, y4, y5, y6, y7, y8, y9, y10, y11, y12⟩, pres', code', fl', cl'⟩ := Q
  obtain ⟨a1, p1, rfl, hlen, h1⟩ := hf1
  obtain ⟨a2, p2, rfl, hlen2, h2⟩ := hf2
  obtain ⟨a3, p3, rfl, hlen3, h3⟩ := hc1
  obtain ⟨a4, p4, rfl, hlen4, h4⟩ := hc2
  unfold Pk.v
  simp only at *
  subst e0
  subst e1
  have g1 : (dup == dup') = false := by simpa using hx
  have g2 : (dup != dup') = true := by simpa using hx
  replace hx := Lib.hid hx
  clear h1 h2 h3 h4
  go_enter Tryd.func15, Tryd.ntmps15
  go_wp2_with fail
  go_ret
  exact ⟨false, rfl, ⟨fun h => Bool.noConfusion h, fun e => absurd e hne.out⟩, ((Below.refl _ w).alloc (Nat.le_refl _) _).alloc (by simp) _⟩
set_option maxHeartbeats 4000000 in
set_option maxRecDepth 100000 in
theorem same15_M (P Q : Pk) (f1 c1 f2 c2 : Value) (w : World) (hf1 : FisAt w f1 P.fl) (hc1 : IntsAt w c1 P.cl) (hf2 : FisAt w f2 Q.fl) (hc2 : IntsAt w c2 Q.cl) (e0 : P.kind = Q.kind) (e1 : P.id = Q.id) (e2 : P.dup = Q.dup) (hx : ¬ (P.t = Q.t ∧ P.x = Q.x ∧ P.q = Q.q ∧ P.r = Q.r)) : Calls Tryd.prog 15 #[.agg (P.v f1 c1), .agg (Q.v f2 c2)] w (IfP (P = Q) w) := by
  have hne : Hid (¬ P = Q) := Lib.hid (fun e => hx (by subst e; exact ⟨rfl, rfl, rfl, rfl⟩))
  obtain ⟨kind, id, dup, t, x, q, r, ⟨x0, x1, x2, x3, x4, x5, x6, x7, x8, x9, x10, x11, x12⟩, pres, code, fl, cl⟩ := P
  obtain ⟨kind', id', dup', t', x', q', r', ⟨y0, y1, y2, y3, y4, y5, y6, y7, y8, y9, y10, y11, y12⟩, pres', code', fl', cl'⟩ := Q
  obtain ⟨a1, p1, rfl, hlen, h1⟩ := hf1
  obtain ⟨a2, p2, rfl, hlen2, h2⟩ := hf2
  obtain ⟨a3, p3, rfl, hlen3, h3⟩ := hc1
  obtain ⟨a4, p4, rfl, hlen4, h4⟩ := hc2
  unfold Pk.v
  simp only at *
  subst e0
  subst e1
  subst e2
  have g1 := fun W => (m_ne t x q r t' x' q' r' hx W).1
  have g2 := fun W => (m_ne t x q r t' x' q' r' hx W).2
  replace hx := Lib.hid hx
  clear h1 h2 h3 h4
  go_enter Tryd.func15, Tryd.ntmps15
  go_wp2_with fail
  go_ret
  exact ⟨false, rfl, ⟨fun h => Bool.noConfusion h, fun e => absurd e hne.out⟩, ((Below.refl _ w).alloc (Nat.le_refl _) _).alloc (by simp) _⟩
set_option maxHeartbeats 4000000 in
set_option maxRecDepth 100000 in
theorem same15_C (P Q : Pk) (f1 c1 f2 c2 : Value) (w : World) (hf1 : FisAt w f1 P.fl) (hc1 : IntsAt w c1 P.cl) (hf2 : FisAt w f2 Q.fl) (hc2 : IntsAt w c2 Q.cl) (e0 : P.kind = Q.kind) (e1 : P.id = Q.id) (e2 : P.dup = Q.dup) (e3 : (P.t = Q.t ∧ P.x = Q.x ∧ P.q = Q.q ∧ P.r = Q.r)) (hx : ¬ P.c = Q.c) : Calls Tryd.prog 15 #[.agg (P.v f1 c1), .agg (Q.v f2 c2)] w (IfP (P = Q) w) := by
  have hne : Hid (¬ P = Q) := Lib.hid (fun e => hx (by subst e; rfl))
  have NE := c_ne P.c Q.c hx
  obtain ⟨kind, id, dup, t, x, q, r, ⟨x0, x1, x2, x3, x4, x5, x6, x7, x8, x9, x10, x11, x12⟩, pres, code, fl, cl⟩ := P
  obtain ⟨kind', id', dup', t', x', q', r', ⟨y0, y1, y2, y3, y4, y5, y6, y7, y8, y9, y10, y11, y12⟩, pres', code', fl', cl'⟩ := Q
  obtain ⟨a1, p1, rfl, hlen, h1⟩ := hf1
  obtain ⟨a2, p2, rfl, hlen2, h2⟩ := hf2
  obtain ⟨a3, p3, rfl, hlen3, h3⟩ := hc1
  obtain ⟨a4, p4, rfl, hlen4, h4⟩ := hc2
  unfold Pk.v
  simp only at *
  subst e0
  subst e1
  subst e2
  obtain ⟨rfl, rfl, rfl, rfl⟩ := e3
  unfold Con.Con.v at NE
  simp only at NE
  have g1 := fun W => (NE W).1
  have g2 := fun W => (NE W).2
  clear NE
  replace hx := Lib.hid hx
  clear h1 h2 h3 h4
  go_enter Tryd.func15, Tryd.ntmps15
  go_wp2_with fail
  go_ret
  exact ⟨false, rfl, ⟨fun h => Bool.noConfusion h, fun e => absurd e hne.out⟩, ((Below.refl _ w).alloc (Nat.le_refl _) _).alloc (by simp) _⟩
set_option maxHeartbeats 4000000 in
set_option maxRecDepth 100000 in
theorem same15_pres (P Q : Pk) (f1 c1 f2 c2 : Value) (w : World) (hf1 : FisAt w f1 P.fl) (hc1 : IntsAt w c1 P.cl) (hf2 : FisAt w f2 Q.fl) (hc2 : IntsAt w c2 Q.cl) (e0 : P.kind = Q.kind) (e1 : P.id = Q.id) (e2 : P.dup = Q.dup) (e3 : (P.t = Q.t ∧ P.x = Q.x ∧ P.q = Q.q ∧ P.r = Q.r)) (e4 : P.c = Q.c) (hx : ¬ P.pres = Q.pres) : Calls Tryd.prog 15 #[.agg (P.v f1 c1), .agg (Q.v f2 c2)] w (IfP (P = Q) w) := by
  have hne : Hid (¬ P = Q) := Lib.hid (fun e => hx (by subst e; rfl))
  obtain ⟨kind, id, dup, t, x, q, r, ⟨x0, x1, x2, x3, x4, x5, x6, x7, x8, x9, x10, x11, x12⟩, pres, code, fl, cl⟩ := P
  obtain ⟨kind', id', dup', t', x', q', r', ⟨y0, y1, y2, y3, y4, y5, y6, y7, y8, y9, y10, y11, y12⟩, pres', code', fl', cl'⟩ := Q
  obtain ⟨a1, p1, rfl, hlen, h1⟩ := hf1
  obtain ⟨a2, p2, rfl, hlen2, h2⟩ := hf2
  obtain ⟨a3, p3, rfl, hlen3, h3⟩ := hc1
  obtain ⟨a4, p4, rfl, hlen4, h4⟩ := hc2
  unfold Pk.v
  simp only at *
  subst e0
  subst e1
  subst e2
  obtain ⟨rfl, rfl, rfl, rfl⟩ := e3
  simp only [Con.Con.mk.injEq] at e4
  obtain ⟨rfl, rfl, rfl, rfl, rfl, rfl, rfl, rfl, rfl, rfl, rfl, rfl, rfl⟩ := e4
  have g1 : (pres == pres') = false := by simpa using hx
  have g2 : (pres != pres') = true := by simpa using hx
  replace hx := Lib.hid hx
  clear h1 h2 h3 h4
  go_enter Tryd.func15, Tryd.ntmps15
  go_wp2_with fail
  go_ret
  exact ⟨false, rfl, ⟨fun h => Bool.noConfusion h, fun e => absurd e hne.out⟩, ((Below.refl _ w).alloc (Nat.le_refl _) _).alloc (by simp) _⟩
set_option maxHeartbeats 4000000 in
set_option maxRecDepth 100000 in
theorem same15_code (P Q : Pk) (f1 c1 f2 c2 : Value) (w : World) (hf1 : FisAt w f1 P.fl) (hc1 : IntsAt w c1 P.cl) (hf2 : FisAt w f2 Q.fl) (hc2 : IntsAt w c2 Q.cl) (e0 : P.kind = Q.kind) (e1 : P.id = Q.id) (e2 : P.dup = Q.dup) (e3 : (P.t = Q.t ∧ P.x = Q.x ∧ P.q = Q.q ∧ P.r = Q.r)) (e4 : P.c = Q.c) (e5 : P.pres = Q.pres) (hx : ¬ P.code = Q.code) : Calls Tryd.prog 15 #[.agg (P.v f1 c1), .agg (Q.v f2 c2)] w (IfP (P = Q) w) := by
  have hne : Hid (¬ P = Q) := Lib.hid (fun e => hx (by subst e; rfl))
  obtain ⟨kind, id, dup, t, x, q, r, ⟨x0, x1, x2, x3, x4, x5, x6, x7, x8, x9, x10, x11, x12⟩, pres, code, fl, cl⟩ := P
  obtain ⟨kind', id', dup', t', x', q', r', ⟨y0, y1, y2, y3, y4, y5, y6, y7, y8, y9, y10, y11, y12⟩, pres', code', fl', cl'⟩ := Q
  obtain ⟨a1, p1, rfl, hlen, h1⟩ := hf1
  obtain ⟨a2, p2, rfl, hlen2, h2⟩ := hf2
  obtain ⟨a3, p3, rfl, hlen3, h3⟩ := hc1
  obtain ⟨a4, p4, rfl, hlen4, h4⟩ := hc2
  unfold Pk.v
  simp only at *
  subst e0
  subst e1
  subst e2
  obtain ⟨rfl, rfl, rfl, rfl⟩ := e3
  simp only [Con.Con.mk.injEq] at e4
  obtain ⟨rfl, rfl, rfl, rfl, rfl, rfl, rfl, rfl, rfl, rfl, rfl, rfl, rfl⟩ := e4
  subst e5
  have g1 : (code == code') = false := by simpa using hx
  have g2 : (code != code') = true := by simpa using hx
  replace hx := Lib.hid hx
  clear h1 h2 h3 h4
  go_enter Tryd.func15, Tryd.ntmps15
  go_wp2_with fail
  go_ret
  exact ⟨false, rfl, ⟨fun h => Bool.noConfusion h, fun e => absurd e hne.out⟩, ((Below.refl _ w).alloc (Nat.le_refl _) _).alloc (by simp) _⟩
set_option maxHeartbeats 4000000 in
set_option maxRecDepth 100000 in
theorem same15_lists (P Q : Pk) (f1 c1 f2 c2 : Value) (w : World) (hf1 : FisAt w f1 P.fl) (hc1 : IntsAt w c1 P.cl) (hf2 : FisAt w f2 Q.fl) (hc2 : IntsAt w c2 Q.cl) (e0 : P.kind = Q.kind) (e1 : P.id = Q.id) (e2 : P.dup = Q.dup) (e3 : (P.t = Q.t ∧ P.x = Q.x ∧ P.q = Q.q ∧ P.r = Q.r)) (e4 : P.c = Q.c) (e5 : P.pres = Q.pres) (e6 : P.code = Q.code) : Calls Tryd.prog 15 #[.agg (P.v f1 c1), .agg (Q.v f2 c2)] w (IfP (P = Q) w) := by
  obtain ⟨kind, id, dup, t, x, q, r, ⟨x0, x1, x2, x3, x4, x5, x6, x7, x8, x9, x10, x11, x12⟩, pres, code, fl, cl⟩ := P
  obtain ⟨kind', id', dup', t', x', q', r', ⟨y0, y1, y2, y3, y4, y5, y6, y7, y8, y9, y10, y11, y12⟩, pres', code', fl', cl'⟩ := Q
  simp only at *
  subst e0; subst e1; subst e2
  obtain ⟨rfl, rfl, rfl, rfl⟩ := e3
  simp only [Con.Con.mk.injEq] at e4
  obtain ⟨rfl, rfl, rfl, rfl, rfl, rfl, rfl, rfl, rfl, rfl, rfl, rfl, rfl⟩ := e4
  subst e5; subst e6
  have B0 := Lib.hid (((Below.refl _ w).alloc (Nat.le_refl _) (.cells #[.int .i64 kind, .int .i64 id, .bool dup, .string t, .string x, .int .i64 q, .bool r, .int .i64 x0, .bool x1, .int .i64 x2, .string x3, .bool x4, .string x5, .string x6, .int .i64 x7, .bool x8, .bool x9, .string x10, .bool x11, .string x12, .bool pres, .int .i64 code, f1, c1] 33)).alloc (by simp) (.cells #[.int .i64 kind, .int .i64 id, .bool dup, .string t, .string x, .int .i64 q, .bool r, .int .i64 x0, .bool x1, .int .i64 x2, .string x3, .bool x4, .string x5, .string x6, .int .i64 x7, .bool x8, .bool x9, .string x10, .bool x11, .string x12, .bool pres, .int .i64 code, f2, c2] 33))
  have E1 := Lib.hid (equal_f f1 f2 fl fl' _ (hf1.keep B0.out (Nat.le_refl _)) (hf2.keep B0.out (Nat.le_refl _)))
  have E2 := Lib.hid (fun W (hW : Below w.heap.size w W) => equal_i c1 c2 cl cl' W (hc1.keep hW (Nat.le_refl _)) (hc2.keep hW (Nat.le_refl _)))
  have o1 := fis_one hf1
  obtain ⟨a1, p1, rfl, -, -⟩ := hf1
  obtain ⟨a2, p2, rfl, -, -⟩ := hf2
  obtain ⟨a3, p3, rfl, -, -⟩ := hc1
  obtain ⟨a4, p4, rfl, -, -⟩ := hc2
  clear o1
  unfold Pk.v
  simp only
  have K1 := Lib.hid ((Blk.new w 33 #[.int .i64 kind, .int .i64 id, .bool dup, .string t, .string x, .int .i64 q, .bool r, .int .i64 x0, .bool x1, .int .i64 x2, .string x3, .bool x4, .string x5, .string x6, .int .i64 x7, .bool x8, .bool x9, .string x10, .bool x11, .string x12, .bool pres, .int .i64 code, (.slice a1 fl.length p1), (.slice a3 cl.length p3)]).alloc (.cells #[.int .i64 kind, .int .i64 id, .bool dup, .string t, .string x, .int .i64 q, .bool r, .int .i64 x0, .bool x1, .int .i64 x2, .string x3, .bool x4, .string x5, .string x6, .int .i64 x7, .bool x8, .bool x9, .string x10, .bool x11, .string x12, .bool pres, .int .i64 code, (.slice a2 fl'.length p2), (.slice a4 cl'.length p4)] 33))
  have K2' := Blk.new (w.alloc (.cells #[.int .i64 kind, .int .i64 id, .bool dup, .string t, .string x, .int .i64 q, .bool r, .int .i64 x0, .bool x1, .int .i64 x2, .string x3, .bool x4, .string x5, .string x6, .int .i64 x7, .bool x8, .bool x9, .string x10, .bool x11, .string x12, .bool pres, .int .i64 code, (.slice a1 fl.length p1), (.slice a3 cl.length p3)] 33)) 33 #[.int .i64 kind, .int .i64 id, .bool dup, .string t, .string x, .int .i64 q, .bool r, .int .i64 x0, .bool x1, .int .i64 x2, .string x3, .bool x4, .string x5, .string x6, .int .i64 x7, .bool x8, .bool x9, .string x10, .bool x11, .string x12, .bool pres, .int .i64 code, (.slice a2 fl'.length p2), (.slice a4 cl'.length p4)]
  have K2 : Hid (Blk ((w.alloc (.cells #[.int .i64 kind, .int .i64 id, .bool dup, .string t, .string x, .int .i64 q, .bool r, .int .i64 x0, .bool x1, .int .i64 x2, .string x3, .bool x4, .string x5, .string x6, .int .i64 x7, .bool x8, .bool x9, .string x10, .bool x11, .string x12, .bool pres, .int .i64 code, (.slice a1 fl.length p1), (.slice a3 cl.length p3)] 33)).alloc (.cells #[.int .i64 kind, .int .i64 id, .bool dup, .string t, .string x, .int .i64 q, .bool r, .int .i64 x0, .bool x1, .int .i64 x2, .string x3, .bool x4, .string x5, .string x6, .int .i64 x7, .bool x8, .bool x9, .string x10, .bool x11, .string x12, .bool pres, .int .i64 code, (.slice a2 fl'.length p2), (.slice a4 cl'.length p4)] 33)) (w.heap.size + 1) 33 #[.int .i64 kind, .int .i64 id, .bool dup, .string t, .string x, .int .i64 q, .bool r, .int .i64 x0, .bool x1, .int .i64 x2, .string x3, .bool x4, .string x5, .string x6, .int .i64 x7, .bool x8, .bool x9, .string x10, .bool x11, .string x12, .bool pres, .int .i64 code, (.slice a2 fl'.length p2), (.slice a4 cl'.length p4)]) := Lib.hid (by simpa using K2')
  clear K2'
  go_enter Tryd.func15, Tryd.ntmps15
  go_wp2_with fail
  refine (E1.out).mono ?_
  rintro e w1 ⟨v1, rfl, hv1, b1⟩
  have q1 := (K1.out.ext b1).cell 23
  have q2 := (K2.out.ext b1).cell 23
  have B1 := Lib.hid (B0.out.trans (b1.mono B0.out.size))
  clear K1 K2 b1 E1
  cases v1 with
  | false =>
    have hv := Lib.hid hv1
    clear hv1 q1 q2
    go_wp2_with fail
    go_ret
    exact ⟨false, rfl, ⟨fun h => Bool.noConfusion h, fun e => by have := hv.out.2 (by simpa using congrArg Pk.fl e); cases this⟩, B1.out⟩
  | true =>
    have hf := Lib.hid (hv1.1 rfl)
    clear hv1
    go_wp2_with fail
    refine (E2.out _ B1.out).mono ?_
    rintro e w2 ⟨v2, rfl, hv2, b2⟩
    have B2 := Lib.hid (ext_trans B1.out b2)
    replace hv2 := Lib.hid hv2
    clear b2 q1 q2
    go_wp2_with fail
    go_ret
    refine ⟨v2, rfl, ⟨fun h => ?_, fun e => hv2.out.2 (by simpa using congrArg Pk.cl e)⟩, B2.out⟩
    rw [hf.out, hv2.out.1 h]
theorem same_p (P Q : Pk) (f1 c1 f2 c2 : Value) (w : World) (hf1 : FisAt w f1 P.fl) (hc1 : IntsAt w c1 P.cl) (hf2 : FisAt w f2 Q.fl) (hc2 : IntsAt w c2 Q.cl) : Calls Tryd.prog 15 #[.agg (P.v f1 c1), .agg (Q.v f2 c2)] w (IfP (P = Q) w) := by
  by_cases e0 : P.kind = Q.kind
  rotate_left
  · exact same15_kind P Q f1 c1 f2 c2 w hf1 hc1 hf2 hc2  e0
  by_cases e1 : P.id = Q.id
  rotate_left
  · exact same15_id P Q f1 c1 f2 c2 w hf1 hc1 hf2 hc2 e0 e1
  by_cases e2 : P.dup = Q.dup
  rotate_left
  · exact same15_dup P Q f1 c1 f2 c2 w hf1 hc1 hf2 hc2 e0 e1 e2
  by_cases e3 : (P.t = Q.t ∧ P.x = Q.x ∧ P.q = Q.q ∧ P.r = Q.r)
  rotate_left
  · exact same15_M P Q f1 c1 f2 c2 w hf1 hc1 hf2 hc2 e0 e1 e2 e3
  by_cases e4 : P.c = Q.c
  rotate_left
  · exact same15_C P Q f1 c1 f2 c2 w hf1 hc1 hf2 hc2 e0 e1 e2 e3 e4
  by_cases e5 : P.pres = Q.pres
  rotate_left
  · exact same15_pres P Q f1 c1 f2 c2 w hf1 hc1 hf2 hc2 e0 e1 e2 e3 e4 e5
  by_cases e6 : P.code = Q.code
  rotate_left
  · exact same15_code P Q f1 c1 f2 c2 w hf1 hc1 hf2 hc2 e0 e1 e2 e3 e4 e5 e6
  exact same15_lists P Q f1 c1 f2 c2 w hf1 hc1 hf2 hc2 e0 e1 e2 e3 e4 e5 e6
end Go.Proofs.YtmpklaokgogigaaDoor.Pac

/-
  LAYER 16: Same of any two packets, the document's.
-/
namespace Go.Proofs.YtmpklaokgogigaaDoor.Pac
set_option linter.unusedVariables false
set_option linter.unusedSimpArgs false
open Go.Proofs.YtmpklaokgogigaaDoor
open Go.RowKit
set_option maxHeartbeats 4000000 in
set_option maxRecDepth 100000 in
theorem same9_kind (P Q : Pk) (f1 c1 f2 c2 : Value) (w : World) (hf1 : FisAt w f1 P.fl) (hc1 : IntsAt w c1 P.cl) (hf2 : FisAt w f2 Q.fl) (hc2 : IntsAt w c2 Q.cl)  (hx : ¬ P.kind = Q.kind) : Calls Tryd.prog 9 #[.agg (P.v f1 c1), .agg (Q.v f2 c2)] w (IfP (P = Q) w) := by
  have hne : Hid (¬ P = Q) := Lib.hid (fun e => hx (by subst e; rfl))
  obtain ⟨kind, id, dup, t, x, q, r, ⟨x0, x1, x2, x3, x4, x5, x6, x7, x8, x9, x10, x11, x12⟩, pres, code, fl, cl⟩ := P
  obtain ⟨kind', id', dup', t', x', q', r', ⟨y0, y1, y2, y3, y4, y5, y6, y7, y8, y9, y10, y11, y12⟩, pres', code', fl', cl'⟩ := Q
  obtain ⟨a1, p1, rfl, hlen, h1⟩ := hf1
  obtain ⟨a2, p2, rfl, hlen2, h2⟩ := hf2
  obtain ⟨a3, p3, rfl, hlen3, h3⟩ := hc1
  obtain ⟨a4, p4, rfl, hlen4, h4⟩ := hc2
  unfold Pk.v
  simp only at *
  have g1 : (kind == kind') = false := by simpa using hx
  have g2 : (kind != kind') = true := by simpa using hx
  replace hx := Lib.hid hx
  clear h1 h2 h3 h4
  go_enter Tryd.func9, Tryd.ntmps9
  go_wp2_with fail
  go_ret
  exact ⟨false, rfl, ⟨fun h => Bool.noConfusion h, fun e => absurd e hne.out⟩, ((Below.refl _ w).alloc (Nat.le_refl _) _).alloc (by simp) _⟩
set_option maxHeartbeats 4000000 in
set_option maxRecDepth 100000 in
theorem same9_id (P Q : Pk) (f1 c1 f2 c2 : Value) (w : World) (hf1 : FisAt w f1 P.fl) (hc1 : IntsAt w c1 P.cl) (hf2 : FisAt w f2 Q.fl) (hc2 : IntsAt w c2 Q.cl) (e0 : P.kind = Q.kind) (hx : ¬ P.id = Q.id) : Calls Tryd.prog 9 #[.agg (P.v f1 c1), .agg (Q.v f2 c2)] w (IfP (P = Q) w) := by
  have hne : Hid (¬ P = Q) := Lib.hid (fun e => hx (by subst e; rfl))
  obtain ⟨kind, id, dup, t, x, q, r, ⟨x0, x1, x2, x3, x4, x5, x6, x7, x8, x9, x10, x11, x12⟩, pres, code, fl, cl⟩ := P
  obtain ⟨kind', id', dup', t', x', q', r', ⟨y0, y1, y2, y3, y4, y5, y6, y7, y8, y9, y10, y11, y12⟩, pres', code', fl', cl'⟩ := Q
  obtain ⟨a1, p1, rfl, hlen, h1⟩ := hf1
  obtain ⟨a2, p2, rfl, hlen2, h2⟩ := hf2
  obtain ⟨a3, p3, rfl, hlen3, h3⟩ := hc1
  obtain ⟨a4, p4, rfl, hlen4, h4⟩ := hc2
  unfold Pk.v
  simp only at *
  subst e0
  have g1 : (id == id') = false := by simpa using hx
  have g2 : (id != id') = true := by simpa using hx
  replace hx := Lib.hid hx
  clear h1 h2 h3 h4
  go_enter Tryd.func9, Tryd.ntmps9
  go_wp2_with fail
  go_ret
  exact ⟨false, rfl, ⟨fun h => Bool.noConfusion h, fun e => absurd e hne.out⟩, ((Below.refl _ w).alloc (Nat.le_refl _) _).alloc (by simp) _⟩
set_option maxHeartbeats 4000000 in
set_option maxRecDepth 100000 in
theorem same9_dup (P Q : Pk) (f1 c1 f2 c2 : Value) (w : World) (hf1 : FisAt w f1 P.fl) (hc1 : IntsAt w c1 P.cl) (hf2 : FisAt w f2 Q.fl) (hc2 : IntsAt w c2 Q.cl) (e0 : P.kind = Q.kind) (e1 : P.id = Q.id) (hx : ¬ P.dup = Q.dup) : Calls Tryd.prog 9 #[.agg (P.v f1 c1), .agg (Q.v f2 c2)] w (IfP (P = Q) w) := by
  have hne : Hid (¬ P = Q) := Lib.hid (fun e => hx (by subst e; rfl))
  obtain ⟨kind, id, dup, t, x, q, r, ⟨x0, x1, x2, x3, x4, x5, x6, x7, x8, x9, x10, x11, x12⟩, pres, code, fl, cl⟩ := P
  obtain ⟨kind', id', dup', t', x', q', r', ⟨y0, y1, y2, y3, y4, y5, y6, y7, y8, y9, y10, y11, y12⟩, pres', code', fl', cl'⟩ := Q
  obtain ⟨a1, p1, rfl, hlen, h1⟩ := hf1
  obtain ⟨a2, p2, rfl, hlen2, h2⟩ := hf2
  obtain ⟨a3, p3, rfl, hlen3, h3⟩ := hc1
  obtain ⟨a4, p4, rfl, hlen4, h4⟩ := hc2
  unfold Pk.v
  simp only at *
  subst e0
  subst e1
  have g1 : (dup == dup') = false := by simpa using hx
  have g2 : (dup != dup') = true := by simpa using hx
  replace hx := Lib.hid hx
  clear h1 h2 h3 h4
  go_enter Tryd.func9, Tryd.ntmps9
  go_wp2_with fail
  go_ret
  exact ⟨false, rfl, ⟨fun h => Bool.noConfusion h, fun e => absurd e hne.out⟩, ((Below.refl _ w).alloc (Nat.le_refl _) _).alloc (by simp) _⟩
set_option maxHeartbeats 4000000 in
set_option maxRecDepth 100000 in
theorem same9_M (P Q : Pk) (f1 c1 f2 c2 : Value) (w : World) (hf1 : FisAt w f1 P.fl) (hc1 : IntsAt w c1 P.cl) (hf2 : FisAt w f2 Q.fl) (hc2 : IntsAt w c2 Q.cl) (e0 : P.kind = Q.kind) (e1 : P.id = Q.id) (e2 : P.dup = Q.dup) (hx : ¬ (P.t = Q.t ∧ P.x = Q.x ∧ P.q = Q.q ∧ P.r = Q.r)) : Calls Tryd.prog 9 #[.agg (P.v f1 c1), .agg (Q.v f2 c2)] w (IfP (P = Q) w) := by
  have hne : Hid (¬ P = Q) := Lib.hid (fun e => hx (by subst e; exact ⟨rfl, rfl, rfl, rfl⟩))
  obtain ⟨kind, id, dup, t, x, q, r, ⟨x0, x1, x2, x3, x4, x5, x6, x7, x8, x9, x10, x11, x12⟩, pres, code, fl, cl⟩ := P
  obtain ⟨kind', id', dup', t', x', q', r', ⟨y0, y1, y2, y3, y4, y5, y6, y7, y8, y9, y10, y11, y12⟩, pres', code', fl', cl'⟩ := Q
  obtain ⟨a1, p1, rfl, hlen, h1⟩ := hf1
  obtain ⟨a2, p2, rfl, hlen2, h2⟩ := hf2
  obtain ⟨a3, p3, rfl, hlen3, h3⟩ := hc1
  obtain ⟨a4, p4, rfl, hlen4, h4⟩ := hc2
  unfold Pk.v
  simp only at *
  subst e0
  subst e1
  subst e2
  have g1 := fun W => (m_ne t x q r t' x' q' r' hx W).1
  have g2 := fun W => (m_ne t x q r t' x' q' r' hx W).2
  replace hx := Lib.hid hx
  clear h1 h2 h3 h4
  go_enter Tryd.func9, Tryd.ntmps9
  go_wp2_with fail
  go_ret
  exact ⟨false, rfl, ⟨fun h => Bool.noConfusion h, fun e => absurd e hne.out⟩, ((Below.refl _ w).alloc (Nat.le_refl _) _).alloc (by simp) _⟩
set_option maxHeartbeats 4000000 in
set_option maxRecDepth 100000 in
theorem same9_C (P Q : Pk) (f1 c1 f2 c2 : Value) (w : World) (hf1 : FisAt w f1 P.fl) (hc1 : IntsAt w c1 P.cl) (hf2 : FisAt w f2 Q.fl) (hc2 : IntsAt w c2 Q.cl) (e0 : P.kind = Q.kind) (e1 : P.id = Q.id) (e2 : P.dup = Q.dup) (e3 : (P.t = Q.t ∧ P.x = Q.x ∧ P.q = Q.q ∧ P.r = Q.r)) (hx : ¬ P.c = Q.c) : Calls Tryd.prog 9 #[.agg (P.v f1 c1), .agg (Q.v f2 c2)] w (IfP (P = Q) w) := by
  have hne : Hid (¬ P = Q) := Lib.hid (fun e => hx (by subst e; rfl))
  have NE := c_ne P.c Q.c hx
  obtain ⟨kind, id, dup, t, x, q, r, ⟨x0, x1, x2, x3, x4, x5, x6, x7, x8, x9, x10, x11, x12⟩, pres, code, fl, cl⟩ := P
  obtain ⟨kind', id', dup', t', x', q', r', ⟨y0, y1, y2, y3, y4, y5, y6, y7, y8, y9, y10, y11, y12⟩, pres', code', fl', cl'⟩ := Q
  obtain ⟨a1, p1, rfl, hlen, h1⟩ := hf1
  obtain ⟨a2, p2, rfl, hlen2, h2⟩ := hf2
  obtain ⟨a3, p3, rfl, hlen3, h3⟩ := hc1
  obtain ⟨a4, p4, rfl, hlen4, h4⟩ := hc2
  unfold Pk.v
  simp only at *
  subst e0
  subst e1
  subst e2
  obtain ⟨rfl, rfl, rfl, rfl⟩ := e3
  unfold Con.Con.v at NE
  simp only at NE
  have g1 := fun W => (NE W).1
  have g2 := fun W => (NE W).2
  clear NE
  replace hx := Lib.hid hx
  clear h1 h2 h3 h4
  go_enter Tryd.func9, Tryd.ntmps9
  go_wp2_with fail
  go_ret
  exact ⟨false, rfl, ⟨fun h => Bool.noConfusion h, fun e => absurd e hne.out⟩, ((Below.refl _ w).alloc (Nat.le_refl _) _).alloc (by simp) _⟩
set_option maxHeartbeats 4000000 in
set_option maxRecDepth 100000 in
theorem same9_pres (P Q : Pk) (f1 c1 f2 c2 : Value) (w : World) (hf1 : FisAt w f1 P.fl) (hc1 : IntsAt w c1 P.cl) (hf2 : FisAt w f2 Q.fl) (hc2 : IntsAt w c2 Q.cl) (e0 : P.kind = Q.kind) (e1 : P.id = Q.id) (e2 : P.dup = Q.dup) (e3 : (P.t = Q.t ∧ P.x = Q.x ∧ P.q = Q.q ∧ P.r = Q.r)) (e4 : P.c = Q.c) (hx : ¬ P.pres = Q.pres) : Calls Tryd.prog 9 #[.agg (P.v f1 c1), .agg (Q.v f2 c2)] w (IfP (P = Q) w) := by
  have hne : Hid (¬ P = Q) := Lib.hid (fun e => hx (by subst e; rfl))
  obtain ⟨kind, id, dup, t, x, q, r, ⟨x0, x1, x2, x3, x4, x5, x6, x7, x8, x9, x10, x11, x12⟩, pres, code, fl, cl⟩ := P
  obtain ⟨kind', id', dup', t', x', q', r', ⟨y0, y1, y2, y3, y4, y5, y6, y7, y8, y9, y10, y11, y12⟩, pres', code', fl', cl'⟩ := Q
  obtain ⟨a1, p1, rfl, hlen, h1⟩ := hf1
  obtain ⟨a2, p2, rfl, hlen2, h2⟩ := hf2
  obtain ⟨a3, p3, rfl, hlen3, h3⟩ := hc1
  obtain ⟨a4, p4, rfl, hlen4, h4⟩ := hc2
  unfold Pk.v
  simp only at *
  subst e0
  subst e1
  subst e2
  obtain ⟨rfl, rfl, rfl, rfl⟩ := e3
  simp only [Con.Con.mk.injEq] at e4
  obtain ⟨rfl, rfl, rfl, rfl, rfl, rfl, rfl, rfl, rfl, rfl, rfl, rfl, rfl⟩ := e4
  have g1 : (pres == pres') = false := by simpa using hx
  have g2 : (pres != pres') = true := by simpa using hx
  replace hx := Lib.hid hx
  clear h1 h2 h3 h4
  go_enter Tryd.func9, Tryd.ntmps9
  go_wp2_with fail
  go_ret
  exact ⟨false, rfl, ⟨fun h => Bool.noConfusion h, fun e => absurd e hne.out⟩, ((Below.refl _ w).alloc (Nat.le_refl _) _).alloc (by simp) _⟩
set_option maxHeartbeats 4000000 in
set_option maxRecDepth 100000 in
theorem same9_code (P Q : Pk) (f1 c1 f2 c2 : Value) (w : World) (hf1 : FisAt w f1 P.fl) (hc1 : IntsAt w c1 P.cl) (hf2 : FisAt w f2 Q.fl) (hc2 : IntsAt w c2 Q.cl) (e0 : P.kind = Q.kind) (e1 : P.id = Q.id) (e2 : P.dup = Q.dup) (e3 : (P.t = Q.t ∧ P.x = Q.x ∧ P.q = Q.q ∧ P.r = Q.r)) (e4 : P.c = Q.c) (e5 : P.pres = Q.pres) (hx : ¬ P.code = Q.code) : Calls Tryd.prog 9 #[.agg (P.v f1 c1), .agg (Q.v f2 c2)] w (IfP (P = Q) w) := by
  have hne : Hid (¬ P = Q) := Lib.hid (fun e => hx (by subst e; rfl))
  obtain ⟨kind, id, dup, t, x, q, r, ⟨x0, x1, x2, x3, x4, x5, x6, x7, x8, x9, x10, x11, x12⟩, pres, code, fl, cl⟩ := P
  obtain ⟨kind', id', dup', t', x', q', r', ⟨y0, y1, y2, y3, y4, y5, y6, y7, y8, y9, y10, y11, y12⟩, pres', code', fl', cl'⟩ := Q
  obtain ⟨a1, p1, rfl, hlen, h1⟩ := hf1
  obtain ⟨a2, p2, rfl, hlen2, h2⟩ := hf2
  obtain ⟨a3, p3, rfl, hlen3, h3⟩ := hc1
  obtain ⟨a4, p4, rfl, hlen4, h4⟩ := hc2
  unfold Pk.v
  simp only at *
  subst e0
  subst e1
  subst e2
  obtain ⟨rfl, rfl, rfl, rfl⟩ := e3
  simp only [Con.Con.mk.injEq] at e4
  obtain ⟨rfl, rfl, rfl, rfl, rfl, rfl, rfl, rfl, rfl, rfl, rfl, rfl, rfl⟩ := e4
  subst e5
  have g1 : (code == code') = false := by simpa using hx
  have g2 : (code != code') = true := by simpa using hx
  replace hx := Lib.hid hx
  clear h1 h2 h3 h4
  go_enter Tryd.func9, Tryd.ntmps9
  go_wp2_with fail
  go_ret
  exact ⟨false, rfl, ⟨fun h => Bool.noConfusion h, fun e => absurd e hne.out⟩, ((Below.refl _ w).alloc (Nat.le_refl _) _).alloc (by simp) _⟩
end Go.Proofs.YtmpklaokgogigaaDoor.Pac

/-
  LAYER 16: the document's Same of any two packets.
-/
namespace Go.Proofs.YtmpklaokgogigaaDoor.Pac
set_option linter.unusedVariables false
set_option linter.unusedSimpArgs false
open Go.Proofs.YtmpklaokgogigaaDoor
open Go.RowKit
set_option maxHeartbeats 16000000 in
set_option maxRecDepth 100000 in
theorem same9_lists (P Q : Pk) (f1 c1 f2 c2 : Value) (w : World) (hf1 : FisAt w f1 P.fl) (hc1 : IntsAt w c1 P.cl) (hf2 : FisAt w f2 Q.fl) (hc2 : IntsAt w c2 Q.cl) (e0 : P.kind = Q.kind) (e1 : P.id = Q.id) (e2 : P.dup = Q.dup) (e3 : (P.t = Q.t ∧ P.x = Q.x ∧ P.q = Q.q ∧ P.r = Q.r)) (e4 : P.c = Q.c) (e5 : P.pres = Q.pres) (e6 : P.code = Q.code) : Calls Tryd.prog 9 #[.agg (P.v f1 c1), .agg (Q.v f2 c2)] w (IfP (P = Q) w) := by
  obtain ⟨kind, id, dup, t, x, q, r, ⟨x0, x1, x2, x3, x4, x5, x6, x7, x8, x9, x10, x11, x12⟩, pres, code, fl, cl⟩ := P
  obtain ⟨kind', id', dup', t', x', q', r', ⟨y0, y1, y2, y3, y4, y5, y6, y7, y8, y9, y10, y11, y12⟩, pres', code', fl', cl'⟩ := Q
  simp only at *
  subst e0; subst e1; subst e2
  obtain ⟨rfl, rfl, rfl, rfl⟩ := e3
  simp only [Con.Con.mk.injEq] at e4
  obtain ⟨rfl, rfl, rfl, rfl, rfl, rfl, rfl, rfl, rfl, rfl, rfl, rfl, rfl⟩ := e4
  subst e5; subst e6
  obtain ⟨a1, p1, rfl, hlen, h1⟩ := hf1
  obtain ⟨a2, p2, rfl, hlen2, h2⟩ := hf2
  obtain ⟨a3, p3, rfl, hlen3, h3⟩ := hc1
  obtain ⟨a4, p4, rfl, hlen4, h4⟩ := hc2
  unfold Pk.v
  simp only at *
  have K1 := Lib.hid ((Blk.new w 33 #[.int .i64 kind, .int .i64 id, .bool dup, .string t, .string x, .int .i64 q, .bool r, .int .i64 x0, .bool x1, .int .i64 x2, .string x3, .bool x4, .string x5, .string x6, .int .i64 x7, .bool x8, .bool x9, .string x10, .bool x11, .string x12, .bool pres, .int .i64 code, .slice a1 fl.length p1, .slice a3 cl.length p3]).alloc (.cells #[.int .i64 kind, .int .i64 id, .bool dup, .string t, .string x, .int .i64 q, .bool r, .int .i64 x0, .bool x1, .int .i64 x2, .string x3, .bool x4, .string x5, .string x6, .int .i64 x7, .bool x8, .bool x9, .string x10, .bool x11, .string x12, .bool pres, .int .i64 code, (.slice a2 fl'.length p2), (.slice a4 cl'.length p4)] 33))
  have K2' := Blk.new (w.alloc (.cells #[.int .i64 kind, .int .i64 id, .bool dup, .string t, .string x, .int .i64 q, .bool r, .int .i64 x0, .bool x1, .int .i64 x2, .string x3, .bool x4, .string x5, .string x6, .int .i64 x7, .bool x8, .bool x9, .string x10, .bool x11, .string x12, .bool pres, .int .i64 code, .slice a1 fl.length p1, .slice a3 cl.length p3] 33)) 33 #[.int .i64 kind, .int .i64 id, .bool dup, .string t, .string x, .int .i64 q, .bool r, .int .i64 x0, .bool x1, .int .i64 x2, .string x3, .bool x4, .string x5, .string x6, .int .i64 x7, .bool x8, .bool x9, .string x10, .bool x11, .string x12, .bool pres, .int .i64 code, (.slice a2 fl'.length p2), (.slice a4 cl'.length p4)]
  have K2 : Hid (Blk ((w.alloc (.cells #[.int .i64 kind, .int .i64 id, .bool dup, .string t, .string x, .int .i64 q, .bool r, .int .i64 x0, .bool x1, .int .i64 x2, .string x3, .bool x4, .string x5, .string x6, .int .i64 x7, .bool x8, .bool x9, .string x10, .bool x11, .string x12, .bool pres, .int .i64 code, .slice a1 fl.length p1, .slice a3 cl.length p3] 33)).alloc (.cells #[.int .i64 kind, .int .i64 id, .bool dup, .string t, .string x, .int .i64 q, .bool r, .int .i64 x0, .bool x1, .int .i64 x2, .string x3, .bool x4, .string x5, .string x6, .int .i64 x7, .bool x8, .bool x9, .string x10, .bool x11, .string x12, .bool pres, .int .i64 code, (.slice a2 fl'.length p2), (.slice a4 cl'.length p4)] 33)) (w.heap.size + 1) 33 #[.int .i64 kind, .int .i64 id, .bool dup, .string t, .string x, .int .i64 q, .bool r, .int .i64 x0, .bool x1, .int .i64 x2, .string x3, .bool x4, .string x5, .string x6, .int .i64 x7, .bool x8, .bool x9, .string x10, .bool x11, .string x12, .bool pres, .int .i64 code, (.slice a2 fl'.length p2), (.slice a4 cl'.length p4)]) := Lib.hid (by simpa using K2')
  have B0 := Lib.hid (((Below.refl _ w).alloc (Nat.le_refl _) (.cells #[.int .i64 kind, .int .i64 id, .bool dup, .string t, .string x, .int .i64 q, .bool r, .int .i64 x0, .bool x1, .int .i64 x2, .string x3, .bool x4, .string x5, .string x6, .int .i64 x7, .bool x8, .bool x9, .string x10, .bool x11, .string x12, .bool pres, .int .i64 code, .slice a1 fl.length p1, .slice a3 cl.length p3] 33)).alloc (by simp) (.cells #[.int .i64 kind, .int .i64 id, .bool dup, .string t, .string x, .int .i64 q, .bool r, .int .i64 x0, .bool x1, .int .i64 x2, .string x3, .bool x4, .string x5, .string x6, .int .i64 x7, .bool x8, .bool x9, .string x10, .bool x11, .string x12, .bool pres, .int .i64 code, (.slice a2 fl'.length p2), (.slice a4 cl'.length p4)] 33))
  clear K2'
  replace h1 := Lib.hid h1
  replace h2 := Lib.hid h2
  replace h3 := Lib.hid h3
  replace h4 := Lib.hid h4
  have hlen' : (fl.length : Int) ≤ 9223372036854775807 := by omega
  have hlen2' : (fl'.length : Int) ≤ 9223372036854775807 := by omega
  have hlen3' : (cl.length : Int) ≤ 9223372036854775807 := by omega
  have hlen4' : (cl'.length : Int) ≤ 9223372036854775807 := by omega
  by_cases hF : fl.length = fl'.length
  rotate_left
  · have hd : ((fl.length : Int) != (fl'.length : Int)) = true := by simp; omega
    replace hF := Lib.hid hF
    clear h1 h2 h3 h4 K1 K2
    go_enter Tryd.func9, Tryd.ntmps9
    go_wp2_with fail
    go_ret
    exact ⟨false, rfl, ⟨fun h => Bool.noConfusion h, fun e => absurd (congrArg (fun z => z.fl.length) e) hF.out⟩, B0.out⟩
  by_cases hC : cl.length = cl'.length
  rotate_left
  · have hd : ((cl.length : Int) != (cl'.length : Int)) = true := by simp; omega
    have hd0 : ((fl.length : Int) != (fl'.length : Int)) = false := by simp; omega
    replace hF := Lib.hid hF
    replace hC := Lib.hid hC
    clear h1 h2 h3 h4 K1 K2
    go_enter Tryd.func9, Tryd.ntmps9
    go_wp2_with fail
    go_ret
    exact ⟨false, rfl, ⟨fun h => Bool.noConfusion h, fun e => absurd (congrArg (fun z => z.cl.length) e) hC.out⟩, B0.out⟩
  have hd1 : ((cl.length : Int) != (cl'.length : Int)) = false := by simp; omega
  have hd0 : ((fl.length : Int) != (fl'.length : Int)) = false := by simp; omega
  replace hF := Lib.hid hF
  replace hC := Lib.hid hC
  go_enter Tryd.func9, Tryd.ntmps9
  go_wp2_with fail
  go_loopw [5] (fun i wr => ∃ k : Nat, i = .int .i64 k ∧ k ≤ fl.length ∧ (∀ j, j < k → fl[j]? = fl'[j]?) ∧ Below w.heap.size w wr ∧ wr.cell? ⟨w.heap.size, 22, none⟩ = some (.slice a1 fl.length p1) ∧ wr.cell? ⟨w.heap.size + 1, 22, none⟩ = some (.slice a2 fl'.length p2) ∧ wr.cell? ⟨w.heap.size, 23, none⟩ = some (.slice a3 cl.length p3) ∧ wr.cell? ⟨w.heap.size + 1, 23, none⟩ = some (.slice a4 cl'.length p4)) (fun i _ => fl.length - (intOf i).toNat)
  case atStart => exact ⟨0, rfl, by omega, fun j hj => absurd hj (by omega), B0.out, K1.out.cell 22, K2.out.cell 22, K1.out.cell 23, K2.out.cell 23⟩
  case round =>
    obtain ⟨k, rfl, hk, hall, hb, d1, d2, d3, d4⟩ := hrel
    clear K1 K2 B0
    replace hall := Lib.hid hall
    by_cases hend : k = fl.length
    · subst hend
      have HFL := Lib.hid (list_eq hF.out hall.out)
      have HB := Lib.hid hb
      have e1 := Lib.hid d1
      have e2 := Lib.hid d2
      clear hb h1 h2 hk hall
      go_wp2
      clear d1 d2
      go_loopw [6] (fun i wr => ∃ k : Nat, i = .int .i64 k ∧ k ≤ cl.length ∧ (∀ j, j < k → cl[j]? = cl'[j]?) ∧ Below w.heap.size w wr ∧ wr.cell? ⟨w.heap.size, 22, none⟩ = some (.slice a1 fl.length p1) ∧ wr.cell? ⟨w.heap.size + 1, 22, none⟩ = some (.slice a2 fl'.length p2) ∧ wr.cell? ⟨w.heap.size, 23, none⟩ = some (.slice a3 cl.length p3) ∧ wr.cell? ⟨w.heap.size + 1, 23, none⟩ = some (.slice a4 cl'.length p4)) (fun i _ => cl.length - (intOf i).toNat)
      case atStart => exact ⟨0, rfl, by omega, fun j hj => absurd hj (by omega), HB.out, e1.out, e2.out, d3, d4⟩
      case round =>
        clear HB e1 e2 d3 d4
        obtain ⟨k, rfl, hk, hall, hb, d1, d2, d3, d4⟩ := hrel
        replace hb := Lib.hid hb
        replace hall := Lib.hid hall
        by_cases hend : k = cl.length
        · subst hend
          go_wp2
          go_ret
          exact ⟨true, rfl, ⟨fun _ => by rw [HFL.out, list_eq hC.out hall.out], fun _ => rfl⟩, hb.out⟩
        have klt' : k < cl.length := by omega
        have kmt' : k < cl'.length := by have := hC.out; omega
        obtain ⟨b1, o1, rfl, hbl1, c1⟩ := int_at klt' hb.out h3.out
        obtain ⟨b2, o2, rfl, hbl2, c2⟩ := int_at kmt' hb.out h4.out
        have hx : Hid (cl[k]? = some (cl.getD k 0)) := Lib.hid (by simp [List.getD, List.getElem?_eq_getElem klt'])
        have hy : Hid (cl'[k]? = some (cl'.getD k 0)) := Lib.hid (by simp [List.getD, List.getElem?_eq_getElem kmt'])
        have klt : (k : Int) < (cl.length : Int) := by omega
        have kmt : (k : Int) < (cl'.length : Int) := by omega
        have DD := Lib.hid (And.intro d1 (And.intro d2 (And.intro d3 d4)))
        generalize cl.getD k 0 = y at *
        generalize cl'.getD k 0 = z at *
        by_cases he : y = z
        · subst he
          go_wp2_with fail
          go_quiet (fail)
          go_wp2_with fail
          go_roundw
          case rel => exact ⟨k + 1, by simp, by omega, fun j hj => (Nat.lt_succ_iff_lt_or_eq.1 hj).elim (fun h => hall.out j h) (fun h => by rw [h]; exact hx.out.trans hy.out.symm), below_drewN hb.out _, DD.out.1, DD.out.2.1, DD.out.2.2.1, DD.out.2.2.2⟩
          case measure => simp [intOf]; omega
        · have he1 : (y == z) = false := by simpa using he
          have he2 : (y != z) = true := by simpa using he
          replace he := Lib.hid he
          go_wp2_with fail
          go_quiet (fail)
          go_wp2_with fail
          go_ret
          exact ⟨false, rfl, ⟨fun h => Bool.noConfusion h, fun e => absurd (by have := hx.out.symm.trans ((congrArg (fun z => (Pk.cl z)[k]?) e).trans hy.out); simpa using this) he.out⟩, below_drewN hb.out _⟩
    obtain ⟨f, hf⟩ : ∃ f, fl[k]? = some f := ⟨_, List.getElem?_eq_getElem (by omega)⟩
    obtain ⟨g, hg⟩ : ∃ f, fl'[k]? = some f := ⟨_, List.getElem?_eq_getElem (by have := hF.out; omega)⟩
    obtain ⟨b1, o1, rfl, hbl1, c1, g1⟩ := fi_at hf hb h1.out
    obtain ⟨b2, o2, rfl, hbl2, c2, g2⟩ := fi_at hg hb h2.out
    have klt : (k : Int) < (fl.length : Int) := by omega
    have kmt : (k : Int) < (fl'.length : Int) := by have := hF.out; omega
    obtain ⟨ta, qa⟩ := f
    obtain ⟨tb, qb⟩ := g
    simp only at c1 g1 c2 g2
    replace hb := Lib.hid hb
    replace hf := Lib.hid hf
    replace hg := Lib.hid hg
    have DD := Lib.hid (And.intro d1 (And.intro d2 (And.intro d3 d4)))
    by_cases he : ta = tb ∧ qa = qb
    · obtain ⟨rfl, rfl⟩ := he
      go_wp2_with fail
      go_quiet (fail)
      go_wp2_with fail
      go_roundw
      case rel => exact ⟨k + 1, by simp, by omega, fun j hj => (Nat.lt_succ_iff_lt_or_eq.1 hj).elim (fun h => hall.out j h) (fun h => by rw [h]; exact hf.out.trans hg.out.symm), below_drewN hb.out _, DD.out.1, DD.out.2.1, DD.out.2.2.1, DD.out.2.2.2⟩
      case measure => simp [intOf]; omega
    · by_cases ht : ta = tb
      · subst ht
        have hq : ¬ qa = qb := fun h => he ⟨rfl, h⟩
        replace he := Lib.hid he
        go_wp2_with fail
        go_quiet (fail)
        go_wp2_with fail
        go_ret
        exact ⟨false, rfl, ⟨fun h => Bool.noConfusion h, fun e => absurd (by have := hf.out.symm.trans ((congrArg (fun z => (Pk.fl z)[k]?) e).trans hg.out); simpa using this) he.out⟩, below_drewN hb.out _⟩
      · have hq : ¬ ta.toList = tb.toList := toList_ne ht
        replace ht := Lib.hid ht
        replace he := Lib.hid he
        go_wp2_with fail
        go_quiet (fail)
        go_wp2_with fail
        go_ret
        exact ⟨false, rfl, ⟨fun h => Bool.noConfusion h, fun e => absurd (by have := hf.out.symm.trans ((congrArg (fun z => (Pk.fl z)[k]?) e).trans hg.out); simpa using this) he.out⟩, below_drewN hb.out _⟩
theorem same_d (P Q : Pk) (f1 c1 f2 c2 : Value) (w : World) (hf1 : FisAt w f1 P.fl) (hc1 : IntsAt w c1 P.cl) (hf2 : FisAt w f2 Q.fl) (hc2 : IntsAt w c2 Q.cl) : Calls Tryd.prog 9 #[.agg (P.v f1 c1), .agg (Q.v f2 c2)] w (IfP (P = Q) w) := by
  by_cases e0 : P.kind = Q.kind
  rotate_left
  · exact same9_kind P Q f1 c1 f2 c2 w hf1 hc1 hf2 hc2  e0
  by_cases e1 : P.id = Q.id
  rotate_left
  · exact same9_id P Q f1 c1 f2 c2 w hf1 hc1 hf2 hc2 e0 e1
  by_cases e2 : P.dup = Q.dup
  rotate_left
  · exact same9_dup P Q f1 c1 f2 c2 w hf1 hc1 hf2 hc2 e0 e1 e2
  by_cases e3 : (P.t = Q.t ∧ P.x = Q.x ∧ P.q = Q.q ∧ P.r = Q.r)
  rotate_left
  · exact same9_M P Q f1 c1 f2 c2 w hf1 hc1 hf2 hc2 e0 e1 e2 e3
  by_cases e4 : P.c = Q.c
  rotate_left
  · exact same9_C P Q f1 c1 f2 c2 w hf1 hc1 hf2 hc2 e0 e1 e2 e3 e4
  by_cases e5 : P.pres = Q.pres
  rotate_left
  · exact same9_pres P Q f1 c1 f2 c2 w hf1 hc1 hf2 hc2 e0 e1 e2 e3 e4 e5
  by_cases e6 : P.code = Q.code
  rotate_left
  · exact same9_code P Q f1 c1 f2 c2 w hf1 hc1 hf2 hc2 e0 e1 e2 e3 e4 e5 e6
  exact same9_lists P Q f1 c1 f2 c2 w hf1 hc1 hf2 hc2 e0 e1 e2 e3 e4 e5 e6
end Go.Proofs.YtmpklaokgogigaaDoor.Pac
