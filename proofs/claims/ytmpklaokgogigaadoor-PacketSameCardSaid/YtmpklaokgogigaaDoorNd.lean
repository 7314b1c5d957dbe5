/-
  LAYER 16: the document's Same of any two packets.
-/
import Derived.Test.YtmpklaokgogigaaDoorNc
import Derived.BigQuiet
namespace Go.Proofs.YtmpklaokgogigaaDoor.Pac
set_option linter.unusedVariables false
set_option linter.unusedSimpArgs false
open Go.Proofs.YtmpklaokgogigaaDoor
open Go.RowKit
set_option maxHeartbeats 16000000 in
set_option maxRecDepth 100000 in
theorem same9_lists (P Q : Pk) (f1 c1 f2 c2 : Value) (w : World) (hf1 : FisAt w f1 P.fl) (hc1 : IntsAt w c1 P.cl) (hf2 : FisAt w f2 Q.fl) (hc2 : IntsAt w c2 Q.cl) (e0 : P.kind = Q.kind) (e1 : P.id = Q.id) (e2 : P.dup = Q.dup) (e3 : (P.t = Q.t ∧ P.x = Q.x ∧ P.q = Q.q ∧ P.r = Q.r)) (e4 : P.c = Q.c) (e5 : P.pres = Q.pres) (e6 : P.code = Q.code) : Calls Tryd.prog 9 #[.agg (P.v f1 c1), .agg (Q.v f2 c2)] w (IfP (P = Q) w) := by
  obtain ⟨kind, id, dup, t, x, q, r, ⟨x0, x1, x2, x3, x4, x5, x6, x7, x8, x9, x10, x11, x12⟩, pres, code, fl, cl⟩ := P
  obtain ⟨kind', id', dup', t', x', q', r', ⟨y0, y1, y2, y3, y4, y5, y6, y7, y8, y9, y10, y11, y12⟩, pres', code', fl', cl'⟩ := Q
  simp only at *
  subst e0; subst e1; subst e2
  obtain ⟨rfl, rfl, rfl, rfl⟩ := e3
  simp only [Con.Con.mk.injEq] at e4
  obtain ⟨rfl, rfl, rfl, rfl, rfl, rfl, rfl, rfl, rfl, rfl, rfl, rfl, rfl⟩ := e4
  subst e5; subst e6
  obtain ⟨a1, p1, rfl, hlen, h1⟩ := hf1
  obtain ⟨a2, p2, rfl, hlen2, h2⟩ := hf2
  obtain ⟨a3, p3, rfl, hlen3, h3⟩ := hc1
  obtain ⟨a4, p4, rfl, hlen4, h4⟩ := hc2
  unfold Pk.v
  simp only at *
  have K1 := Lib.hid ((Blk.new w 33 #[.int .i64 kind, .int .i64 id, .bool dup, .string t, .string x, .int .i64 q, .bool r, .int .i64 x0, .bool x1, .int .i64 x2, .string x3, .bool x4, .string x5, .string x6, .int .i64 x7, .bool x8, .bool x9, .string x10, .bool x11, .string x12, .bool pres, .int .i64 code, .slice a1 fl.length p1, .slice a3 cl.length p3]).alloc (.cells #[.int .i64 kind, .int .i64 id, .bool dup, .string t, .string x, .int .i64 q, .bool r, .int .i64 x0, .bool x1, .int .i64 x2, .string x3, .bool x4, .string x5, .string x6, .int .i64 x7, .bool x8, .bool x9, .string x10, .bool x11, .string x12, .bool pres, .int .i64 code, (.slice a2 fl'.length p2), (.slice a4 cl'.length p4)] 33))
  have K2' := Blk.new (w.alloc (.cells #[.int .i64 kind, .int .i64 id, .bool dup, .string t, .string x, .int .i64 q, .bool r, .int .i64 x0, .bool x1, .int .i64 x2, .string x3, .bool x4, .string x5, .string x6, .int .i64 x7, .bool x8, .bool x9, .string x10, .bool x11, .string x12, .bool pres, .int .i64 code, .slice a1 fl.length p1, .slice a3 cl.length p3] 33)) 33 #[.int .i64 kind, .int .i64 id, .bool dup, .string t, .string x, .int .i64 q, .bool r, .int .i64 x0, .bool x1, .int .i64 x2, .string x3, .bool x4, .string x5, .string x6, .int .i64 x7, .bool x8, .bool x9, .string x10, .bool x11, .string x12, .bool pres, .int .i64 code, (.slice a2 fl'.length p2), (.slice a4 cl'.length p4)]
  have K2 : Hid (Blk ((w.alloc (.cells #[.int .i64 kind, .int .i64 id, .bool dup, .string t, .string x, .int .i64 q, .bool r, .int .i64 x0, .bool x1, .int .i64 x2, .string x3, .bool x4, .string x5, .string x6, .int .i64 x7, .bool x8, .bool x9, .string x10, .bool x11, .string x12, .bool pres, .int .i64 code, .slice a1 fl.length p1, .slice a3 cl.length p3] 33)).alloc (.cells #[.int .i64 kind, .int .i64 id, .bool dup, .string t, .string x, .int .i64 q, .bool r, .int .i64 x0, .bool x1, .int .i64 x2, .string x3, .bool x4, .string x5, .string x6, .int .i64 x7, .bool x8, .bool x9, .string x10, .bool x11, .string x12, .bool pres, .int .i64 code, (.slice a2 fl'.length p2), (.slice a4 cl'.length p4)] 33)) (w.heap.size + 1) 33 #[.int .i64 kind, .int .i64 id, .bool dup, .string t, .string x, .int .i64 q, .bool r, .int .i64 x0, .bool x1, .int .i64 x2, .string x3, .bool x4, .string x5, .string x6, .int .i64 x7, .bool x8, .bool x9, .string x10, .bool x11, .string x12, .bool pres, .int .i64 code, (.slice a2 fl'.length p2), (.slice a4 cl'.length p4)]) := Lib.hid (by simpa using K2')
  have B0 := Lib.hid (((Below.refl _ w).alloc (Nat.le_refl _) (.cells #[.int .i64 kind, .int .i64 id, .bool dup, .string t, .string x, .int .i64 q, .bool r, .int .i64 x0, .bool x1, .int .i64 x2, .string x3, .bool x4, .string x5, .string x6, .int .i64 x7, .bool x8, .bool x9, .string x10, .bool x11, .string x12, .bool pres, .int .i64 code, .slice a1 fl.length p1, .slice a3 cl.length p3] 33)).alloc (by simp) (.cells #[.int .i64 kind, .int .i64 id, .bool dup, .string t, .string x, .int .i64 q, .bool r, .int .i64 x0, .bool x1, .int .i64 x2, .string x3, .bool x4, .string x5, .string x6, .int .i64 x7, .bool x8, .bool x9, .string x10, .bool x11, .string x12, .bool pres, .int .i64 code, (.slice a2 fl'.length p2), (.slice a4 cl'.length p4)] 33))
  clear K2'
  replace h1 := Lib.hid h1
  replace h2 := Lib.hid h2
  replace h3 := Lib.hid h3
  replace h4 := Lib.hid h4
  have hlen' : (fl.length : Int) ≤ 9223372036854775807 := by omega
  have hlen2' : (fl'.length : Int) ≤ 9223372036854775807 := by omega
  have hlen3' : (cl.length : Int) ≤ 9223372036854775807 := by omega
  have hlen4' : (cl'.length : Int) ≤ 9223372036854775807 := by omega
  by_cases hF : fl.length = fl'.length
  rotate_left
  · have hd : ((fl.length : Int) != (fl'.length : Int)) = true := by simp; omega
    replace hF := Lib.hid hF
    clear h1 h2 h3 h4 K1 K2
    go_enter Tryd.func9, Tryd.ntmps9
    go_wp2_with fail
    go_ret
    exact ⟨false, rfl, ⟨fun h => Bool.noConfusion h, fun e => absurd (congrArg (fun z => z.fl.length) e) hF.out⟩, B0.out⟩
  by_cases hC : cl.length = cl'.length
  rotate_left
  · have hd : ((cl.length : Int) != (cl'.length : Int)) = true := by simp; omega
    have hd0 : ((fl.length : Int) != (fl'.length : Int)) = false := by simp; omega
    replace hF := Lib.hid hF
    replace hC := Lib.hid hC
    clear h1 h2 h3 h4 K1 K2
    go_enter Tryd.func9, Tryd.ntmps9
    go_wp2_with fail
    go_ret
    exact ⟨false, rfl, ⟨fun h => Bool.noConfusion h, fun e => absurd (congrArg (fun z => z.cl.length) e) hC.out⟩, B0.out⟩
  have hd1 : ((cl.length : Int) != (cl'.length : Int)) = false := by simp; omega
  have hd0 : ((fl.length : Int) != (fl'.length : Int)) = false := by simp; omega
  replace hF := Lib.hid hF
  replace hC := Lib.hid hC
  go_enter Tryd.func9, Tryd.ntmps9
  go_wp2_with fail
  go_loopw [5] (fun i wr => ∃ k : Nat, i = .int .i64 k ∧ k ≤ fl.length ∧ (∀ j, j < k → fl[j]? = fl'[j]?) ∧ Below w.heap.size w wr ∧ wr.cell? ⟨w.heap.size, 22, none⟩ = some (.slice a1 fl.length p1) ∧ wr.cell? ⟨w.heap.size + 1, 22, none⟩ = some (.slice a2 fl'.length p2) ∧ wr.cell? ⟨w.heap.size, 23, none⟩ = some (.slice a3 cl.length p3) ∧ wr.cell? ⟨w.heap.size + 1, 23, none⟩ = some (.slice a4 cl'.length p4)) (fun i _ => fl.length - (intOf i).toNat)
  case atStart => exact ⟨0, rfl, by omega, fun j hj => absurd hj (by omega), B0.out, K1.out.cell 22, K2.out.cell 22, K1.out.cell 23, K2.out.cell 23⟩
  case round =>
    obtain ⟨k, rfl, hk, hall, hb, d1, d2, d3, d4⟩ := hrel
    clear K1 K2 B0
    replace hall := Lib.hid hall
    by_cases hend : k = fl.length
    · subst hend
      have HFL := Lib.hid (list_eq hF.out hall.out)
      have HB := Lib.hid hb
      have e1 := Lib.hid d1
      have e2 := Lib.hid d2
      clear hb h1 h2 hk hall
      go_wp2
      clear d1 d2
      go_loopw [6] (fun i wr => ∃ k : Nat, i = .int .i64 k ∧ k ≤ cl.length ∧ (∀ j, j < k → cl[j]? = cl'[j]?) ∧ Below w.heap.size w wr ∧ wr.cell? ⟨w.heap.size, 22, none⟩ = some (.slice a1 fl.length p1) ∧ wr.cell? ⟨w.heap.size + 1, 22, none⟩ = some (.slice a2 fl'.length p2) ∧ wr.cell? ⟨w.heap.size, 23, none⟩ = some (.slice a3 cl.length p3) ∧ wr.cell? ⟨w.heap.size + 1, 23, none⟩ = some (.slice a4 cl'.length p4)) (fun i _ => cl.length - (intOf i).toNat)
      case atStart => exact ⟨0, rfl, by omega, fun j hj => absurd hj (by omega), HB.out, e1.out, e2.out, d3, d4⟩
      case round =>
        clear HB e1 e2 d3 d4
        obtain ⟨k, rfl, hk, hall, hb, d1, d2, d3, d4⟩ := hrel
        replace hb := Lib.hid hb
        replace hall := Lib.hid hall
        by_cases hend : k = cl.length
        · subst hend
          go_wp2
          go_ret
          exact ⟨true, rfl, ⟨fun _ => by rw [HFL.out, list_eq hC.out hall.out], fun _ => rfl⟩, hb.out⟩
        have klt' : k < cl.length := by omega
        have kmt' : k < cl'.length := by have := hC.out; omega
        obtain ⟨b1, o1, rfl, hbl1, c1⟩ := int_at klt' hb.out h3.out
        obtain ⟨b2, o2, rfl, hbl2, c2⟩ := int_at kmt' hb.out h4.out
        have hx : Hid (cl[k]? = some (cl.getD k 0)) := Lib.hid (by simp [List.getD, List.getElem?_eq_getElem klt'])
        have hy : Hid (cl'[k]? = some (cl'.getD k 0)) := Lib.hid (by simp [List.getD, List.getElem?_eq_getElem kmt'])
        have klt : (k : Int) < (cl.length : Int) := by omega
        have kmt : (k : Int) < (cl'.length : Int) := by omega
        have DD := Lib.hid (And.intro d1 (And.intro d2 (And.intro d3 d4)))
        generalize cl.getD k 0 = y at *
        generalize cl'.getD k 0 = z at *
        by_cases he : y = z
        · subst he
          go_wp2_with fail
          go_quiet (fail)
          go_wp2_with fail
          go_roundw
          case rel => exact ⟨k + 1, by simp, by omega, fun j hj => (Nat.lt_succ_iff_lt_or_eq.1 hj).elim (fun h => hall.out j h) (fun h => by rw [h]; exact hx.out.trans hy.out.symm), below_drewN hb.out _, DD.out.1, DD.out.2.1, DD.out.2.2.1, DD.out.2.2.2⟩
          case measure => simp [intOf]; omega
        · have he1 : (y == z) = false := by simpa using he
          have he2 : (y != z) = true := by simpa using he
          replace he := Lib.hid he
          go_wp2_with fail
          go_quiet (fail)
          go_wp2_with fail
          go_ret
          exact ⟨false, rfl, ⟨fun h => Bool.noConfusion h, fun e => absurd (by have := hx.out.symm.trans ((congrArg (fun z => (Pk.cl z)[k]?) e).trans hy.out); simpa using this) he.out⟩, below_drewN hb.out _⟩
    obtain ⟨f, hf⟩ : ∃ f, fl[k]? = some f := ⟨_, List.getElem?_eq_getElem (by omega)⟩
    obtain ⟨g, hg⟩ : ∃ f, fl'[k]? = some f := ⟨_, List.getElem?_eq_getElem (by have := hF.out; omega)⟩
    obtain ⟨b1, o1, rfl, hbl1, c1, g1⟩ := fi_at hf hb h1.out
    obtain ⟨b2, o2, rfl, hbl2, c2, g2⟩ := fi_at hg hb h2.out
    have klt : (k : Int) < (fl.length : Int) := by omega
    have kmt : (k : Int) < (fl'.length : Int) := by have := hF.out; omega
    obtain ⟨ta, qa⟩ := f
    obtain ⟨tb, qb⟩ := g
    simp only at c1 g1 c2 g2
    replace hb := Lib.hid hb
    replace hf := Lib.hid hf
    replace hg := Lib.hid hg
    have DD := Lib.hid (And.intro d1 (And.intro d2 (And.intro d3 d4)))
    by_cases he : ta = tb ∧ qa = qb
    · obtain ⟨rfl, rfl⟩ := he
      go_wp2_with fail
      go_quiet (fail)
      go_wp2_with fail
      go_roundw
      case rel => exact ⟨k + 1, by simp, by omega, fun j hj => (Nat.lt_succ_iff_lt_or_eq.1 hj).elim (fun h => hall.out j h) (fun h => by rw [h]; exact hf.out.trans hg.out.symm), below_drewN hb.out _, DD.out.1, DD.out.2.1, DD.out.2.2.1, DD.out.2.2.2⟩
      case measure => simp [intOf]; omega
    · by_cases ht : ta = tb
      · subst ht
        have hq : ¬ qa = qb := fun h => he ⟨rfl, h⟩
        replace he := Lib.hid he
        go_wp2_with fail
        go_quiet (fail)
        go_wp2_with fail
        go_ret
        exact ⟨false, rfl, ⟨fun h => Bool.noConfusion h, fun e => absurd (by have := hf.out.symm.trans ((congrArg (fun z => (Pk.fl z)[k]?) e).trans hg.out); simpa using this) he.out⟩, below_drewN hb.out _⟩
      · have hq : ¬ ta.toList = tb.toList := toList_ne ht
        replace ht := Lib.hid ht
        replace he := Lib.hid he
        go_wp2_with fail
        go_quiet (fail)
        go_wp2_with fail
        go_ret
        exact ⟨false, rfl, ⟨fun h => Bool.noConfusion h, fun e => absurd (by have := hf.out.symm.trans ((congrArg (fun z => (Pk.fl z)[k]?) e).trans hg.out); simpa using this) he.out⟩, below_drewN hb.out _⟩
theorem same_d (P Q : Pk) (f1 c1 f2 c2 : Value) (w : World) (hf1 : FisAt w f1 P.fl) (hc1 : IntsAt w c1 P.cl) (hf2 : FisAt w f2 Q.fl) (hc2 : IntsAt w c2 Q.cl) : Calls Tryd.prog 9 #[.agg (P.v f1 c1), .agg (Q.v f2 c2)] w (IfP (P = Q) w) := by
  by_cases e0 : P.kind = Q.kind
  rotate_left
  · exact same9_kind P Q f1 c1 f2 c2 w hf1 hc1 hf2 hc2  e0
  by_cases e1 : P.id = Q.id
  rotate_left
  · exact same9_id P Q f1 c1 f2 c2 w hf1 hc1 hf2 hc2 e0 e1
  by_cases e2 : P.dup = Q.dup
  rotate_left
  · exact same9_dup P Q f1 c1 f2 c2 w hf1 hc1 hf2 hc2 e0 e1 e2
  by_cases e3 : (P.t = Q.t ∧ P.x = Q.x ∧ P.q = Q.q ∧ P.r = Q.r)
  rotate_left
  · exact same9_M P Q f1 c1 f2 c2 w hf1 hc1 hf2 hc2 e0 e1 e2 e3
  by_cases e4 : P.c = Q.c
  rotate_left
  · exact same9_C P Q f1 c1 f2 c2 w hf1 hc1 hf2 hc2 e0 e1 e2 e3 e4
  by_cases e5 : P.pres = Q.pres
  rotate_left
  · exact same9_pres P Q f1 c1 f2 c2 w hf1 hc1 hf2 hc2 e0 e1 e2 e3 e4 e5
  by_cases e6 : P.code = Q.code
  rotate_left
  · exact same9_code P Q f1 c1 f2 c2 w hf1 hc1 hf2 hc2 e0 e1 e2 e3 e4 e5 e6
  exact same9_lists P Q f1 c1 f2 c2 w hf1 hc1 hf2 hc2 e0 e1 e2 e3 e4 e5 e6
end Go.Proofs.YtmpklaokgogigaaDoor.Pac
