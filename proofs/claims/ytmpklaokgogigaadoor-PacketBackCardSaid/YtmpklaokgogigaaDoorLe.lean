/-
  LAYER 16: Same of packets with the same parts, of both sides.
-/
import Derived.Test.YtmpklaokgogigaaDoorLa
import Derived.Test.YtmpklaokgogigaaDoorSk
import Derived.Test.YtmpklaokgogigaaDoorSh
import Derived.LoopTactic
import Derived.BigQuiet
namespace Go.Proofs.YtmpklaokgogigaaDoor.Pac
set_option linter.unusedVariables false
set_option linter.unusedSimpArgs false
open Go.Proofs.YtmpklaokgogigaaDoor
open Go.RowKit
def YesW (w : World) (e : Ending) (w' : World) : Prop := e = .returned (.bool true) ∧ Below w.heap.size w w'
theorem int_at {w wr : World} {a : Option Addr} {l : List Int} {k : Nat} (hk : k < l.length) (hb : Below w.heap.size w wr) (hc : l = [] ∨ ∃ b o, a = some ⟨b, o, none⟩ ∧ b < w.heap.size ∧ ∀ i, i < l.length → w.cell? ⟨b, o + i, none⟩ = some (.int .i64 (l.getD i 0))) :
    ∃ b o, a = some ⟨b, o, none⟩ ∧ b < w.heap.size ∧ wr.cell? ⟨b, o + k, none⟩ = some (.int .i64 (l.getD k 0)) := by
  rcases hc with h | ⟨b, o, ha, hlt, hc⟩
  · subst h; simp at hk
  · exact ⟨b, o, ha, hlt, by rw [hb.cell (by simpa using hlt)]; exact hc k hk⟩
theorem below_w {w W wr : World} (h1 : Below w.heap.size w W) (h2 : Below W.heap.size W wr) : Below w.heap.size w wr := h1.trans (h2.mono h1.size)
set_option maxHeartbeats 8000000 in
set_option maxRecDepth 100000 in
theorem rsame_any (P : Pk) (f1 c1 f2 c2 : Value) (w : World) (hf1 : FisAt w f1 P.fl) (hc1 : IntsAt w c1 P.cl) (hf2 : FisAt w f2 P.fl) (hc2 : IntsAt w c2 P.cl) :
    Calls Tryd.prog 9 #[.agg (P.v f1 c1), .agg (P.v f2 c2)] w (YesW w) := by
  obtain ⟨kind, id, dup, t, x, q, r, ⟨x0, x1, x2, x3, x4, x5, x6, x7, x8, x9, x10, x11, x12⟩, pres, code, fl, cl⟩ := P
  obtain ⟨a1, p1, rfl, hlen, h1⟩ := hf1
  obtain ⟨a2, p2, rfl, -, h2⟩ := hf2
  obtain ⟨a3, p3, rfl, hlen3, h3⟩ := hc1
  obtain ⟨a4, p4, rfl, -, h4⟩ := hc2
  unfold Pk.v
  simp only at *
  have K1 := Lib.hid ((Blk.new w 33 #[.int .i64 kind, .int .i64 id, .bool dup, .string t, .string x, .int .i64 q, .bool r, .int .i64 x0, .bool x1, .int .i64 x2, .string x3, .bool x4, .string x5, .string x6, .int .i64 x7, .bool x8, .bool x9, .string x10, .bool x11, .string x12, .bool pres, .int .i64 code, .slice a1 fl.length p1, .slice a3 cl.length p3]).alloc (.cells #[.int .i64 kind, .int .i64 id, .bool dup, .string t, .string x, .int .i64 q, .bool r, .int .i64 x0, .bool x1, .int .i64 x2, .string x3, .bool x4, .string x5, .string x6, .int .i64 x7, .bool x8, .bool x9, .string x10, .bool x11, .string x12, .bool pres, .int .i64 code, .slice a2 fl.length p2, .slice a4 cl.length p4] 33))
  have K2' := Blk.new (w.alloc (.cells #[.int .i64 kind, .int .i64 id, .bool dup, .string t, .string x, .int .i64 q, .bool r, .int .i64 x0, .bool x1, .int .i64 x2, .string x3, .bool x4, .string x5, .string x6, .int .i64 x7, .bool x8, .bool x9, .string x10, .bool x11, .string x12, .bool pres, .int .i64 code, .slice a1 fl.length p1, .slice a3 cl.length p3] 33)) 33 #[.int .i64 kind, .int .i64 id, .bool dup, .string t, .string x, .int .i64 q, .bool r, .int .i64 x0, .bool x1, .int .i64 x2, .string x3, .bool x4, .string x5, .string x6, .int .i64 x7, .bool x8, .bool x9, .string x10, .bool x11, .string x12, .bool pres, .int .i64 code, .slice a2 fl.length p2, .slice a4 cl.length p4]
  have K2 : Hid (Blk ((w.alloc (.cells #[.int .i64 kind, .int .i64 id, .bool dup, .string t, .string x, .int .i64 q, .bool r, .int .i64 x0, .bool x1, .int .i64 x2, .string x3, .bool x4, .string x5, .string x6, .int .i64 x7, .bool x8, .bool x9, .string x10, .bool x11, .string x12, .bool pres, .int .i64 code, .slice a1 fl.length p1, .slice a3 cl.length p3] 33)).alloc (.cells #[.int .i64 kind, .int .i64 id, .bool dup, .string t, .string x, .int .i64 q, .bool r, .int .i64 x0, .bool x1, .int .i64 x2, .string x3, .bool x4, .string x5, .string x6, .int .i64 x7, .bool x8, .bool x9, .string x10, .bool x11, .string x12, .bool pres, .int .i64 code, .slice a2 fl.length p2, .slice a4 cl.length p4] 33)) (w.heap.size + 1) 33 #[.int .i64 kind, .int .i64 id, .bool dup, .string t, .string x, .int .i64 q, .bool r, .int .i64 x0, .bool x1, .int .i64 x2, .string x3, .bool x4, .string x5, .string x6, .int .i64 x7, .bool x8, .bool x9, .string x10, .bool x11, .string x12, .bool pres, .int .i64 code, .slice a2 fl.length p2, .slice a4 cl.length p4]) := Lib.hid (by simpa using K2')
  have B0 := Lib.hid (((Below.refl _ w).alloc (Nat.le_refl _) (.cells #[.int .i64 kind, .int .i64 id, .bool dup, .string t, .string x, .int .i64 q, .bool r, .int .i64 x0, .bool x1, .int .i64 x2, .string x3, .bool x4, .string x5, .string x6, .int .i64 x7, .bool x8, .bool x9, .string x10, .bool x11, .string x12, .bool pres, .int .i64 code, .slice a1 fl.length p1, .slice a3 cl.length p3] 33)).alloc (by simp) (.cells #[.int .i64 kind, .int .i64 id, .bool dup, .string t, .string x, .int .i64 q, .bool r, .int .i64 x0, .bool x1, .int .i64 x2, .string x3, .bool x4, .string x5, .string x6, .int .i64 x7, .bool x8, .bool x9, .string x10, .bool x11, .string x12, .bool pres, .int .i64 code, .slice a2 fl.length p2, .slice a4 cl.length p4] 33))
  clear K2'
  replace h1 := Lib.hid h1
  replace h2 := Lib.hid h2
  replace h3 := Lib.hid h3
  replace h4 := Lib.hid h4
  have hlen' : (fl.length : Int) ≤ 9223372036854775807 := by omega
  have hlen3' : (cl.length : Int) ≤ 9223372036854775807 := by omega
  go_enter Tryd.func9, Tryd.ntmps9
  go_wp2_with fail
  go_loopw [5] (fun i wr => ∃ k : Nat, i = .int .i64 k ∧ k ≤ fl.length ∧ Below w.heap.size w wr ∧ wr.cell? ⟨w.heap.size, 22, none⟩ = some (.slice a1 fl.length p1) ∧ wr.cell? ⟨w.heap.size + 1, 22, none⟩ = some (.slice a2 fl.length p2) ∧ wr.cell? ⟨w.heap.size, 23, none⟩ = some (.slice a3 cl.length p3) ∧ wr.cell? ⟨w.heap.size + 1, 23, none⟩ = some (.slice a4 cl.length p4)) (fun i _ => fl.length - (intOf i).toNat)
  case atStart => exact ⟨0, rfl, by omega, B0.out, K1.out.cell 22, K2.out.cell 22, K1.out.cell 23, K2.out.cell 23⟩
  case round =>
    obtain ⟨k, rfl, hk, hb, d1, d2, d3, d4⟩ := hrel
    clear K1 K2 B0
    by_cases hend : k = fl.length
    · subst hend
      have HB := Lib.hid hb
      have e1 := Lib.hid d1
      have e2 := Lib.hid d2
      clear hb h1 h2 hk
      go_wp2
      clear d1 d2
      go_loopw [6] (fun i wr => ∃ k : Nat, i = .int .i64 k ∧ k ≤ cl.length ∧ Below w.heap.size w wr ∧ wr.cell? ⟨w.heap.size, 22, none⟩ = some (.slice a1 fl.length p1) ∧ wr.cell? ⟨w.heap.size + 1, 22, none⟩ = some (.slice a2 fl.length p2) ∧ wr.cell? ⟨w.heap.size, 23, none⟩ = some (.slice a3 cl.length p3) ∧ wr.cell? ⟨w.heap.size + 1, 23, none⟩ = some (.slice a4 cl.length p4)) (fun i _ => cl.length - (intOf i).toNat)
      case atStart => exact ⟨0, rfl, by omega, HB.out, e1.out, e2.out, d3, d4⟩
      case round =>
        clear HB e1 e2 d3 d4
        obtain ⟨k, rfl, hk, hb, d1, d2, d3, d4⟩ := hrel
        replace hb := Lib.hid hb
        by_cases hend : k = cl.length
        · subst hend
          go_wp2
          go_ret
          exact ⟨rfl, hb.out⟩
        have klt' : k < cl.length := by omega
        obtain ⟨b1, o1, rfl, hbl1, c1⟩ := int_at klt' hb.out h3.out
        obtain ⟨b2, o2, rfl, hbl2, c2⟩ := int_at klt' hb.out h4.out
        have klt : (k : Int) < (cl.length : Int) := by omega
        have DD := Lib.hid (And.intro d1 (And.intro d2 (And.intro d3 d4)))
        generalize cl.getD k 0 = y at *
        go_wp2_with fail
        go_quiet (fail)
        go_wp2_with fail
        go_roundw
        case rel => exact ⟨k + 1, by simp, by omega, below_drewN hb.out _, DD.out.1, DD.out.2.1, DD.out.2.2.1, DD.out.2.2.2⟩
        case measure => simp [intOf]; omega
    obtain ⟨f, hf⟩ : ∃ f, fl[k]? = some f := ⟨_, List.getElem?_eq_getElem (by omega)⟩
    obtain ⟨b1, o1, rfl, hbl1, c1, g1⟩ := fi_at hf hb h1.out
    obtain ⟨b2, o2, rfl, hbl2, c2, g2⟩ := fi_at hf hb h2.out
    have klt : (k : Int) < (fl.length : Int) := by omega
    obtain ⟨t', q'⟩ := f
    simp only at c1 g1 c2 g2
    replace hb := Lib.hid hb
    replace hf := Lib.hid hf
    have DD := Lib.hid (And.intro d1 (And.intro d2 (And.intro d3 d4)))
    go_wp2_with fail
    go_quiet (fail)
    go_wp2_with fail
    go_roundw
    case rel => exact ⟨k + 1, by simp, by omega, below_drewN hb.out _, DD.out.1, DD.out.2.1, DD.out.2.2.1, DD.out.2.2.2⟩
    case measure => simp [intOf]; omega
end Go.Proofs.YtmpklaokgogigaaDoor.Pac
