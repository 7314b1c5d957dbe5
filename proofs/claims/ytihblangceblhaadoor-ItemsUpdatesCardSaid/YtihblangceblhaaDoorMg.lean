/-
  LAYER 31: the same items are the same; Find on both sides.
-/
import Derived.Test.YtihblangceblhaaDoorMf
import Derived.Deep.QuietTactic
import Derived.BigQuiet
namespace Go.Proofs.YtihblangceblhaaDoor
set_option linter.unusedVariables false
set_option linter.unusedSimpArgs false
open Go.RowKit
def YesW (w : World) (e : Ending) (w' : World) : Prop := e = .returned (.bool true) ∧ Below w.heap.size w w'
set_option maxHeartbeats 4000000 in
set_option maxRecDepth 100000 in
theorem rsame_eq (v1 v2 : Value) (L : List It) (w : World) (h1 : ItsAt w v1 L) (h2 : ItsAt w v2 L) : Calls Tryd.prog 11 #[v1, v2] w (YesW w) := by
  obtain ⟨a1, p1, rfl, hlen, hc1⟩ := h1
  obtain ⟨a2, p2, rfl, -, hc2⟩ := h2
  replace hc1 := Lib.hid hc1
  replace hc2 := Lib.hid hc2
  have hlen' : (L.length : Int) ≤ 9223372036854775807 := by omega
  go_enter Tryd.func11, Tryd.ntmps11
  go_wp2
  go_loopw [5] (fun i wr => ∃ k : Nat, i = .int .i64 k ∧ k ≤ L.length ∧ Below w.heap.size w wr) (fun i _ => L.length - (intOf i).toNat)
  case atStart => exact ⟨0, rfl, by omega, Below.refl _ _⟩
  case round =>
    obtain ⟨k, rfl, hk, hb⟩ := hrel
    replace hb := Lib.hid hb
    by_cases hend : k = L.length
    · subst hend
      go_wp2
      go_ret
      exact ⟨rfl, hb.out⟩
    obtain ⟨f, hf⟩ : ∃ f, L[k]? = some f := ⟨_, List.getElem?_eq_getElem (by omega)⟩
    obtain ⟨b1, o1, rfl, hbl1, c0, c1, c2, c3, c4, c5, c6, c7⟩ := itsAt_at hf hb.out hc1.out
    obtain ⟨b2, o2, rfl, hbl2, e0, e1, e2, e3, e4, e5, e6, e7⟩ := itsAt_at hf hb.out hc2.out
    have klt : (k : Int) < (L.length : Int) := by omega
    obtain ⟨f0, f1, f2, f3, f4, f5, f6, f7⟩ := f
    simp only at c0 c1 c2 c3 c4 c5 c6 c7 e0 e1 e2 e3 e4 e5 e6 e7
    replace hf := Lib.hid hf
    replace hend := Lib.hid hend
    go_wp2_with fail
    go_quiet (fail)
    go_wp2_with fail
    go_roundw
    case rel => exact ⟨k + 1, by simp, by omega, hb.out.trans ⟨rfl, rfl, rfl, Nat.le_refl _, fun _ _ => rfl⟩⟩
    case measure => simp [intOf]; omega
set_option maxHeartbeats 4000000 in
set_option maxRecDepth 100000 in
theorem equal_eq (v1 v2 : Value) (L : List It) (w : World) (h1 : ItsAt w v1 L) (h2 : ItsAt w v2 L) : Calls Tryd.prog 33 #[v1, v2] w (YesW w) := by
  obtain ⟨a1, p1, rfl, hlen, hc1⟩ := h1
  obtain ⟨a2, p2, rfl, -, hc2⟩ := h2
  replace hc1 := Lib.hid hc1
  replace hc2 := Lib.hid hc2
  have hlen' : (L.length : Int) ≤ 9223372036854775807 := by omega
  go_enter Tryd.func33, Tryd.ntmps33
  go_wp2
  go_loopw [13] (fun i wr => ∃ k : Nat, i = .int .i64 k ∧ k ≤ L.length ∧ Below w.heap.size w wr) (fun i _ => L.length - (intOf i).toNat)
  case atStart => exact ⟨0, rfl, by omega, Below.refl _ _⟩
  case round =>
    obtain ⟨k, rfl, hk, hb⟩ := hrel
    replace hb := Lib.hid hb
    by_cases hend : k = L.length
    · subst hend
      go_wp2
      go_ret
      exact ⟨rfl, hb.out⟩
    obtain ⟨f, hf⟩ : ∃ f, L[k]? = some f := ⟨_, List.getElem?_eq_getElem (by omega)⟩
    obtain ⟨b1, o1, rfl, hbl1, c0, c1, c2, c3, c4, c5, c6, c7⟩ := itsAt_at hf hb.out hc1.out
    obtain ⟨b2, o2, rfl, hbl2, e0, e1, e2, e3, e4, e5, e6, e7⟩ := itsAt_at hf hb.out hc2.out
    have klt : (k : Int) < (L.length : Int) := by omega
    obtain ⟨f0, f1, f2, f3, f4, f5, f6, f7⟩ := f
    simp only at c0 c1 c2 c3 c4 c5 c6 c7 e0 e1 e2 e3 e4 e5 e6 e7
    replace hf := Lib.hid hf
    replace hend := Lib.hid hend
    go_wp2_with fail
    go_quiet (fail)
    go_wp2_with fail
    go_roundw
    case rel => exact ⟨k + 1, by simp, by omega, hb.out.trans ⟨rfl, rfl, rfl, Nat.le_refl _, fun _ _ => rfl⟩⟩
    case measure => simp [intOf]; omega
theorem same_eq (v1 v2 : Value) (L : List It) (w : World) (h1 : ItsAt w v1 L) (h2 : ItsAt w v2 L) : Calls Tryd.prog 20 #[v1, v2] w (YesW w) := by
  have E := Lib.hid (equal_eq v1 v2 L w h1 h2)
  obtain ⟨a1, p1, rfl, -, -⟩ := h1
  obtain ⟨a2, p2, rfl, -, -⟩ := h2
  go_enter Tryd.func20, Tryd.ntmps20
  go_wp2_with fail
  refine (E.out).mono ?_
  rintro e w2 ⟨rfl, b2⟩
  go_wp2_with fail
  go_ret
  exact ⟨rfl, b2⟩
def fnd (l : List It) (nm : ByteArray) : It := match plc l nm with | some i => l.getD i it0 | none => it0
def FindP (l : List It) (nm : ByteArray) (w : World) (e : Ending) (w' : World) : Prop := e = .returned (.tuple #[.agg (fnd l nm).v, .bool (plc l nm).isSome]) ∧ Below w.heap.size w w'
theorem end9 {W : World} {tmps : Array Value} {g : Nat} {cs : Array Value} {b : Bool} {R : Ending → World → Prop} (hr : W.heap[g]? = some (.cells cs 37 (0, 0))) (hs : cs.size = 8) (h2 : tmps.getD 4 undef = .pointer (some ⟨g, 0, none⟩)) (h3 : tmps.getD 5 undef = .bool b) (hR : R (.returned (.tuple #[.agg cs, .bool b])) W) :
    bodyPost Tryd.prog Tryd.f9 R .ret { tmps := tmps, defers := [] } W := by
  have r1 := run_loadVar_row (P := Tryd.prog) W _ 37 37 cs (0, 0) _ hr Tryd.underlying37 rfl (by rw [hs]; kernel_rfl)
  simp only [Array.getD_eq_getD_getElem?] at h2 h3
  exact ⟨rfl, _, by simp [results, Tryd.f9, h2, h3, asAddr, r1], hR⟩
theorem end10 {W : World} {tmps : Array Value} {g : Nat} {cs : Array Value} {b : Bool} {R : Ending → World → Prop} (hr : W.heap[g]? = some (.cells cs 37 (0, 0))) (hs : cs.size = 8) (h2 : tmps.getD 4 undef = .pointer (some ⟨g, 0, none⟩)) (h3 : tmps.getD 5 undef = .bool b) (hR : R (.returned (.tuple #[.agg cs, .bool b])) W) :
    bodyPost Tryd.prog Tryd.f10 R .ret { tmps := tmps, defers := [] } W := by
  have r1 := run_loadVar_row (P := Tryd.prog) W _ 37 37 cs (0, 0) _ hr Tryd.underlying37 rfl (by rw [hs]; kernel_rfl)
  simp only [Array.getD_eq_getD_getElem?] at h2 h3
  exact ⟨rfl, _, by simp [results, Tryd.f10, h2, h3, asAddr, r1], hR⟩
set_option maxRecDepth 100000 in
theorem pfind_any (v : Value) (l : List It) (nm : ByteArray) (w : World) (h : ItsAt w v l) : Calls Tryd.prog 9 #[v, .string nm] w (FindP l nm w) := by
  obtain ⟨a, cap, rfl, hlen, hc⟩ := h
  have A1 := Lib.hid (below2 w (.cells #[.string ⟨#[]⟩, .bool false, .int .u64 0, .int .u32 0, .bool false, .int .i64 0, .int .u64 0, .string ⟨#[]⟩] 37) (.cells #[.slice a l.length cap] 33))
  have FD := Lib.hid (find_any31 a cap (w.heap.size + 1) l nm ((w.alloc (.cells #[.string ⟨#[]⟩, .bool false, .int .u64 0, .int .u32 0, .bool false, .int .i64 0, .int .u64 0, .string ⟨#[]⟩] 37)).alloc (.cells #[.slice a l.length cap] 33)) (ItsAt.keep ⟨a, cap, rfl, hlen, hc⟩ A1.out (Nat.le_refl _)) (by rw [cell_of_row _ _ _ _ _ _ (alloc2 w _ _)]; rfl))
  replace hc := Lib.hid hc
  unfold FindP
  obtain ⟨X, hX⟩ : ∃ X, X = fnd l nm := ⟨_, rfl⟩
  obtain ⟨B, hB⟩ : ∃ B, B = (plc l nm).isSome := ⟨_, rfl⟩
  rw [← hX, ← hB]
  replace hX := Lib.hid hX
  replace hB := Lib.hid hB
  go_enter Tryd.func9, Tryd.ntmps9
  go_wp2_with fail
  refine (FD.out).mono ?_
  rintro e w2 ⟨rfl, rfl⟩
  clear FD
  cases hp : plc l nm with
  | none =>
    have hq : ptrOf a l nm = .pointer none := by unfold ptrOf; rw [hp]
    rw [hq]
    replace hp := Lib.hid hp
    replace hq := Lib.hid hq
    go_wp2
    exact end9 (g := w.heap.size) ((Below.heap_alloc _ _ _ (by simp)).trans (heap_alloc_new _ _)) rfl rfl rfl ⟨by rw [hX.out, hB.out]; unfold fnd; rw [hp.out]; rfl, A1.out⟩
  | some j =>
    obtain ⟨x, hx, -, -⟩ := plc_spec hp
    obtain ⟨b, o, rfl, hbl, c0, c1, c2, c3, c4, c5, c6, c7⟩ := itsAt_at hx A1.out hc.out
    have hq : ptrOf (some ⟨b, o, none⟩) l nm = .pointer (some ⟨b, o + j * 8, none⟩) := by unfold ptrOf; rw [hp]; rfl
    rw [hq]
    have hg : l.getD j it0 = x := by rw [List.getD_eq_getElem?_getD, hx]; rfl
    obtain ⟨f0, f1, f2, f3, f4, f5, f6, f7⟩ := x
    simp only at c0 c1 c2 c3 c4 c5 c6 c7
    replace hp := Lib.hid hp
    replace hq := Lib.hid hq
    replace hx := Lib.hid hx
    replace hg := Lib.hid hg
    go_wp2
    exact end9 (g := w.heap.size) ((Below.heap_alloc _ _ _ (by simp)).trans (heap_alloc_new _ _)) rfl rfl rfl ⟨by rw [hX.out, hB.out]; unfold fnd; rw [hp.out]; simp only [hg.out]; rfl, below2 _ _ _⟩
set_option maxRecDepth 100000 in
theorem rfind_any (v : Value) (l : List It) (nm : ByteArray) (w : World) (h : ItsAt w v l) : Calls Tryd.prog 10 #[v, .string nm] w (FindP l nm w) := by
  have FD := Lib.hid (fun W hb => place_any v l nm W (h.keep (B := w.heap.size) hb (Nat.le_refl _)))
  obtain ⟨a, cap, rfl, hlen, hc⟩ := h
  replace hc := Lib.hid hc
  have A1 := Lib.hid (ext_alloc w (.cells #[.string ⟨#[]⟩, .bool false, .int .u64 0, .int .u32 0, .bool false, .int .i64 0, .int .u64 0, .string ⟨#[]⟩] 37))
  unfold FindP
  obtain ⟨X, hX⟩ : ∃ X, X = fnd l nm := ⟨_, rfl⟩
  obtain ⟨B, hB⟩ : ∃ B, B = (plc l nm).isSome := ⟨_, rfl⟩
  rw [← hX, ← hB]
  replace hX := Lib.hid hX
  replace hB := Lib.hid hB
  go_enter Tryd.func10, Tryd.ntmps10
  go_wp2_with fail
  refine (FD.out _ A1.out).mono ?_
  rintro e w2 ⟨rfl, rfl⟩
  clear FD
  cases hp : plc l nm with
  | none =>
    have hq : plcI l nm = -1 := by unfold plcI; rw [hp]
    rw [hq]
    replace hp := Lib.hid hp
    replace hq := Lib.hid hq
    go_wp2
    exact end10 (g := w.heap.size) (heap_alloc_new _ _) rfl rfl rfl ⟨by rw [hX.out, hB.out]; unfold fnd; rw [hp.out]; rfl, ext_alloc _ _⟩
  | some j =>
    obtain ⟨x, hx, -, -⟩ := plc_spec hp
    obtain ⟨b, o, rfl, hbl, c0, c1, c2, c3, c4, c5, c6, c7⟩ := itsAt_at hx A1.out hc.out
    have hq : plcI l nm = (j : Int) := by unfold plcI; rw [hp]
    rw [hq]
    have hjl : (j : Int) < (l.length : Int) := by have := plc_lt hp; omega
    have hg : l.getD j it0 = x := by rw [List.getD_eq_getElem?_getD, hx]; rfl
    obtain ⟨f0, f1, f2, f3, f4, f5, f6, f7⟩ := x
    simp only at c0 c1 c2 c3 c4 c5 c6 c7
    replace hp := Lib.hid hp
    replace hq := Lib.hid hq
    replace hx := Lib.hid hx
    replace hg := Lib.hid hg
    go_wp2
    exact end10 (g := w.heap.size) (heap_alloc_new _ _) rfl rfl rfl ⟨by rw [hX.out, hB.out]; unfold fnd; rw [hp.out]; simp only [hg.out]; rfl, ext_alloc _ _⟩
end Go.Proofs.YtihblangceblhaaDoor
