/-
  LAYER 31: whose name a metric bears; an item that is told anew.
-/
import Derived.Test.YtihblangceblhaaDoorMg
namespace Go.Proofs.YtihblangceblhaaDoor
set_option linter.unusedVariables false
set_option linter.unusedSimpArgs false
open Go.RowKit
/-- The name that a metric bears, or why it has none. -/
def nmF (T : List En) (o : ByteArray) (f : Mt) : ByteArray × Int :=
  if f.n ≠ ⟨#[]⟩ then (f.n, 1) else if f.ha = false then (⟨#[]⟩, 7) else if (findV T o f.al).2 = true then ((findV T o f.al).1, 1) else (⟨#[]⟩, 6)
def NmP (r : ByteArray × Int) (w : World) (e : Ending) (w' : World) : Prop := e = .returned (.tuple #[.string r.1, errV r.2]) ∧ Below w.heap.size w w'
def putI (x : It) (f : Mt) : It := ⟨x.a0, x.a1, x.a2, x.a3, f.nu, (itm f).a5_0, (itm f).a5_1, (itm f).a5_2⟩
theorem itsAtC_put : ∀ (L : List It) (j : Nat) (x : It) (_ : L[j]? = some x) (b : Bool) (k n : Int) (s : ByteArray),
    ((((itsAtC L).set (j * 8 + 4) (.bool b)).set (j * 8 + 5) (.int .i64 k)).set (j * 8 + 5 + 1) (.int .u64 n)).set (j * 8 + 5 + 1 + 1) (.string s) = itsAtC (L.set j ⟨x.a0, x.a1, x.a2, x.a3, b, k, n, s⟩)
  | y :: L, 0, x, h, b, k, n, s => by
    obtain rfl : y = x := by simpa using h
    rfl
  | y :: L, j + 1, x, h, b, k, n, s => by
    have ih := itsAtC_put L j x (by simpa using h) b k n s
    have e : ∀ (M : List Value) (i : Nat) (a : Value), (y.cells ++ M).set (i + 8) a = y.cells ++ M.set i a := fun M i a => rfl
    have c : ∀ M : List It, itsAtC (y :: M) = y.cells ++ itsAtC M := fun M => by simp [itsAtC]
    rw [List.set_cons_succ, c, c, ← ih]
    rw [show (j + 1) * 8 + 4 = j * 8 + 4 + 8 by omega, show (j + 1) * 8 + 5 = j * 8 + 5 + 8 by omega, show j * 8 + 5 + 8 + 1 = j * 8 + 5 + 1 + 8 by omega, show j * 8 + 5 + 1 + 8 + 1 = j * 8 + 5 + 1 + 1 + 8 by omega]
    rw [e, e, e, e]
theorem own_put {w : World} {B g cap : Nat} {L : List It} (h : w.ownsRow B 37 8 (.slice (some ⟨g, 0, none⟩) L.length cap) L.length (itsAtC L)) {j : Nat} {x : It} (hx : L[j]? = some x) (b : Bool) (k n : Int) (s : ByteArray) :
    ((w.setCell ⟨g, j * 8 + 4, none⟩ (.bool b)).setCells g (j * 8 + 5) [.int .i64 k, .int .u64 n, .string s]).ownsRow B 37 8 (.slice (some ⟨g, 0, none⟩) L.length cap) L.length (itsAtC (L.set j ⟨x.a0, x.a1, x.a2, x.a3, b, k, n, s⟩)) := by
  rw [← itsAtC_put L j x hx b k n s]
  exact ((((h.stored _ _).1.stored _ _).1.stored _ _).1.stored _ _).1
theorem below_put {w w0 : World} {B g : Nat} (hb : Below B w0 w) (hg : B ≤ g) (j : Nat) (b : Bool) (k n : Int) (s : ByteArray) :
    Below B w0 ((w.setCell ⟨g, j * 8 + 4, none⟩ (.bool b)).setCells g (j * 8 + 5) [.int .i64 k, .int .u64 n, .string s]) :=
by
  have h1 : Below B w0 (w.setCell ⟨g, j * 8 + 4, none⟩ (.bool b)) := hb.setCell hg _
  have h2 : Below B w0 ((w.setCell ⟨g, j * 8 + 4, none⟩ (.bool b)).setCell ⟨g, j * 8 + 5, none⟩ (.int .i64 k)) := h1.setCell hg _
  have h3 : Below B w0 (((w.setCell ⟨g, j * 8 + 4, none⟩ (.bool b)).setCell ⟨g, j * 8 + 5, none⟩ (.int .i64 k)).setCell ⟨g, j * 8 + 5 + 1, none⟩ (.int .u64 n)) := h2.setCell hg _
  exact h3.setCell hg _
set_option maxHeartbeats 4000000 in
set_option maxRecDepth 100000 in
theorem named_any {T : List En} {g m : Nat} {D : DataW Unit} (f : Mt) (fok : f.ok) (o : ByteArray) (w : World) (h : Tb w g m T D) : Calls Tryd.prog 38 #[.agg f.v, .pointer (some ⟨g, 0, none⟩), .string o] w (NmP (nmF T o f) w) := by
  have A0 := Lib.hid (ext_alloc w (.cells f.v 32))
  have FV := Lib.hid (find_any (h.keep A0.out) o f.al fok.2.1)
  obtain ⟨s1, s2, s3, s4⟩ := f.sl fok
  unfold NmP
  obtain ⟨R, hR⟩ : ∃ R, R = nmF T o f := ⟨_, rfl⟩
  rw [← hR]
  unfold nmF at hR
  replace hR := Lib.hid hR
  obtain ⟨n, ha, al, ti, ty, hi, tr, nu, vm, vp, kk, nn, s, vs, vt⟩ := f
  simp only [Mt.v] at *
  obtain ⟨p1, p2, p3, rfl⟩ := s1
  obtain ⟨p4, p5, p6, rfl⟩ := s2
  obtain ⟨p7, p8, p9, rfl⟩ := s3
  obtain ⟨p10, p11, p12, rfl⟩ := s4
  clear h fok
  by_cases hn : n = ⟨#[]⟩
  · subst hn
    cases ha
    · have hF : R = (⟨#[]⟩, 7) := by rw [hR.out]; simp
      replace hF := Lib.hid hF
      clear FV
      go_enter Tryd.func38, Tryd.ntmps38
      go_wp2
      go_ret2
      exact ⟨by rw [hF.out]; rfl, A0.out⟩
    · have hF : R = if (findV T o al).2 = true then ((findV T o al).1, 1) else (⟨#[]⟩, 6) := by rw [hR.out]; simp
      generalize findV T o al = r at *
      obtain ⟨fn, fb⟩ := r
      simp only at hF
      replace hF := Lib.hid hF
      clear hR
      go_enter Tryd.func38, Tryd.ntmps38
      go_wp2_with fail
      refine (FV.out).mono ?_
      rintro e w2 ⟨rfl, h2⟩
      have B2 : Hid (Below w.heap.size w w2) := Lib.hid (by first | (subst h2; exact A0.out) | exact A0.out.trans (h2.mono A0.out.size))
      clear FV
      cases fb
      · go_wp2_with fail
        go_ret2
        exact ⟨by rw [hF.out]; rfl, B2.out⟩
      · go_wp2_with fail
        go_ret2
        exact ⟨by rw [hF.out]; rfl, B2.out⟩
  · have hF : R = (n, 1) := by rw [hR.out]; simp [hn]
    obtain ⟨n1, n2⟩ := ne_nil n hn
    replace hF := Lib.hid hF
    replace hn := Lib.hid hn
    clear FV hR
    go_enter Tryd.func38, Tryd.ntmps38
    go_wp2
    go_ret2
    exact ⟨by rw [hF.out]; rfl, A0.out⟩
end Go.Proofs.YtihblangceblhaaDoor
