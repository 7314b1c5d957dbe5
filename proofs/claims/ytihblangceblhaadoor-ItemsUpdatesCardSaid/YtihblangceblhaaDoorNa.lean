/-
  LAYER 31: the document's table of aliases: Find, and Try where nothing is in it.
-/
import Derived.Test.YtihblangceblhaaDoorMk
namespace Go.Proofs.YtihblangceblhaaDoor
set_option linter.unusedVariables false
set_option linter.unusedSimpArgs false
open Go.RowKit
def rwV (e : En) : List Value := [.int .u64 e.a, .string e.o, .string e.n]
def rwC (T : List En) : List Value := T.flatMap rwV
theorem rwC_get : ∀ (T : List En) (k : Nat) (e : En), T[k]? = some e → (rwC T)[k * 3]? = some (.int .u64 e.a) ∧ (rwC T)[k * 3 + 1]? = some (.string e.o) ∧ (rwC T)[k * 3 + 2]? = some (.string e.n)
  | y :: T, 0, e, h => by
    obtain rfl : y = e := by simpa using h
    exact ⟨rfl, rfl, rfl⟩
  | y :: T, k + 1, e, h => by
    obtain ⟨h0, h1, h2⟩ := rwC_get T k e (by simpa using h)
    have c : rwC (y :: T) = rwV y ++ rwC T := by simp [rwC]
    rw [c, show (k + 1) * 3 = k * 3 + 3 by omega, show k * 3 + 3 + 1 = k * 3 + 1 + 3 by omega, show k * 3 + 3 + 2 = k * 3 + 2 + 3 by omega]
    exact ⟨h0, h1, h2⟩
/-- The document's table in block x: the rows T, in a row of its own. -/
structure Tx (w : World) (B x : Nat) (T : List En) (v : Value) : Prop where
  row : w.heap[x]? = some (.cells #[v] 49 (0, 0))
  own : w.ownsRow B 74 3 v T.length (rwC T)
  le : T.length ≤ 100000
theorem Tx.keep {w w' : World} {B x : Nat} {T : List En} {v : Value} (h : Tx w B x T v) (hb : Below w.heap.size w w') : Tx w' B x T v :=
  ⟨(hb.block x (Array.getElem?_eq_some_iff.1 h.row).1).trans h.row, own_keep h.own hb, h.le⟩
def rfV (T : List En) (o : ByteArray) (a : Int) : ByteArray × Bool := match T.find? (fun e => decide (e.o = o ∧ e.a = a)) with | some e => (e.n, true) | none => (⟨#[]⟩, false)
theorem rfV_some {T : List En} {o : ByteArray} {a : Int} {k : Nat} {e : En} (hx : T[k]? = some e) (hn : e.o = o ∧ e.a = a) (ha : ∀ j y, j < k → T[j]? = some y → ¬ (y.o = o ∧ y.a = a)) : rfV T o a = (e.n, true) := by
  obtain ⟨hk, hxk⟩ := List.getElem?_eq_some_iff.1 hx
  have : T.find? (fun e => decide (e.o = o ∧ e.a = a)) = some e := by
    refine List.find?_eq_some_iff_getElem.2 ⟨by simpa using hn, k, hk, hxk, fun j hj => ?_⟩
    have := ha j _ hj (List.getElem?_eq_getElem (by omega))
    simp only [decide_eq_false_iff_not, Bool.not_eq_eq_eq_not, Bool.not_true]
    exact this
  unfold rfV; rw [this]
theorem rfV_none {T : List En} {o : ByteArray} {a : Int} (ha : ∀ j y, j < T.length → T[j]? = some y → ¬ (y.o = o ∧ y.a = a)) : rfV T o a = (⟨#[]⟩, false) := by
  have : T.find? (fun e => decide (e.o = o ∧ e.a = a)) = none := by
    refine List.find?_eq_none.2 fun x hx => ?_
    obtain ⟨j, hj, rfl⟩ := List.getElem_of_mem hx
    have := ha j _ hj (List.getElem?_eq_getElem hj)
    simpa using this
  unfold rfV; rw [this]
set_option maxHeartbeats 4000000 in
set_option maxRecDepth 100000 in
theorem rtfind_any {w : World} {B x : Nat} {T : List En} {v : Value} (h : Tx w B x T v) (o : ByteArray) (a : Int) :
    Calls Tryd.prog 32 #[.pointer (some ⟨x, 0, none⟩), .string o, .int .u64 a] w fun e w' => e = .returned (.tuple #[.string (rfV T o a).1, .bool (rfV T o a).2]) ∧ w = w' := by
  have cx : w.cell? ⟨x, 0, none⟩ = some v := by rw [cell_of_row w x 0 _ 49 (0, 0) h.row]; rfl
  have hl : (T.length : Int) ≤ 100000 := by have := h.le; omega
  obtain ⟨va, vc, rfl⟩ := own_slice h.own
  obtain ⟨R, hR⟩ : ∃ R, R = rfV T o a := ⟨_, rfl⟩
  rw [← hR]
  replace hR := Lib.hid hR
  have H := Lib.hid h
  clear h
  go_enter Tryd.func32, Tryd.ntmps32
  go_wp2
  go_loopw [8] (fun i wr => ∃ k : Nat, i = .int .i64 k ∧ k ≤ T.length ∧ (∀ j y, j < k → T[j]? = some y → ¬ (y.o = o ∧ y.a = a)) ∧ wr = w) (fun i _ => T.length - (intOf i).toNat)
  case atStart => exact ⟨0, rfl, by omega, by omega, rfl⟩
  case round =>
    obtain ⟨k, rfl, hk, ha, rfl⟩ := hrel
    by_cases hend : k = T.length
    · subst hend
      have hp := rfV_none ha
      replace ha := Lib.hid ha
      replace hp := Lib.hid hp
      go_wp2
      go_ret2
      exact ⟨by rw [hR.out, hp.out]; rfl, rfl⟩
    have hkl : k < T.length := by omega
    have klt : (k : Int) < (T.length : Int) := by omega
    obtain ⟨e, hx⟩ : ∃ e, T[k]? = some e := ⟨_, List.getElem?_eq_getElem hkl⟩
    obtain ⟨q0, q1, q2⟩ := rwC_get T k e hx
    obtain ⟨g, c', ev⟩ := own_slice' H.out.own (by omega)
    simp only [Value.slice.injEq] at ev
    obtain ⟨rfl, -, rfl⟩ := ev
    have r0 := own_get H.out.own q0
    have r1 := own_get H.out.own q1
    have r2 := own_get H.out.own q2
    clear q0 q1 q2
    have ha2 : ¬ (e.o = o ∧ e.a = a) → ∀ j y, j < k + 1 → T[j]? = some y → ¬ (y.o = o ∧ y.a = a) := by
      intro hne j y hj hy
      by_cases ee : j = k
      · subst ee
        rw [hx] at hy
        obtain rfl := Option.some.inj hy
        exact hne
      · exact ha j y (by omega) hy
    have hp := fun hn => rfV_some hx hn ha
    replace ha := Lib.hid ha
    replace hx := Lib.hid hx
    replace ha2 := Lib.hid ha2
    replace hp := Lib.hid hp
    obtain ⟨ea, eo, en⟩ := e
    simp only at r0 r1 r2
    by_cases ho : eo = o
    · subst ho
      have es := str_eq eo
      by_cases hea : ea = a
      · subst hea
        have hF := Lib.hid (hp.out ⟨rfl, rfl⟩)
        clear ha2 hp
        go_wp2
        go_ret2
        exact ⟨by rw [hR.out, hF.out]; rfl, rfl⟩
      · have hb : (ea == a) = false := by rw [beq_eq_false_iff_ne]; exact hea
        have h2 := Lib.hid (ha2.out (by rintro ⟨-, e⟩; exact hea e))
        replace hea := Lib.hid hea
        clear ha2 hp
        go_wp2
        go_roundw
        case rel => exact ⟨k + 1, by simp, by omega, h2.out, by trivial⟩
        case measure => simp [intOf]; omega
    · have es := str_ne ho
      have h2 := Lib.hid (ha2.out (by rintro ⟨e, -⟩; exact ho e))
      replace ho := Lib.hid ho
      clear ha2 hp
      go_wp2
      go_roundw
      case rel => exact ⟨k + 1, by simp, by omega, h2.out, by trivial⟩
      case measure => simp [intOf]; omega
end Go.Proofs.YtihblangceblhaaDoor
