/-
  LAYER 16: packets that came in, as a list.
-/
import Derived.Test.YtmpklaokgogigaaDoorWb
namespace Go.Proofs.YtmpklaokgogigaaDoor.Pac
set_option linter.unusedVariables false
set_option linter.unusedSimpArgs false
open Go.Proofs.YtmpklaokgogigaaDoor
open Go.RowKit
def Pt.ok (x : Pt) : Prop := x.p.ok
def PtsAt (w : World) (v : Value) (l : List Pt) : Prop :=
  ∃ a cap, v = .slice a l.length cap ∧ l.length ≤ 9223372036854775807 ∧ (l = [] ∨ ∃ b o, a = some ⟨b, o, none⟩ ∧ b < w.heap.size ∧ ∀ i x, l[i]? = some x → w.rangeAt b (o + i * 24) x.cells ∧ FisAt w x.fs x.p.fl ∧ IntsAt w x.cs x.p.cl)
theorem open_pts {H : Type} {enc : TypeId × Value → H} {w : World} {fuel : Nat} {a : Option Addr} {len cap : Nat} {x : DataW H × List MemPlace}
    (h : DataW.trod enc Tryd.prog w 0 (fun _ => true) true fuel 42 [.slice a len cap] = some x) (hs : ∀ n ∈ x.1.weights Tryd.prog 42, n ≤ 140737488351232) :
    ∃ l : List Pt, PtsAt w (.slice a len cap) l ∧ ∀ f ∈ l, f.ok := by
  obtain ⟨hl, hx⟩ := open_pks h hs
  by_cases h0 : len = 0
  · subst h0; exact ⟨[], ⟨a, cap, rfl, by simp, .inl rfl⟩, by simp⟩
  obtain ⟨b, o, -, -, -, rfl, hb, -⟩ := hx 0 (by omega)
  have key : ∀ i, i < len → ∃ x : Pt, w.rangeAt b (o + i * 24) x.cells ∧ FisAt w x.fs x.p.fl ∧ IntsAt w x.cs x.p.cl ∧ x.p.ok := fun i hi => by
    obtain ⟨b', o', P, f, c, e, -, hr, hf, hc, ok⟩ := hx i hi
    simp only [Option.some.injEq, Addr.mk.injEq, and_true] at e
    obtain ⟨rfl, rfl⟩ := e
    exact ⟨⟨P, f, c⟩, hr, hf, hc, ok⟩
  haveI : Inhabited Pt := ⟨⟨pk0 0, noS, noS⟩⟩
  obtain ⟨F, hF⟩ := Go.Deep.choose_lt key
  have hlen : ((List.range len).map F).length = len := by simp
  refine ⟨(List.range len).map F, ⟨_, cap, by rw [hlen], by rw [hlen]; exact hl, .inr ⟨b, o, rfl, hb, fun i y hi => ?_⟩⟩, ?_⟩
  · have hil : i < len := by have := (List.getElem?_eq_some_iff.1 hi).1; simpa using this
    have hf : F i = y := by simpa [hil] using hi
    subst hf
    exact ⟨(hF i hil).1, (hF i hil).2.1, (hF i hil).2.2.1⟩
  · intro y hy
    obtain ⟨i, hi, rfl⟩ := List.mem_map.1 hy
    exact (hF i (List.mem_range.1 hi)).2.2.2
theorem add_str (a b : ByteArray) (h : a.size + b.size ≤ 9223372036854775807) (W : World) : (Op.stringOp .add a b).run Tryd.prog W = .ok (.string (a ++ b)) W := by
  have h2 : ¬ (((a.size + b.size : Nat) : Int) > IntKind.i64.max) := by
    rw [show IntKind.i64.max = 9223372036854775807 from by decide]; omega
  unfold Op.stringOp
  simp only [if_neg h2]
  rfl
theorem strB_app (l m : List Nat) : strB l ++ strB m = strB (l ++ m) := by
  apply ByteArray.ext
  rw [ByteArray.data_append]
  simp [strB]
end Go.Proofs.YtmpklaokgogigaaDoor.Pac
