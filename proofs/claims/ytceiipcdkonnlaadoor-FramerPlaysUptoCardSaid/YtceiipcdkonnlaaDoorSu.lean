/-
  A SLICE OF STRINGS THAT CAME IN, small in all.
-/
import Derived.Test.YtceiipcdkonnlaaDoorStr
import Derived.Test.YtceiipcdkonnlaaDoorBulk
import Derived.SliceStrings
namespace Go.Proofs.YtceiipcdkonnlaaDoor
open Go.RowKit Go.ChangeShapes Go.WideShapes
set_option linter.unusedVariables false
set_option linter.unusedSimpArgs false
def tot : List ByteArray → Nat
  | [] => 0
  | x :: r => (x.size + 1) + tot r
theorem len_tot : ∀ ss : List ByteArray, ss.length ≤ tot ss
  | [] => by simp
  | x :: r => by have := len_tot r; simp only [List.length_cons, tot]; omega
theorem tot_take : ∀ (ss : List ByteArray) (k : Nat), tot (ss.take k) ≤ tot ss
  | [], k => by simp
  | x :: r, 0 => by simp [tot]
  | x :: r, k + 1 => by have := tot_take r k; simp only [List.take_succ_cons, tot]; omega
theorem tot_mem {x : ByteArray} : ∀ {ss : List ByteArray}, x ∈ ss → x.size + 1 ≤ tot ss
  | y :: r, h => by
    rcases List.mem_cons.1 h with rfl | h
    · simp [tot]
    · have := tot_mem h; simp only [tot]; omega
theorem bulk_strs {H : Type} : ∀ ss : List ByteArray, Rows.uptoBulkAll (strs (H := H) ss) = tot ss
  | [] => rfl
  | x :: r => by
    have ih := bulk_strs (H := H) r
    unfold strs at ih ⊢
    rw [List.map_cons, Rows.uptoBulkAll, ih, tot]
    simp only [Rows.uptoBulk, Array.length_toList]
    rfl
/-- A slice of strings that came in, small in all. -/
def StrRowU (w : World) (a : Option Addr) (len cap : Nat) (ss : List ByteArray) : Prop :=
  ss.length = len ∧ len ≤ cap ∧ tot ss ≤ 1048576 ∧ (len = 0 ∨ ∃ b o, a = some ⟨b, o, none⟩ ∧ b < w.heap.size ∧ ∀ i x, ss[i]? = some x → w.cell? ⟨b, o + i, none⟩ = some (.string x))
theorem open_str_argU {H : Type} {enc : TypeId × Value → H} {P : Program} {W : World} {t e : TypeId} (ht : P.underlying t = some (.slice e)) (he : P.underlying e = some .string) (hc : P.cellsOf e = 1) {a0 : Option Addr} {len cap fuel : Nat} {x : DataW H × List MemPlace}
    (hf : DataW.trod enc P W 0 (fun _ => true) true fuel t [.slice a0 len cap] = some x) (hb : Rows.uptoBulk x.1 ≤ 1048576) : ∃ ss, StrRowU W a0 len cap ss := by
  rcases open_strings ht he hc hf with ⟨hcs, hx⟩ | ⟨a, len', cap', ss, hcs, _, hl, hm, hz, hx, hcell, hsz⟩
  · simp at hcs
    obtain ⟨rfl, rfl, rfl⟩ := hcs
    exact ⟨[], rfl, Nat.le_refl _, by simp [tot], .inl rfl⟩
  · simp at hcs
    obtain ⟨rfl, rfl, rfl⟩ := hcs
    simp only [if_true] at hz
    have ht : tot (ss.take len) ≤ 1048576 := by
      rw [hx] at hb
      simp only [Rows.uptoBulk, bulk_strs] at hb
      omega
    refine ⟨ss.take len, by simp; omega, by omega, ht, ?_⟩
    by_cases h0 : len = 0
    · exact .inl h0
    right
    obtain ⟨b, off, spot⟩ := a
    have hc0 := hcell 0 (by omega)
    have hs : spot = none := by simpa [Addr.add] using World.cell?_spot hc0
    subst hs
    refine ⟨b, off, rfl, by have := World.block_lt_of_cell? W _ hc0; simpa [Addr.add] using this, fun i y hy => ?_⟩
    have hi : i < len := by
      have := (List.getElem?_eq_some_iff.1 hy).1
      rw [List.length_take] at this
      omega
    have := hcell i (by omega)
    have hadd : (⟨b, off, none⟩ : Addr).add i = ⟨b, off + i, none⟩ := by unfold Addr.add; split <;> simp_all
    rw [hadd] at this
    rw [List.getElem?_take, if_pos hi] at hy
    rw [this, List.getD_eq_getElem?_getD, hy]
    rfl
end Go.Proofs.YtceiipcdkonnlaaDoor
