/-
  LAYER 34: the hosts sorted by their names.
-/
import Derived.Test.YtdljddghbkcddaaHg
namespace Go.Proofs.Ytdljddghbkcddaa.Hst
open Go.RowKit Go.Maps Go.WideMaps Go.Lib
theorem grow_below {B : Nat} {w w1 : World} (h : Below B w w1) (hB : B ≤ w1.heap.size) (os : Array Obj) : Below B w (Sort.grow w1 os) := by
  refine ⟨h.os, h.tape, h.output, Nat.le_trans h.size (by unfold Sort.grow; simp), fun k hk => ?_⟩
  rw [← h.block k hk]
  unfold Sort.grow
  simp only
  rw [Array.getElem?_append_left (by omega)]
theorem put_below {B : Nat} {w : World} {blk : Nat} (hb : B ≤ blk) (n off : Nat) (d : Array Host) : Below B w (Sort.putRowK encH 2 (Sort.ahead w n) blk off d) := by
  unfold Sort.putRowK Sort.putRow Sort.mapBlock Sort.ahead
  refine ⟨rfl, rfl, rfl, by simp, fun k hk => ?_⟩
  simp only
  rw [Array.getElem?_modify, if_neg (by omega)]
/-- Rising by their names. -/
def Rise (l : List Host) : Prop := l.Pairwise fun x y => ¬ y.1.toList < x.1.toList
def SortP (base blk : Nat) (l : List Host) (w : World) (e : Ending) (w' : World) : Prop :=
  e = .returned (.tuple #[]) ∧ Below base w w' ∧ ∃ l2 : List Host, l2.Perm l ∧ Rise l2 ∧ ∀ i x, l2[i]? = some x → w'.cell? ⟨blk, i * 2, none⟩ = some (.string x.1) ∧ w'.cell? ⟨blk, i * 2 + 1, none⟩ = some (.bool x.2)
theorem hsort (base blk cap : Nat) (l : List Host) (w : World) (hb : base ≤ blk) (hblk : blk < w.heap.size) (h4 : l.length ≤ 4) (hc : ∀ i x, l[i]? = some x → w.cell? ⟨blk, i * 2, none⟩ = some (.string x.1) ∧ w.cell? ⟨blk, i * 2 + 1, none⟩ = some (.bool x.2)) (hf : ∀ j, w.frozen? ⟨blk, j, none⟩ = false) :
    Calls Try.prog 40 #[.slice (some ⟨blk, 0, none⟩) l.length cap, .func (.func 41) #[] #[]] w (SortP base blk l w) := by
  have hH : Sort.HoldsK encH 2 w blk 0 l.toArray := by
    intro j hj
    rw [Sort.size_flatK, List.size_toArray] at hj
    refine ⟨?_, by simpa using hf j⟩
    rw [Sort.get_flatK _ _ _ _ (by simpa using hj), Nat.zero_add]
    have hj2 : j / 2 < l.length := by omega
    obtain ⟨x, hx⟩ : ∃ x, l[j / 2]? = some x := ⟨_, List.getElem?_eq_getElem hj2⟩
    obtain ⟨c1, c2⟩ := hc (j / 2) _ hx
    have e1 : l.toArray[j / 2]! = x := by
      have := (List.getElem?_eq_some_iff.1 hx).2
      simp [hj2, this]
    rw [e1]
    rcases (by omega : j % 2 = 0 ∨ j % 2 = 1) with h | h
    · have e2 : j / 2 * 2 = j := by omega
      rw [e2] at c1
      rw [h]
      exact c1
    · have e2 : j / 2 * 2 + 1 = j := by omega
      rw [e2] at c2
      rw [h]
      exact c2
  have eg : ∀ args w, (callFunc 41 args).run Try.prog w = .ok (.enter 41 args) w := enters_of Try.func41 (by kernel_rfl) rfl
  have hcon := AnyQ.slices_SortFunc_small_sorted Try.sortHv 2 isAgg63 sizeOf63 encH (fun _ => rfl) (fun x v hv => by simp [encH] at hv; rcases hv with rfl | rfl <;> rfl) cmpH 41 #[] swoH blk 0 cap l.toArray w eg (cmpLays41 blk 0 l.toArray.size w) hH hblk (by simpa using Nat.le_trans h4 (by omega)) hlen12
  rw [List.size_toArray] at hcon
  refine hcon.mono ?_
  rintro e w' ⟨rfl, d', n, os, hp, hs, rfl⟩
  have hsz : d'.size = l.length := by simpa using hp.1
  have hH2 := holdsK_sortWorldK_c encH 2 w blk 0 l.toArray d' n os hH hblk (by simpa using hsz)
  refine ⟨rfl, ?_, d'.toList, ?_, ?_, fun i x hi => ?_⟩
  · unfold sortWorldK
    exact grow_below (put_below hb n 0 d') (by rw [Sort.size_putRowK]; show base ≤ w.heap.size; omega) os
  · have := hp.2.2
    have e1 : d'.extract 0 l.length = d' := by rw [← hsz]; simp
    have e2 : l.toArray.extract 0 l.length = l.toArray := by
      have : l.length = l.toArray.size := by simp
      rw [this]; simp
    rw [e1, e2] at this
    simpa using this
  · unfold Rise
    rw [List.pairwise_iff_getElem]
    intro i j hi hj hij
    have := hs i j (Nat.zero_le _) hij (by simp at hj; omega)
    rw [ltH, decide_eq_false_iff_not] at this
    simp only [Array.length_toList] at hi hj
    simpa [hi, hj] using this
  · have hi' : i < d'.size := by simpa using (List.getElem?_eq_some_iff.1 hi).1
    have ex : d'[i]! = x := by
      have := (List.getElem?_eq_some_iff.1 hi).2
      simp at this
      simp [hi', this]
    have c1 := (hH2.cell hi' (c := 0) (by omega)).1
    have c2 := (hH2.cell hi' (c := 1) (by omega)).1
    rw [ex] at c1 c2
    simp [encH] at c1 c2
    exact ⟨c1, c2⟩
end Go.Proofs.Ytdljddghbkcddaa.Hst
