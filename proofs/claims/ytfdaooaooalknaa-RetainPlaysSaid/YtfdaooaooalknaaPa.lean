/-
  LAYER 27: messages sorted by their topics.
-/
import Derived.Test.YtfdaooaooalknaaMs
import Derived.Test.YtfdaooaooalknaaShelf
import Derived.Test.YtfdaooaooalknaaRa
import Derived.Shelf.SlSortCmp.WholeK
import Derived.Sort.KeysCollected
namespace Go.Proofs.Ytfdaooaooalknaa
set_option linter.unusedVariables false
set_option linter.unusedSimpArgs false
open Go.RowKit Go.Maps Go.WideMaps Go.Sort Go.Lib
instance : Inhabited Mg := ⟨⟨⟨#[]⟩, ⟨#[]⟩, 0, false⟩⟩
def cmpS (a b : ByteArray) : Int := if Op.bytesLess a.toList b.toList then -1 else if a.toList == b.toList then 0 else 1
def cmpM (x y : Mg) : Int := cmpS x.a0 y.a0
theorem nan48 (a : ByteArray) (W : World) : Calls Try.prog 48 #[.string a] W fun e w' => e = .returned (.bool false) ∧ W = w' := by
  go_enter Try.func48, Try.ntmps48
  go_wp2
  go_ret
  exact ⟨rfl, rfl⟩
set_option maxRecDepth 100000 in
theorem cmp33 (a b : ByteArray) (W : World) : Calls Try.prog 33 #[.string a, .string b] W fun e w' => e = .returned (.int .i64 (cmpS a b)) ∧ W = w' := by
  have N1 := Lib.hid (nan48 a W)
  have N2 := Lib.hid (nan48 b W)
  unfold cmpS
  cases h1 : Op.bytesLess a.toList b.toList
  · cases h2 : (a.toList == b.toList)
    all_goals
      go_enter Try.func33, Try.ntmps33
      go_wp2_with fail
      refine N1.out.mono ?_
      rintro e w1 ⟨rfl, rfl⟩
      go_wp2_with fail
      refine N2.out.mono ?_
      rintro e w1 ⟨rfl, rfl⟩
      go_wp2
      go_ret
      exact ⟨rfl, rfl⟩
  · go_enter Try.func33, Try.ntmps33
    go_wp2_with fail
    refine N1.out.mono ?_
    rintro e w1 ⟨rfl, rfl⟩
    go_wp2_with fail
    refine N2.out.mono ?_
    rintro e w1 ⟨rfl, rfl⟩
    go_wp2
    go_ret
    exact ⟨rfl, rfl⟩
set_option maxRecDepth 100000 in
theorem closure32 (x y : Mg) (W : World) : Calls Try.prog 32 #[.agg #[.string x.a0, .string x.a1, .int .i64 x.a2, .bool x.a3], .agg #[.string y.a0, .string y.a1, .int .i64 y.a2, .bool y.a3]] W fun e w' => e = .returned (.int .i64 (cmpM x y)) ∧ ∃ q os', w' = grow (W.drewN q) os' := by
  have C := Lib.hid (fun W' => cmp33 x.a0 y.a0 W')
  unfold cmpM
  generalize cmpS x.a0 y.a0 = r at *
  go_enter Try.func32, Try.ntmps32
  go_wp2_with fail
  refine (C.out _).mono ?_
  rintro e w1 ⟨rfl, rfl⟩
  go_wp2
  go_ret
  exact ⟨rfl, 0, _, by rw [alloc_eq_grow, alloc_eq_grow, grow_grow]; rfl⟩
theorem cmpLays32 (blk off size : Nat) (w : World) : CmpLays Try.prog 32 #[] Mg.cells 4 cmpM blk off size w := fun _ _ _ _ x y => closure32 x y _
theorem isAgg33' (w : World) : (isAgg 33).run Try.prog w = .ok true w := by kernel_rfl
theorem sizeOf33' (w : World) : (Go.sizeOf 33).run Try.prog w = .ok 4 w := by kernel_rfl
theorem lt_list (a b : ByteArray) : Op.bytesLess a.toList b.toList = decide (a.toList < b.toList) := Go.Proofs.bytesLess_eq _ _
theorem ltM (x y : Mg) : ltOf cmpM x y = decide (x.a0.toList < y.a0.toList) := by
  unfold ltOf cmpM cmpS
  rw [lt_list]
  by_cases h : x.a0.toList < y.a0.toList
  · simp [h]
  · simp only [h, decide_false]
    rw [if_neg (by simp)]
    split <;> simp
theorem swoM : SWO (ltOf cmpM) where
  irrefl x := by rw [ltM]; simp [List.lt_irrefl]
  trans x y z h1 h2 := by
    rw [ltM, decide_eq_true_eq] at *
    exact List.lt_trans h1 h2
  ntrans x y z h1 h2 := by
    rw [ltM, decide_eq_false_iff_not, List.not_lt] at *
    exact List.le_trans h2 h1
theorem grow_below {B : Nat} {w w1 : World} (h : Below B w w1) (hB : B ≤ w1.heap.size) (os : Array Obj) : Below B w (Sort.grow w1 os) := by
  refine ⟨h.os, h.tape, h.output, Nat.le_trans h.size (by unfold Sort.grow; simp), fun k hk => ?_⟩
  rw [← h.block k hk]
  unfold Sort.grow
  simp only
  rw [Array.getElem?_append_left (by omega)]
theorem put_below {B : Nat} {w : World} {blk : Nat} (hb : B ≤ blk) (n off : Nat) (d : Array Mg) : Below B w (Sort.putRowK Mg.cells 4 (Sort.ahead w n) blk off d) := by
  unfold Sort.putRowK Sort.putRow Sort.mapBlock Sort.ahead
  refine ⟨rfl, rfl, rfl, by simp, fun k hk => ?_⟩
  simp only
  rw [Array.getElem?_modify, if_neg (by omega)]
/-- Rising by their topics. -/
def Rise (l : List Mg) : Prop := l.Pairwise fun x y => ¬ y.a0.toList < x.a0.toList
def SortP (base blk : Nat) (l : List Mg) (w : World) (e : Ending) (w' : World) : Prop :=
  e = .returned (.tuple #[]) ∧ Below base w w' ∧ ∃ l2 : List Mg, l2.Perm l ∧ Rise l2 ∧ ∀ i x, l2[i]? = some x → ∀ j u, x.cells[j]? = some u → w'.cell? ⟨blk, i * 4 + j, none⟩ = some u
theorem msort (base blk cap : Nat) (l : List Mg) (w : World) (hb : base ≤ blk) (hblk : blk < w.heap.size) (h4 : l.length ≤ 1000000) (hc : ∀ i x, l[i]? = some x → ∀ j u, x.cells[j]? = some u → w.cell? ⟨blk, i * 4 + j, none⟩ = some u) (hf : ∀ j, w.frozen? ⟨blk, j, none⟩ = false) :
    Calls Try.prog 31 #[.slice (some ⟨blk, 0, none⟩) l.length cap, .func (.func 32) #[] #[]] w (SortP base blk l w) := by
  have hH : Sort.HoldsK Mg.cells 4 w blk 0 l.toArray := by
    intro j hj
    rw [Sort.size_flatK, List.size_toArray] at hj
    refine ⟨?_, by simpa using hf j⟩
    rw [Sort.get_flatK _ _ _ _ (by simpa using hj), Nat.zero_add]
    have hj2 : j / 4 < l.length := by omega
    obtain ⟨x, hx⟩ : ∃ x, l[j / 4]? = some x := ⟨_, List.getElem?_eq_getElem hj2⟩
    have c := hc (j / 4) _ hx
    have e1 : l.toArray[j / 4]! = x := by
      have := (List.getElem?_eq_some_iff.1 hx).2
      simp [hj2, this]
    rw [e1]
    rcases (by omega : j % 4 = 0 ∨ j % 4 = 1 ∨ j % 4 = 2 ∨ j % 4 = 3) with h | h | h | h
    · have c1 := c 0 _ rfl
      have e2 : j / 4 * 4 + 0 = j := by omega
      rw [e2] at c1
      rw [h]
      exact c1
    · have c1 := c 1 _ rfl
      have e2 : j / 4 * 4 + 1 = j := by omega
      rw [e2] at c1
      rw [h]
      exact c1
    · have c1 := c 2 _ rfl
      have e2 : j / 4 * 4 + 2 = j := by omega
      rw [e2] at c1
      rw [h]
      exact c1
    · have c1 := c 3 _ rfl
      have e2 : j / 4 * 4 + 3 = j := by omega
      rw [e2] at c1
      rw [h]
      exact c1
  have eg : ∀ args w, (callFunc 32 args).run Try.prog w = .ok (.enter 32 args) w := enters_of Try.func32 (by kernel_rfl) rfl
  have hcon := AnyQ.slices_SortFunc Try.sortMg 4 isAgg33' sizeOf33' Mg.cells (fun _ => rfl) (fun x v hv => by simp [Mg.cells] at hv; rcases hv with rfl | rfl | rfl | rfl <;> rfl) cmpM swoM 32 #[] blk 0 cap l.toArray w eg (cmpLays32 blk 0 l.toArray.size w) hH hblk (by simp; omega)
  rw [List.size_toArray] at hcon
  refine hcon.mono ?_
  rintro e w' ⟨rfl, d', n, os, hp, hs, rfl⟩
  have hsz : d'.size = l.length := by simpa using hp.1
  have hH2 := holdsK_sortWorldK_c Mg.cells 4 w blk 0 l.toArray d' n os hH hblk (by simpa using hsz)
  refine ⟨rfl, ?_, d'.toList, ?_, ?_, fun i x hi j u hu => ?_⟩
  · unfold sortWorldK
    exact grow_below (put_below hb n 0 d') (by rw [Sort.size_putRowK]; show base ≤ w.heap.size; omega) os
  · have := hp.2.2
    have e1 : d'.extract 0 l.length = d' := by rw [← hsz]; simp
    have e2 : l.toArray.extract 0 l.length = l.toArray := by
      have : l.length = l.toArray.size := by simp
      rw [this]; simp
    rw [e1, e2] at this
    simpa using this
  · unfold Rise
    rw [List.pairwise_iff_getElem]
    intro i j hi hj hij
    have := hs i j (Nat.zero_le _) hij (by simp at hj; omega)
    rw [ltM, decide_eq_false_iff_not] at this
    simp only [Array.length_toList] at hi hj
    simpa [hi, hj] using this
  · have hi' : i < d'.size := by simpa using (List.getElem?_eq_some_iff.1 hi).1
    have ex : d'[i]! = x := by
      have := (List.getElem?_eq_some_iff.1 hi).2
      simp at this
      simp [hi', this]
    have hj : j < 4 := (List.getElem?_eq_some_iff.1 hu).1
    have c := (hH2.cell hi' (c := j) hj).1
    rw [ex] at c
    rcases (by omega : j = 0 ∨ j = 1 ∨ j = 2 ∨ j = 3) with rfl | rfl | rfl | rfl <;>
    · simp [Mg.cells] at c hu
      subst hu
      simpa using c
end Go.Proofs.Ytfdaooaooalknaa
