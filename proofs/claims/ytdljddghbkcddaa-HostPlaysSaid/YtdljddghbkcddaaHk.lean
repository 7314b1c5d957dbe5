/-
  LAYER 34: the document's hosts: Take.
-/
import Derived.Test.YtdljddghbkcddaaHj
import Derived.Deep.AppendLies
import Derived.Laws.AppendOwnNone
namespace Go.Proofs.Ytdljddghbkcddaa.Hst
open Go.RowKit Go.Maps Go.WideMaps
theorem add_off2 (b o i : Nat) : (⟨b, o, none⟩ : Addr).add i = ⟨b, o + i, none⟩ := by unfold Addr.add; split <;> simp_all
/-- The document's hosts in block x. -/
structure Xh (B : Nat) (w : World) (x : Nat) (v : Value) (L : List Host) : Prop where
  row : w.heap[x]? = some (.cells #[v] 59 (0, 0))
  its : w.ownsRow B 63 2 v L.length (hcC L)
section
variable {B : Nat} {w w' : World} {x : Nat} {v : Value} {L : List Host}
theorem Xh.lt (h : Xh B w x v L) : x < w.heap.size := (Array.getElem?_eq_some_iff.1 h.row).1
theorem Xh.c0 (h : Xh B w x v L) : w.cell? ⟨x, 0, none⟩ = some v := cell_of_row w x 0 _ 59 (0, 0) h.row
theorem Xh.fz (h : Xh B w x v L) (j : Nat) : w.frozen? ⟨x, j, none⟩ = false := frozen_of_row w x j _ 59 h.row
theorem Xh.keep (h : Xh B w x v L) (hb : Below w.heap.size w w') : Xh B w' x v L := ⟨(hb.block x h.lt).trans h.row, own_keep h.its hb⟩
theorem Xh.at (h : Xh B w x v L) {gb n cb : Nat} (hv : v = .slice (some ⟨gb, 0, none⟩) n cb) {k : Nat} {e : Host} (hk : L[k]? = some e) : w.cell? ⟨gb, k * 2, none⟩ = some (.string e.1) ∧ w.cell? ⟨gb, k * 2 + 1, none⟩ = some (.bool e.2) := by
  subst hv
  exact ⟨own_get h.its (hcC_get hk).1, own_get h.its (hcC_get hk).2⟩
theorem Xh.fzr (h : Xh B w x v L) {gb cb n : Nat} (hv : v = .slice (some ⟨gb, 0, none⟩) n cb) (j : Nat) : w.frozen? ⟨gb, j, none⟩ = false := by
  have := h.its
  subst hv
  rcases this.2 with ⟨h, -⟩ | ⟨g', cap, cur, hv, hB, hcur, hn, hm, hs, ht⟩
  · cases h
  · simp only [Value.slice.injEq, Option.some.injEq, Addr.mk.injEq, and_true] at hv
    obtain ⟨rfl, -, -⟩ := hv
    exact frozen_of_row w gb j _ 63 hcur
/-- Rising by their names, none twice. -/
def RiseS (L : List Host) : Prop := L.Pairwise fun a b => a.1.toList < b.1.toList
/-- Where a name stands, or would stand. -/
def px (L : List Host) (k : ByteArray) : Nat := L.findIdx fun e => !Op.bytesLess e.1.toList k.toList
theorem px_lo {k : ByteArray} {j : Nat} {e : Host} (h : j < px L k) (he : L[j]? = some e) : Op.bytesLess e.1.toList k.toList = true := by
  unfold px at h
  have := List.not_of_lt_findIdx (xs := L) (p := fun e : Host => !Op.bytesLess e.1.toList k.toList) (i := j) h
  rw [(List.getElem?_eq_some_iff.1 he).2] at this
  simpa using this
theorem px_hit {k : ByteArray} {e : Host} (he : L[px L k]? = some e) : Op.bytesLess e.1.toList k.toList = false := by
  have hj := (List.getElem?_eq_some_iff.1 he).1
  unfold px at hj he
  have := List.findIdx_getElem (xs := L) (p := fun e : Host => !Op.bytesLess e.1.toList k.toList) (w := hj)
  rw [(List.getElem?_eq_some_iff.1 he).2] at this
  simpa using this
/-- What the document's Take leaves behind. -/
structure XNw (B : Nat) (w w' : World) (x : Nat) (v : Value) (L : List Host) (v' : Value) : Prop where
  r : Xh B w' x v' L
  size : w.heap.size ≤ w'.heap.size
  blk : ∀ k, k < w.heap.size → k ≠ x → v.ownBlock ≠ some k → w'.heap[k]? = w.heap[k]?
  io : w'.os = w.os ∧ w'.tape = w.tape ∧ w'.output = w.output
  nb : ∀ k, v'.ownBlock = some k → v.ownBlock = some k ∨ w.heap.size ≤ k
theorem setX {g j : Nat} {cs : Array Value} (h : w.heap[g]? = some (.cells cs 59 (0, 0))) (u : Value) : (w.setCell ⟨g, j, none⟩ u).heap[g]? = some (.cells (cs.setIfInBounds j u) 59 (0, 0)) :=
  heap_setCell_same w g j _ 59 u h
theorem set_grown2 {g j : Nat} {u : Value} : w.grownBy (w.setCell ⟨g, j, none⟩ u) (some g) :=
  ⟨rfl, rfl, rfl, by simp [World.setCell], fun k _ hne => Below.heap_setCell _ _ _ _ (by simpa using hne)⟩
theorem xh_end {W : World} {v' : Value} {L' : List Host} (h : Xh B w x v L) (hb : Below w.heap.size w W) (hB : B ≤ w.heap.size) (o : W.ownsRow w.heap.size 63 2 v' L'.length (hcC L')) : XNw B w (W.setCell ⟨x, 0, none⟩ v') x v L' v' := by
  have R1 := (hb.block x h.lt).trans h.row
  have GG : W.grownBy (W.setCell ⟨x, 0, none⟩ v') (some x) := set_grown2
  refine ⟨⟨by simpa using setX R1 (j := 0) v', own_base (own_grown o R1 (by decide) GG) hB⟩, ?_, fun k hk hx _ => ?_, ⟨GG.os.trans hb.os, GG.tape.trans hb.tape, GG.output.trans hb.output⟩, fun k hk => .inr (o.lt k hk).1⟩
  · have := hb.size; simp [World.setCell]; exact this
  · rw [Below.heap_setCell _ _ _ _ hx]; exact hb.block k hk
theorem hcC_set : ∀ (l : List Host) (i : Nat) (e : Host) (on : Bool), l[i]? = some e → (hcC l).set (i * 2 + 1) (.bool on) = hcC (l.set i (e.1, on))
  | [], i, e, on, h => by simp at h
  | y :: l, 0, e, on, h => by
    simp at h; subst h
    rfl
  | y :: l, i + 1, e, on, h => by
    have := hcC_set l i e on (by simpa using h)
    have e1 : ∀ (y : Host) (l : List Host), hcC (y :: l) = .string y.1 :: .bool y.2 :: hcC l := fun _ _ => rfl
    rw [e1, show (i + 1) * 2 + 1 = i * 2 + 1 + 1 + 1 by omega, List.set_cons_succ, List.set_cons_succ, List.set_cons_succ, e1, this]
theorem Xh.storeT (h : Xh B w x v L) {gb cb : Nat} (hv : v = .slice (some ⟨gb, 0, none⟩) L.length cb) {k : Nat} {e : Host} (he : L[k]? = some e) (on : Bool) : XNw B w (w.setCell ⟨gb, k * 2 + 1, none⟩ (.bool on)) x v (L.set k (e.1, on)) v := by
  subst hv
  have hne : x ≠ gb := fun e => own_far h.its h.row (by decide) (by rw [e]; rfl)
  refine ⟨⟨?_, ?_⟩, by simp [World.setCell], fun q _ _ hq => Below.heap_setCell _ _ _ _ (fun e => hq (by subst e; rfl)), ⟨rfl, rfl, rfl⟩, fun k hk => .inl hk⟩
  · rw [Below.heap_setCell _ _ _ _ hne]; exact h.row
  · have := (h.its.stored (k * 2 + 1) (.bool on)).1
    rw [hcC_set _ _ _ _ he] at this
    simpa using this
end
end Go.Proofs.Ytdljddghbkcddaa.Hst
