/-
  OWNED ROWS: kept, elsewhere, out of the way.
-/
import Derived.Test.YtdcfenkllpfbaaaCom
import Derived.WalkLawsBesides
import Derived.WalkSpells
import Derived.Laws.OwnMore
import Derived.OwnWalk
import Derived.Outline
import Derived.Test.YtdcfenkllpfbaaaRows
import Derived.Test.YtdcfenkllpfbaaaMs
import Derived.Deep.RegionHeld3
import Derived.Deep.AppendLies
import Derived.Deep.DeepMust
import Derived.Deep.RegionLaw
import Derived.Deep.QuietTactic
import Derived.BigQuiet
import Derived.Laws.AppendOwnNone
import Derived.StillTailTactics
import Derived.LaidEqlPtr
import Derived.KernelRfl
namespace Go.Proofs.Ytdcfenkllpfbaaa
set_option linter.unusedSimpArgs false
set_option linter.unusedVariables false
open Go.RowKit
theorem ext_two (w : World) (a b : Obj) : Below w.heap.size w ((w.alloc a).alloc b) := (ext_alloc w a).alloc (by simp) b
theorem ext_drewN (w : World) (n : Nat) : Below w.heap.size w (w.drewN n) := ⟨rfl, rfl, rfl, Nat.le_refl _, fun _ _ => rfl⟩
theorem below_drewN {B : Nat} {a w : World} (h : Below B a w) (n : Nat) : Below B a (w.drewN n) := h.trans ⟨rfl, rfl, rfl, Nat.le_refl _, fun _ _ => rfl⟩
theorem own_base {w : World} {B B' e size n : Nat} {v : Value} {xs : List Value} (h : w.ownsRow B e size v n xs) (hB : B' ≤ B) : w.ownsRow B' e size v n xs := by
  refine ⟨h.1, h.2.imp id ?_⟩
  rintro ⟨g, cap, cur, hv, hg, rest⟩
  exact ⟨g, cap, cur, hv, Nat.le_trans hB hg, rest⟩
theorem own_keep {w w' : World} {B e size n : Nat} {v : Value} {xs : List Value} (h : w.ownsRow B e size v n xs) (hb : Below w.heap.size w w') : w'.ownsRow B e size v n xs := by
  refine ⟨h.1, h.2.imp id ?_⟩
  rintro ⟨g, cap, cur, hv, hg, hcur, rest⟩
  exact ⟨g, cap, cur, hv, hg, by rw [hb.block g (Array.getElem?_eq_some_iff.1 hcur).1]; exact hcur, rest⟩
theorem own_slice {w : World} {B e size n : Nat} {v : Value} {xs : List Value} (h : w.ownsRow B e size v n xs) : ∃ a c, v = .slice a n c := by
  rcases h.2 with ⟨rfl, rfl⟩ | ⟨g, cap, cur, rfl, _⟩
  · exact ⟨none, 0, rfl⟩
  · exact ⟨_, _, rfl⟩
theorem own_slice' {w : World} {B e size n : Nat} {v : Value} {xs : List Value} (h : w.ownsRow B e size v n xs) (hn : 0 < n) : ∃ g c, v = .slice (some ⟨g, 0, none⟩) n c := by
  rcases h.2 with ⟨rfl, rfl⟩ | ⟨g, cap, cur, rfl, _⟩
  · omega
  · exact ⟨_, _, rfl⟩
/-- The cells of an owned row. -/
theorem own_get {w : World} {B e size n g m c : Nat} {xs : List Value} (h : w.ownsRow B e size (.slice (some ⟨g, 0, none⟩) m c) n xs) {j : Nat} {u : Value} (hj : xs[j]? = some u) : w.cell? ⟨g, j, none⟩ = some u := by
  rcases h.2 with ⟨h, -⟩ | ⟨g', cap, cur, hv, _, hcur, _, _, hcs, ht⟩
  · cases h
  · simp only [Value.slice.injEq, Option.some.injEq, Addr.mk.injEq, and_true] at hv
    obtain ⟨rfl, rfl, rfl⟩ := hv
    have := cell_of_row w g j _ _ _ hcur
    rw [this, ← hj, ← ht, List.getElem?_take]
    split
    · simp
    · have := (List.getElem?_eq_some_iff.1 hj).1
      have hx := congrArg List.length ht
      simp at hx
      omega
theorem grown_trans {a b c : World} {m : Nat} (h : a.grownBy b (some m)) (k : b.grownBy c (some m)) : a.grownBy c (some m) :=
  ⟨k.os.trans h.os, k.tape.trans h.tape, k.output.trans h.output, Nat.le_trans h.size k.size, fun i hi hne => (k.block i (Nat.lt_of_lt_of_le hi h.size) hne).trans (h.block i hi hne)⟩
theorem grown_of {a b : World} {m B : Nat} (h : Below B a b) (hB : a.heap.size ≤ B) : a.grownBy b (some m) :=
  ⟨h.os, h.tape, h.output, h.size, fun i hi _ => h.block i (Nat.lt_of_lt_of_le hi hB)⟩
/-- An owned row of another type is not the block that is written. -/
theorem own_far {w : World} {B e t size n g : Nat} {v : Value} {xs : List Value} {cs : Array Value} (h : w.ownsRow B e size v n xs) (hg : w.heap[g]? = some (.cells cs t (0, 0))) (ht : t ≠ e) : some g ≠ v.ownBlock := by
  rcases h.2 with ⟨rfl, -⟩ | ⟨g', cap, cur, rfl, -, hcur, -⟩
  · simp [Value.ownBlock]
  · intro e'
    obtain rfl : g = g' := by simpa [Value.ownBlock] using e'
    rw [hg] at hcur
    simp at hcur
    exact ht hcur.2
theorem own_grown {w w' : World} {B e t size n g : Nat} {v : Value} {xs : List Value} {cs : Array Value} (h : w.ownsRow B e size v n xs) (hg : w.heap[g]? = some (.cells cs t (0, 0))) (ht : t ≠ e) (hgr : w.grownBy w' (some g)) : w'.ownsRow B e size v n xs :=
  h.kept hgr (.inr (own_far h hg ht).symm)
end Go.Proofs.Ytdcfenkllpfbaaa

/-
  WHAT HAS CHANGED: Far; lists of numbers.
-/
namespace Go.Proofs.Ytdcfenkllpfbaaa
set_option linter.unusedSimpArgs false
set_option linter.unusedVariables false
open Go.RowKit
end Go.Proofs.Ytdcfenkllpfbaaa
namespace Go.Proofs.Ytdcfenkllpfbaaa.Que
set_option linter.unusedSimpArgs false
set_option linter.unusedVariables false
open Go.RowKit
theorem heap_alloc_old (w : World) (o : Obj) {c : Nat} (h : c < w.heap.size) : (w.alloc o).heap[c]? = w.heap[c]? := Below.heap_alloc _ _ _ h
theorem info3 : (Try.prog.info? 3).map (fun i => (i.zero, i.size, i.bytes)) = some (some (.int .i64 0), 1, 8) := by kernel_rfl
def il (l : List Int) : List Value := l.map (Value.int .i64)
/-- Nothing but the blocks of S has changed. -/
structure Far (S : Nat → Prop) (w w' : World) : Prop where
  os : w'.os = w.os
  tape : w'.tape = w.tape
  output : w'.output = w.output
  size : w.heap.size ≤ w'.heap.size
  block : ∀ k, k < w.heap.size → ¬ S k → w'.heap[k]? = w.heap[k]?
theorem Far.refl (S : Nat → Prop) (w : World) : Far S w w := ⟨rfl, rfl, rfl, Nat.le_refl _, fun _ _ _ => rfl⟩
theorem Far.trans {S S' : Nat → Prop} {a b c : World} (h : Far S a b) (g : Far S' b c) (hs : ∀ k, k < a.heap.size → S' k → S k) : Far S a c :=
  ⟨g.os.trans h.os, g.tape.trans h.tape, g.output.trans h.output, Nat.le_trans h.size g.size, fun k hk h1 => (g.block k (Nat.lt_of_lt_of_le hk h.size) (fun h2 => h1 (hs k hk h2))).trans (h.block k hk h1)⟩
theorem Far.of_below {S : Nat → Prop} {a b : World} {B : Nat} (h : Below B a b) (hB : ∀ k, k < a.heap.size → B ≤ k → S k) : Far S a b :=
  ⟨h.os, h.tape, h.output, h.size, fun k hk h1 => h.block k (Nat.lt_of_not_le (fun h2 => h1 (hB k hk h2)))⟩
theorem Far.of_ext {S : Nat → Prop} {a b : World} (h : Below a.heap.size a b) : Far S a b := Far.of_below h (fun k hk h2 => by omega)
theorem Far.of_grown {S : Nat → Prop} {a b : World} {r : Option Nat} (h : a.grownBy b r) (hr : ∀ k, k < a.heap.size → r = some k → S k) : Far S a b :=
  ⟨h.os, h.tape, h.output, h.size, fun k hk h1 => h.block k hk (fun e => h1 (hr k hk e.symm))⟩
theorem Far.mono {S S' : Nat → Prop} {a b : World} (h : Far S a b) (hs : ∀ k, k < a.heap.size → S k → S' k) : Far S' a b :=
  ⟨h.os, h.tape, h.output, h.size, fun k hk h1 => h.block k hk (fun h2 => h1 (hs k hk h2))⟩
theorem Far.below {S : Nat → Prop} {a b : World} {B : Nat} (h : Far S a b) (hB : B ≤ a.heap.size) (hs : ∀ k, S k → B ≤ k) : Below B a b :=
  ⟨h.os, h.tape, h.output, h.size, fun k hk => h.block k (by omega) (fun h2 => by have := hs k h2; omega)⟩
theorem fz_al (W : World) (o : Obj) {g : Nat} (j : Nat) (h : W.frozen? ⟨g, j, none⟩ = false) (hg : g < W.heap.size) : (W.alloc o).drew.frozen? ⟨g, j, none⟩ = false := ((ext_alloc W o).frozen (p := ⟨g, j, none⟩) hg).trans h
section
variable {w w' : World}
theorem own_fars {S : Nat → Prop} {B e size n : Nat} {v : Value} {xs : List Value} (o : w.ownsRow B e size v n xs) (F : Far S w w') (hs : ∀ k, v.ownBlock = some k → ¬ S k) : w'.ownsRow B e size v n xs := by
  refine ⟨o.1, o.2.imp id ?_⟩
  rintro ⟨g, cap, cur, hv, hg, hcur, rest⟩
  exact ⟨g, cap, cur, hv, hg, (F.block g (Array.getElem?_eq_some_iff.1 hcur).1 (hs g (by rw [hv]; rfl))).trans hcur, rest⟩
theorem set_grownX {w : World} {g j : Nat} {u : Value} : w.grownBy (w.setCell ⟨g, j, none⟩ u) (some g) :=
  ⟨rfl, rfl, rfl, by simp [World.setCell], fun k _ hne => Below.heap_setCell _ _ _ _ (by simpa using hne)⟩
end
end Go.Proofs.Ytdcfenkllpfbaaa.Que
