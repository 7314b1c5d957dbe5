/-
  LAYER 32: a device's block; Clone.
-/
import Derived.Test.YtdljddghbkcddaaIt
import Derived.WalkLawsBesides
import Derived.WalkSpells
import Derived.Laws.OwnMore
import Derived.OwnWalk
import Derived.Deep.RegionHeld3
import Derived.Outline
namespace Go.Proofs.Ytdljddghbkcddaa
open Go.RowKit

theorem info49 : ∃ i z, Try.prog.info? 49 = some i ∧ i.zero = some z ∧ i.size = 8 ∧ i.bytes = 72 ∧ z.cells.size = 8 := by
  have h : (Try.prog.info? 49).map (fun i => (i.zero.map fun z => z.cells.size, i.size, i.bytes)) = some (some 8, 8, 72) := by kernel_rfl
  cases hi : Try.prog.info? 49 with
  | none => rw [hi] at h; cases h
  | some i =>
    rw [hi] at h
    simp only [Option.map_some, Option.some.injEq, Prod.mk.injEq] at h
    obtain ⟨h1, h2, h3⟩ := h
    cases hz : i.zero with
    | none => rw [hz] at h1; cases h1
    | some z => rw [hz] at h1; exact ⟨i, z, rfl, hz, h2, h3, by simpa using h1⟩
theorem own_base {w : World} {B B' e size n : Nat} {v : Value} {xs : List Value} (h : w.ownsRow B e size v n xs) (hB : B' ≤ B) : w.ownsRow B' e size v n xs := by
  refine ⟨h.1, h.2.imp id ?_⟩
  rintro ⟨g, cap, cur, hv, hg, rest⟩
  exact ⟨g, cap, cur, hv, Nat.le_trans hB hg, rest⟩
theorem own_keep {w w' : World} {B e size n : Nat} {v : Value} {xs : List Value} (h : w.ownsRow B e size v n xs) (hb : Below w.heap.size w w') : w'.ownsRow B e size v n xs := by
  refine ⟨h.1, h.2.imp id ?_⟩
  rintro ⟨g, cap, cur, hv, hg, hcur, rest⟩
  exact ⟨g, cap, cur, hv, hg, by rw [hb.block g (Array.getElem?_eq_some_iff.1 hcur).1]; exact hcur, rest⟩
theorem grown_trans {a b c : World} {m : Nat} (h : a.grownBy b (some m)) (k : b.grownBy c (some m)) : a.grownBy c (some m) :=
  ⟨k.os.trans h.os, k.tape.trans h.tape, k.output.trans h.output, Nat.le_trans h.size k.size, fun i hi hne => (k.block i (Nat.lt_of_lt_of_le hi h.size) hne).trans (h.block i hi hne)⟩
theorem grown_below {a b : World} {m B : Nat} (h : Below B a b) (hB : a.heap.size ≤ B) : a.grownBy b (some m) :=
  ⟨h.os, h.tape, h.output, h.size, fun i hi _ => h.block i (Nat.lt_of_lt_of_le hi hB)⟩
/-- An owned row of another type is not the block that is written. -/
theorem own_far {w : World} {B e t size n g : Nat} {v : Value} {xs : List Value} {cs : Array Value} (h : w.ownsRow B e size v n xs) (hg : w.heap[g]? = some (.cells cs t (0, 0))) (ht : t ≠ e) : some g ≠ v.ownBlock := by
  rcases h.2 with ⟨rfl, -⟩ | ⟨g', cap, cur, rfl, -, hcur, -⟩
  · simp [Value.ownBlock]
  · intro e'
    obtain rfl : g = g' := by simpa [Value.ownBlock] using e'
    rw [hg] at hcur
    simp at hcur
    exact ht hcur.2
theorem own_grown {w w' : World} {B e t size n g : Nat} {v : Value} {xs : List Value} {cs : Array Value} (h : w.ownsRow B e size v n xs) (hg : w.heap[g]? = some (.cells cs t (0, 0))) (ht : t ≠ e) (hgr : w.grownBy w' (some g)) : w'.ownsRow B e size v n xs :=
  h.kept hgr (.inr (own_far h hg ht).symm)
/-- A device's block, the program's (type 79) or the document's (33). -/
structure Dv (t : TypeId) (w : World) (g : Nat) (nm : ByteArray) (on : Bool) (v : Value) (L : List It) (n : Int) : Prop where
  row : w.heap[g]? = some (.cells #[.string nm, .bool on, v, .int .i64 n] t (0, 0))
  its : w.ownsRow 0 49 8 v L.length (itsAtC L)
  len : L.length * 72 ≤ 140737488351232
section
variable {t : TypeId} {w : World} {g : Nat} {nm : ByteArray} {on : Bool} {v : Value} {L : List It} {n : Int}
theorem Dv.lt (h : Dv t w g nm on v L n) : g < w.heap.size := (Array.getElem?_eq_some_iff.1 h.row).1
theorem Dv.cell (h : Dv t w g nm on v L n) : w.cell? ⟨g, 0, none⟩ = some (.string nm) ∧ w.cell? ⟨g, 1, none⟩ = some (.bool on) ∧ w.cell? ⟨g, 2, none⟩ = some v ∧ w.cell? ⟨g, 3, none⟩ = some (.int .i64 n) := by
  have c := fun j => cell_of_row w g j _ t (0, 0) h.row
  refine ⟨?_, ?_, ?_, ?_⟩ <;> (rw [c]; simp)
theorem Dv.free (h : Dv t w g nm on v L n) (j : Nat) : w.frozen? ⟨g, j, none⟩ = false := frozen_of_row w g j _ t h.row
theorem Dv.keep {w' : World} (h : Dv t w g nm on v L n) (hb : Below w.heap.size w w') : Dv t w' g nm on v L n :=
  ⟨(hb.block g h.lt).trans h.row, own_keep h.its hb, h.len⟩
theorem Dv.other {w' : World} {g' : Nat} (h : Dv t w g nm on v L n) (hg : w.grownBy w' (some g')) (hne : g ≠ g') (hfar : some g' ≠ v.ownBlock) : Dv t w' g nm on v L n :=
  ⟨(hg.block g h.lt (fun e => hne (Option.some.inj e))).trans h.row, h.its.kept hg (.inr hfar.symm), h.len⟩
theorem Dv.at (h : Dv t w g nm on v L n) : ItsAt w v L := ItsAt.of_own h.its h.len
end
/-- A slice of items reads as the cells one behind the other. -/
theorem its_cells {w : World} {b o : Nat} {L : List It} (h : ∀ i f, L[i]? = some f → ∀ j u, f.cells[j]? = some u → w.cell? ⟨b, o + i * 8 + j, none⟩ = some u) : ∀ j u, (itsAtC L)[j]? = some u → w.cell? ((⟨b, o, none⟩ : Addr).add j) = some u := by
  intro j u hj
  have hlt : j < L.length * 8 := by
    have := (List.getElem?_eq_some_iff.1 hj).1
    rwa [itsAtC_length] at this
  have hf : L[j / 8]? = some (L[j / 8]'(by omega)) := List.getElem?_eq_getElem (by omega)
  have hg := itsAtC_get L (j / 8) _ hf (j % 8) (Nat.mod_lt _ (by decide))
  rw [show j / 8 * 8 + j % 8 = j by omega, hj] at hg
  have hr := h (j / 8) _ hf (j % 8) u hg.symm
  rw [add_off', show o + j = o + j / 8 * 8 + j % 8 by omega]
  exact hr
def CloneP (L : List It) (w : World) (e : Ending) (w' : World) : Prop := ∃ v', e = .returned v' ∧ w'.ownsRow w.heap.size 49 8 v' L.length (itsAtC L) ∧ Below w.heap.size w w'
set_option maxHeartbeats 1000000 in
set_option maxRecDepth 100000 in
theorem clone_any (v : Value) (L : List It) (w : World) (h : ItsAt w v L) : Calls Try.prog 37 #[v] w (CloneP L w) := by
  have q22 : ∀ (w : World) (a : Option Addr) (n c n' c' : Nat), (binOp .eql 29 (.slice a n c) (.slice none n' c')).run Try.prog w = .ok (.bool a.isNone) w := fun w a n c n' c' => Lib.run_eql_slice_nil w _ _ a n c n' c' Try.underlying29
  obtain ⟨a, cap, rfl, hl, hc⟩ := h
  obtain ⟨i0, z, hi, hz0, hz1, hz2, hzs⟩ := info49
  cases a with
  | none =>
    have hL : L = [] := by
      rcases hc with h | ⟨b, o, h, -⟩
      · exact h
      · cases h
    subst hL
    clear hc
    go_enter Try.func37, Try.ntmps37
    go_wp2
    go_ret
    exact ⟨_, rfl, by simpa [itsAtC] using World.ownsRow_nil _ _ _ _, Below.refl _ _⟩
  | some ad =>
    have hcell : ∀ j u, (itsAtC L)[j]? = some u → w.cell? (ad.add j) = some u := by
      rcases hc with h | ⟨b, o, h, hlt, hcell⟩
      · subst h; intro j u hj; simp [itsAtC] at hj
      · simp only [Option.some.injEq] at h
        subst h
        exact its_cells hcell
    clear hc
    replace hcell := Lib.hid hcell
    replace hi := Lib.hid hi
    replace hz0 := Lib.hid hz0
    replace hz1 := Lib.hid hz1
    replace hz2 := Lib.hid hz2
    replace hzs := Lib.hid hzs
    go_enter Try.func37, Try.ntmps37
    go_wp2_with (at_builtin; refine wpList_append_own _ rfl _ _ 29 rfl w.heap.size 49 i0 z 8 72 Try.underlying29 hi.out hz0.out hz1.out hz2.out hzs.out (by decide) (.slice (some ⟨w.heap.size, 0, none⟩) 0 0) 0 [] rfl (World.ownsRow_made w #[] 0 (Nat.le_refl _) (Nat.zero_le _) (by simp)) ad L.length cap (itsAtC L) rfl (itsAtC_length L) (fun j u hj => Lib.cell?_alloc_some _ (hcell.out j u hj)) (itsAtC_one L) (by unfold maxLen; omega) (by omega) (by simp) ?_; intro v1 w1 o1 g1 n1)
    go_ret
    exact ⟨_, rfl, by simpa using o1, ((Below.refl _ w).alloc (Nat.le_refl _) _).grown g1 (by simp) (fun k hk => by simp [Value.ownBlock] at hk; omega)⟩
end Go.Proofs.Ytdljddghbkcddaa
