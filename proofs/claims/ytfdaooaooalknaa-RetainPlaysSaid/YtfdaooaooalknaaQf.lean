/-
  LAYER 27: both stores.
-/
import Derived.Test.YtfdaooaooalknaaQd
import Derived.Test.YtfdaooaooalknaaQe
import Derived.Test.YtfdaooaooalknaaPd
import Derived.Test.YtfdaooaooalknaaSts
namespace Go.Proofs.Ytfdaooaooalknaa
set_option linter.unusedVariables false
set_option linter.unusedSimpArgs false
open Go.RowKit Go.Maps Go.WideMaps
theorem kH_eq {D : DataW Value} {L : List Mg} (h : Lst D (fun _ => true) L) (hg : Good D) (t x : ByteArray) : kH D t x = xH L t x := by
  have e := thr_has h hg t
  unfold kH xH
  rw [e]
  split
  · rfl
  · split
    · rfl
    · split
      · rename_i h3; exact h3.1.symm
      · rfl
theorem kE_eq {D : DataW Value} {L : List Mg} (h : Lst D (fun _ => true) L) (hg : Good D) (hf : L.length = size D) (t x : ByteArray) : kE D t x = xE L t x := by
  have e := thr_has h hg t
  unfold kE xE
  rw [e, hf]
theorem Xs.els {w w' : World} {gx B g : Nat} {L : List Mg} (h : Xs w gx B L) (hb : Below g w w') (he : Els w w' g) (hg : g < B) (hne : g ≠ gx) : Xs w' gx B L := by
  obtain ⟨v, h1, h2⟩ := h.blk
  have G : w.grownBy w' (some g) := ⟨hb.os, hb.tape, hb.output, hb.size, fun i hi hn => he i hi (fun e => hn (by rw [e]))⟩
  exact ⟨⟨v, (he gx (Array.getElem?_eq_some_iff.1 h1).1 hne.symm).trans h1, h2.kept G (.inr (own_ne h2 hg).symm)⟩, h.lt⟩
/-- Both stores, as they stand behind any calls. -/
structure Bth (w wr : World) (k : Nat) (D : DataW Value) (L : List Mg) : Prop where
  sv : Sv wr (w.heap.size + 1) w.heap.size k D
  gd : Good D
  xs : Xs wr (w.heap.size + 2) (w.heap.size + 3) L
  ls : Lst D (fun _ => true) L
  bw : Below w.heap.size w wr
  sz : w.heap.size + 3 ≤ wr.heap.size
section
variable {w wr w' : World} {k : Nat} {D : DataW Value} {L : List Mg}
theorem Bth.full (h : Bth w wr k D L) : L.length = size D := h.ls.full h.gd (h.sv.own.entries law9)
theorem Bth.le (h : Bth w wr k D L) : L.length ≤ 32 := by rw [h.full]; exact h.gd.le
theorem Bth.keep (h : Bth w wr k D L) (hb : Below wr.heap.size wr w') : Bth w w' k D L :=
  ⟨h.sv.keep hb, h.gd, h.xs.kept hb, h.ls, h.bw.trans (hb.mono h.bw.size), Nat.le_trans h.sz hb.size⟩
theorem Bth.small (h : Bth w wr k D L) : ∀ f ∈ L, f.a0.size ≤ 96 := fun f hf => name_small (h.ls.inn f hf).2.2.2.1
theorem bth_start (w : World) : Bth w (((w.alloc (.map #[] 0)).alloc (.cells #[.map (some w.heap.size)] 48)).alloc (.cells #[.slice none 0 0] 28)) 0 (.map []) [] := by
  have e : ((w.alloc (.map #[] 0)).alloc (.cells #[.map (some w.heap.size)] 48)).heap.size = w.heap.size + 2 := by simp
  refine ⟨(new_sv w).keep (ext_alloc _ _), good_start, ⟨⟨.slice none 0 0, ?_, by simpa [msAtC] using World.ownsRow_nil _ _ _ _⟩, by omega⟩, ⟨fun f hf => absurd hf (by simp), fun f _ hi => absurd (has_true_of_atKey hi.2.2.2) (by simp [has]), List.Pairwise.nil, by simp⟩, ?_, by simp⟩
  · have := heap_alloc_new ((w.alloc (.map #[] 0)).alloc (.cells #[.map (some w.heap.size)] 48)) (.cells #[.slice none 0 0] 28)
    rwa [e] at this
  · exact (((Below.refl w.heap.size w).alloc (Nat.le_refl _) _).alloc (by simp) _).alloc (by simp; omega) _
/-- Keep of both. -/
theorem bth_keep (h : Bth w wr k D L) (hk : k ≤ 1000) (t x : ByteArray) (q : Int) (r : Bool) (ht : t.size ≤ 140737488351232) :
    Calls Try.prog 6 #[.pointer (some ⟨w.heap.size + 1, 0, none⟩), .agg #[.string t, .string x, .int .i64 q, .bool r]] wr fun e w3 => e = .returned (.tuple #[.bool (xH L t x), .int .i64 (xE L t x)]) ∧ w.heap.size + 3 ≤ w3.heap.size ∧
      Below w.heap.size wr w3 ∧ Calls Try.prog 7 #[.pointer (some ⟨w.heap.size + 2, 0, none⟩), .agg #[.string t, .string x, .int .i64 q, .bool r]] w3 fun e w4 => e = .returned (.tuple #[.bool (xH L t x), .int .i64 (xE L t x)]) ∧ Below w.heap.size w3 w4 ∧ Bth w w4 (k + 1) (kD D t x q) (kL L t x q) := by
  refine (keep_any wr (w.heap.size + 1) w.heap.size w.heap.size k D t x q r h.sv (by omega) (Nat.le_refl _) hk ht).mono ?_
  rintro e w3 ⟨rfl, sv3, b3, els3⟩
  have X3 := h.xs.els b3 els3 (by omega) (by omega)
  have z3 := Nat.le_trans h.sz b3.size
  refine ⟨by rw [kH_eq h.ls h.gd, kE_eq h.ls h.gd h.full], z3, b3, ?_⟩
  refine (xkeep w3 (w.heap.size + 2) (w.heap.size + 3) L t x q r X3 h.ls.up h.le z3 ht).mono ?_
  rintro e w4 ⟨rfl, X4, A4⟩
  have B4 := A4.below (C := w.heap.size + 2) (Nat.le_refl _) (by omega)
  have b4 := A4.below (C := w.heap.size) (by omega) (by omega)
  exact ⟨rfl, b4, sv3.keepB B4 (by omega) (by omega), good_keep h.gd (h.sv.own.tidy law9) t x q, X4, kL_lst h.ls h.gd (h.sv.own.tidy law9) h.full t x q, (h.bw.trans b3).trans b4, Nat.le_trans z3 A4.size⟩
/-- Get of the program answers as the document's. -/
theorem bth_get (h : Bth w wr k D L) (t : ByteArray) (ht : t.size ≤ 140737488351232) : Calls Try.prog 9 #[.pointer (some ⟨w.heap.size + 1, 0, none⟩), .string t] wr (Ret (.tuple #[mV (xg t L).a0 (xg t L).a1 (xg t L).a2 (xg t L).a3, .bool (thr t L)]) wr) := by
  obtain ⟨a, b, c, d, hat, G⟩ := get_any wr (w.heap.size + 1) w.heap.size k D t h.sv ht
  have e := thr_has h.ls h.gd t
  rw [← e] at G
  have ee : mV a b c d = mV (xg t L).a0 (xg t L).a1 (xg t L).a2 (xg t L).a3 := by
    cases hth : thr t L with
    | false =>
      rw [atKey_of_not_has (by rw [← e]; exact hth)] at hat
      have : xg t L = default := by unfold xg; rw [hth]; rfl
      rw [this]
      have : zM = mV a b c d := by simpa using hat
      rw [← this]
      rfl
    | true =>
      obtain ⟨f0, rr, g0, g1, g2, -⟩ := there_yes h.ls.up hth
      have hx : xg t L = f0 := by unfold xg; rw [hth, g0]; rfl
      rw [hx]
      have e2 : D.atKey (kS t) (.held zM) = .held (mV f0.a0 f0.a1 f0.a2 f0.a3) := by
        have := (h.ls.inn f0 (by rw [g2]; simp)).2.2.2.2 (.held zM)
        rw [← g1]; exact this
      rw [hat] at e2
      simpa using e2
  rw [ee] at G
  exact G
end
end Go.Proofs.Ytfdaooaooalknaa
