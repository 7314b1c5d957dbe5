/-
  LAYER 27: the document's store: find.
-/
import Derived.Test.YtfdaooaooalknaaQa
import Derived.Test.YtfdaooaooalknaaPc
import Derived.Deep.QuietTactic
import Derived.BigQuiet
namespace Go.Proofs.Ytfdaooaooalknaa
set_option linter.unusedVariables false
set_option linter.unusedSimpArgs false
open Go.RowKit Go.Maps Go.WideMaps
/-- The document's store in block gx holds the messages L; its rows lie from block B on. -/
structure Xs (w : World) (gx B : Nat) (L : List Mg) : Prop where
  blk : ∃ v, w.heap[gx]? = some (.cells #[v] 28 (0, 0)) ∧ w.ownsRow B 33 4 v L.length (msAtC L)
  lt : gx < B
section
variable {w w' : World} {gx B : Nat} {L : List Mg} {v : Value}
/-- Nothing below B has turned but block gx. -/
structure Aw (B gx : Nat) (w w' : World) : Prop where
  os : w'.os = w.os
  tape : w'.tape = w.tape
  output : w'.output = w.output
  size : w.heap.size ≤ w'.heap.size
  block : ∀ k, k < B → k ≠ gx → w'.heap[k]? = w.heap[k]?
theorem Aw.of {w w' : World} (h : Below B w w') : Aw B gx w w' := ⟨h.os, h.tape, h.output, h.size, fun k hk _ => h.block k hk⟩
theorem Aw.trans {a b c : World} (h : Aw B gx a b) (k : Aw B gx b c) : Aw B gx a c := ⟨k.os.trans h.os, k.tape.trans h.tape, k.output.trans h.output, Nat.le_trans h.size k.size, fun i hi hn => (k.block i hi hn).trans (h.block i hi hn)⟩
theorem Aw.below {a b : World} (h : Aw B gx a b) {C : Nat} (hC : C ≤ gx) (hB : C ≤ B) : Below C a b := ⟨h.os, h.tape, h.output, h.size, fun k hk => h.block k (by omega) (by omega)⟩
theorem Xs.kept (h : Xs w gx B L) (hb : Below w.heap.size w w') : Xs w' gx B L := by
  obtain ⟨v, h1, h2⟩ := h.blk
  exact ⟨⟨v, (hb.block gx (Array.getElem?_eq_some_iff.1 h1).1).trans h1, h2.kept (none_of hb) (by cases hv : v.ownBlock <;> simp)⟩, h.lt⟩
theorem Xs.drewN (h : Xs w gx B L) (n : Nat) : Xs (w.drewN n) gx B L := h.kept (below_drewN (Below.refl _ _) n)
theorem msAtC_nth {f : Mg} {k : Nat} (hf : L[k]? = some f) : ∀ j u, f.cells[j]? = some u → (msAtC L)[k * 4 + j]? = some u := fun j u hu => by
  rw [msAtC_get L k f hf j (by have := (List.getElem?_eq_some_iff.1 hu).1; rw [Mg.cells_len] at this; exact this)]
  exact hu
/-- The k-th message's cells. -/
theorem row_at {f : Mg} {k : Nat} (h : w.ownsRow B 33 4 v L.length (msAtC L)) (hf : L[k]? = some f) :
    ∃ g cap, v = .slice (some ⟨g, 0, none⟩) L.length cap ∧ B ≤ g ∧ g < w.heap.size ∧ w.cell? ⟨g, k * 4, none⟩ = some (.string f.a0) ∧ w.cell? ⟨g, k * 4 + 1, none⟩ = some (.string f.a1) ∧ w.cell? ⟨g, k * 4 + 2, none⟩ = some (.int .i64 f.a2) ∧ w.cell? ⟨g, k * 4 + 3, none⟩ = some (.bool f.a3) ∧ ∀ j, w.frozen? ⟨g, j, none⟩ = false := by
  obtain ⟨h1, h2⟩ := h
  rcases h2 with ⟨-, hn⟩ | ⟨g, cap, cur, rfl, hb, hg, hnc, hcm, hcs, ht⟩
  · have := (List.getElem?_eq_some_iff.1 hf).1
    omega
  · have c : ∀ j u, f.cells[j]? = some u → w.cell? ⟨g, k * 4 + j, none⟩ = some u := fun j u hu => by
      rw [cell_of_row w g _ cur 33 (0, 0) hg]
      have hx := msAtC_nth hf j u hu
      rw [← ht, List.getElem?_take] at hx
      split at hx
      · rw [← hx]; simp
      · cases hx
    exact ⟨g, cap, rfl, hb, (Array.getElem?_eq_some_iff.1 hg).1, c 0 _ rfl, c 1 _ rfl, c 2 _ rfl, c 3 _ rfl, fun j => frozen_of_row w g j cur 33 hg⟩
end
theorem pr_le (t : ByteArray) (L : List Mg) : (pr t L).length ≤ L.length := by
  have := congrArg List.length (pr_po t L)
  rw [List.length_append] at this
  omega
theorem pr_at {t : ByteArray} {L : List Mg} {k : Nat} {f : Mg} (hk : k < (pr t L).length) (hf : L[k]? = some f) : f.a0.toList < t.toList := by
  rw [← pr_po t L, List.getElem?_append_left hk] at hf
  exact pr_lt f (List.mem_of_getElem? hf)
theorem po_at {t : ByteArray} {L : List Mg} : L[(pr t L).length]? = (po t L)[0]? := by
  have h : (pr t L ++ po t L)[(pr t L).length]? = (po t L)[0]? := by rw [List.getElem?_append_right (Nat.le_refl _), Nat.sub_self]
  rwa [pr_po] at h
set_option maxHeartbeats 4000000 in
set_option maxRecDepth 100000 in
theorem xfind (w : World) (gx B : Nat) (L : List Mg) (t : ByteArray) (h : Xs w gx B L) (hl : L.length ≤ 1000) :
    Calls Try.prog 20 #[.pointer (some ⟨gx, 0, none⟩), .string t] w fun e w' => e = .returned (.tuple #[.int .i64 ((pr t L).length : Nat), .bool (thr t L)]) ∧ ∃ n, w' = w.drewN n := by
  obtain ⟨v, h1, h2⟩ := h.blk
  have c0 : w.cell? ⟨gx, 0, none⟩ = some v := by rw [cell_of_row w gx 0 _ 28 (0, 0) h1]; rfl
  have hle := pr_le t L
  have hll : (L.length : Int) ≤ 1000 := by omega
  obtain ⟨va, vc, rfl⟩ := own_slice h2
  have R := Lib.hid (fun k f (hf : L[k]? = some f) => row_at h2 hf)
  clear h h1 h2
  obtain ⟨n0, hn0⟩ : ∃ n0, n0 = (pr t L).length := ⟨_, rfl⟩
  obtain ⟨t0, ht0⟩ : ∃ t0, t0 = thr t L := ⟨_, rfl⟩
  rw [← hn0, ← ht0]
  rw [← hn0] at hle
  replace hn0 := Lib.hid hn0
  replace ht0 := Lib.hid ht0
  go_enter Try.func20, Try.ntmps20
  go_wp2_with fail
  go_loopw [6] (fun iv wr => ∃ k : Nat, iv = .int .i64 (k : Int) ∧ k ≤ n0 ∧ wr = w) (fun iv _ => L.length - (intOf iv).toNat)
  case atStart => exact ⟨0, rfl, by omega, by first | rfl | trivial⟩
  case round =>
    obtain ⟨k, rfl, hk, rfl⟩ := hrel
    by_cases hlt : k < n0
    · have hkl : k < L.length := by omega
      obtain ⟨f, hf⟩ : ∃ f, L[k]? = some f := ⟨_, List.getElem?_eq_getElem hkl⟩
      obtain ⟨g, cap, e, -, -, d0, -⟩ := R.out k f hf
      simp only [Value.slice.injEq] at e
      obtain ⟨rfl, -, rfl⟩ := e
      have hb : Op.bytesLess f.a0.toList t.toList = true := by rw [lt_list, decide_eq_true_eq]; exact pr_at (by rw [← hn0.out]; exact hlt) hf
      have hkl' : (k : Int) < (L.length : Int) := by omega
      replace hf := Lib.hid hf
      replace hlt := Lib.hid hlt
      go_wp2_with fail
      go_roundw
      case rel => exact ⟨k + 1, by simp, hlt.out, by first | rfl | trivial⟩
      case measure => simp [intOf]; omega
    · obtain rfl : k = n0 := by omega
      have hpo : L[k]? = (po t L)[0]? := by rw [hn0.out]; exact po_at
      clear hlt hk
      cases hp : po t L with
      | nil =>
        rw [hp] at hpo
        have hnl : ¬ k < L.length := fun hx => by rw [List.getElem?_eq_getElem hx] at hpo; simp at hpo
        have hnl' : ¬ (k : Int) < (L.length : Int) := by omega
        have hth : t0 = false := by rw [ht0.out]; unfold thr; rw [hp]
        subst hth
        replace hpo := Lib.hid hpo
        replace hp := Lib.hid hp
        go_wp2_with fail
        go_quiet (fail)
        go_wp2_with fail
        go_ret2
        exact ⟨rfl, _, rfl⟩
      | cons f r =>
        rw [hp] at hpo
        have hf : L[k]? = some f := hpo
        have hkl : k < L.length := (List.getElem?_eq_some_iff.1 hf).1
        obtain ⟨g, cap, e, -, -, d0, -⟩ := R.out k f hf
        simp only [Value.slice.injEq] at e
        obtain ⟨rfl, -, rfl⟩ := e
        have hb : Op.bytesLess f.a0.toList t.toList = false := by rw [lt_list, decide_eq_false_iff_not]; exact po_head hp
        have hkl' : (k : Int) < (L.length : Int) := by omega
        have hth : t0 = decide (f.a0 = t) := by rw [ht0.out]; unfold thr; rw [hp]
        have hse := str_eq f.a0 t
        rw [← hth] at hse
        replace hth := Lib.hid hth
        replace hf := Lib.hid hf
        replace hpo := Lib.hid hpo
        replace hp := Lib.hid hp
        go_wp2_with fail
        go_quiet (fail)
        go_wp2_with fail
        go_ret2
        exact ⟨rfl, _, rfl⟩
end Go.Proofs.Ytfdaooaooalknaa
