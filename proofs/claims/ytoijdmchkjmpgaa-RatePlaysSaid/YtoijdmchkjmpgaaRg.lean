/-
  LAYER 35: the document's rate: find.
-/
import Derived.Test.YtoijdmchkjmpgaaRe
namespace Go.Proofs.Ytoijdmchkjmpgaa.Rte
open Go.RowKit Que Hp Hg
/-- The document's rate in block x. -/
structure Xr (B : Nat) (w : World) (x : Nat) (gap : Int) (v : Value) (L : List Gr) : Prop where
  row : w.heap[x]? = some (.cells #[.int .i64 gap, v] 85 (0, 0))
  its : w.ownsRow B 89 2 v L.length (grC L)
section
variable {B : Nat} {w w' : World} {x : Nat} {gap : Int} {v : Value} {L : List Gr}
theorem Xr.lt (h : Xr B w x gap v L) : x < w.heap.size := (Array.getElem?_eq_some_iff.1 h.row).1
theorem Xr.c0 (h : Xr B w x gap v L) : w.cell? ⟨x, 0, none⟩ = some (.int .i64 gap) := cell_of_row w x 0 _ 85 (0, 0) h.row
theorem Xr.c1 (h : Xr B w x gap v L) : w.cell? ⟨x, 1, none⟩ = some v := cell_of_row w x 1 _ 85 (0, 0) h.row
theorem Xr.fz (h : Xr B w x gap v L) (j : Nat) : w.frozen? ⟨x, j, none⟩ = false := frozen_of_row w x j _ 85 h.row
theorem Xr.keep (h : Xr B w x gap v L) (hb : Below w.heap.size w w') : Xr B w' x gap v L := ⟨(hb.block x h.lt).trans h.row, own_keep h.its hb⟩
theorem Xr.far {S : Nat → Prop} (h : Xr B w x gap v L) (F : Far S w w') (h1 : ¬ S x) (h2 : ∀ k, v.ownBlock = some k → ¬ S k) : Xr B w' x gap v L :=
  ⟨(F.block x h.lt h1).trans h.row, own_fars h.its F h2⟩
theorem Xr.at (h : Xr B w x gap v L) {gb n cb : Nat} (hv : v = .slice (some ⟨gb, 0, none⟩) n cb) {k : Nat} {e : Gr} (hk : L[k]? = some e) : w.cell? ⟨gb, k * 2, none⟩ = some (.string e.k) ∧ w.cell? ⟨gb, k * 2 + 1, none⟩ = some (.int .i64 e.t) := by
  subst hv
  exact ⟨own_get h.its (by have := grC_get L k e hk 0 (by omega); simpa [Gr.cells] using this), own_get h.its (by have := grC_get L k e hk 1 (by omega); simpa [Gr.cells] using this)⟩
def ltS (a b : ByteArray) : Bool := Op.bytesLess a.toList b.toList
/-- Where a key stands, or would stand. -/
def px (L : List Gr) (k : ByteArray) : Nat := L.findIdx fun e => !ltS e.k k
theorem px_lo {L : List Gr} {k : ByteArray} {j : Nat} {e : Gr} (h : j < px L k) (he : L[j]? = some e) : ltS e.k k = true := by
  have hj := (List.getElem?_eq_some_iff.1 he).1
  unfold px at h
  have := List.not_of_lt_findIdx (xs := L) (p := fun e : Gr => !ltS e.k k) (i := j) h
  rw [(List.getElem?_eq_some_iff.1 he).2] at this
  simpa using this
theorem px_hit {L : List Gr} {k : ByteArray} {e : Gr} (he : L[px L k]? = some e) : ltS e.k k = false := by
  have hj := (List.getElem?_eq_some_iff.1 he).1
  unfold px at hj he
  have := List.findIdx_getElem (xs := L) (p := fun e : Gr => !ltS e.k k) (w := hj)
  rw [(List.getElem?_eq_some_iff.1 he).2] at this
  simpa using this
def thr (L : List Gr) (k : ByteArray) : Bool := match L[px L k]? with
  | some e => decide (e.k = k)
  | none => false
set_option maxHeartbeats 2000000 in
set_option maxRecDepth 100000 in
theorem xfind_any (h : Xr B w x gap v L) (hL : L.length ≤ 1000) (k : ByteArray) : Calls Try.prog 59 #[.pointer (some ⟨x, 0, none⟩), .string k] w fun e w' => e = .returned (.tuple #[.int .i64 (px L k : Nat), .bool (thr L k)]) ∧ ∃ m, w.drewN m = w' := by
  have c1 := h.c1
  obtain ⟨a, c, hv⟩ := own_slice h.its
  rw [hv] at c1
  have hL' : (L.length : Int) ≤ 1000 := by omega
  have hpl : px L k ≤ L.length := List.findIdx_le_length
  replace h := Lib.hid h
  replace hv := Lib.hid hv
  go_enter Try.func59, Try.ntmps59
  go_wp2_with fail
  go_loopw [6] (fun iv wr => ∃ i : Nat, iv = .int .i64 (i : Int) ∧ i ≤ px L k ∧ w = wr) (fun iv _ => L.length - (intOf iv).toNat)
  case atStart => exact ⟨0, rfl, by omega, rfl⟩
  case round =>
    obtain ⟨i, rfl, hi, rfl⟩ := hrel
    by_cases hlt : i < L.length
    · have hlt' : (i : Int) < (L.length : Int) := by omega
      obtain ⟨e, he⟩ : ∃ e, L[i]? = some e := ⟨_, List.getElem?_eq_getElem hlt⟩
      obtain ⟨gb, cb, hv2⟩ := own_slice' h.out.its (by omega)
      obtain ⟨q0, q1⟩ := h.out.at hv2 he
      rw [hv.out] at hv2
      simp only [Value.slice.injEq] at hv2
      obtain ⟨rfl, -, rfl⟩ := hv2
      by_cases hq : i < px L k
      · have hl := px_lo hq he
        have hl2 : Op.bytesLess e.k.toList k.toList = true := hl
        replace he := Lib.hid he
        replace hl := Lib.hid hl
        go_wp2_with fail
        go_roundw
        case rel => exact ⟨i + 1, by simp, by omega, trivial⟩
        case measure => simp [intOf]; omega
      · have hqe : px L k = i := by omega
        have hl : ltS e.k k = false := px_hit (by rw [hqe]; exact he)
        have hl2 : Op.bytesLess e.k.toList k.toList = false := hl
        have ht : thr L k = decide (e.k = k) := by unfold thr; rw [hqe, he]
        replace he := Lib.hid he
        replace hl := Lib.hid hl
        replace ht := Lib.hid ht
        subst hqe
        clear hq hpl hi
        go_wp2_with fail
        go_region
        all_goals
          go_wp2_with fail
          go_ret2
          exact ⟨by rw [ht.out, ← eqS]; rfl, by first | exact ⟨0, rfl⟩ | exact ⟨1, rfl⟩ | exact ⟨_, rfl⟩⟩
    · have hqe : px L k = i := by omega
      have hie : i = L.length := by omega
      have ht : thr L k = false := by unfold thr; rw [hqe, List.getElem?_eq_none (by omega)]
      replace ht := Lib.hid ht
      replace hqe := Lib.hid hqe
      subst hie
      clear hpl hi hlt
      go_wp2_with fail
      go_region
      all_goals
        go_wp2_with fail
        go_ret2
        exact ⟨by rw [ht.out, hqe.out]; rfl, by first | exact ⟨0, rfl⟩ | exact ⟨1, rfl⟩ | exact ⟨_, rfl⟩⟩
end
end Go.Proofs.Ytoijdmchkjmpgaa.Rte
