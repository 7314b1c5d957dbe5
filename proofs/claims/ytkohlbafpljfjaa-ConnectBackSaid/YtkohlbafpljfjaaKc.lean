/-
  LAYER 13: the program's Of.
-/
import Derived.Test.YtkohlbafpljfjaaKb
import Derived.Defers
import Derived.Recover
import Derived.Laws.Tables
import Derived.Laws.Rows
import Derived.FnLit
namespace Go.Proofs.Ytkohlbafpljfjaa.Con
set_option linter.unusedVariables false
set_option linter.unusedSimpArgs false
open Go.Proofs.Ytkohlbafpljfjaa
open Go.RowKit
def flE (f : Nat) : Int := if badF f then 10 else 0
theorem ands : ∀ f : Fin 256, bits .and .i64 ((f.val : Nat) : Int) 1 = ((f.val % 2 : Nat) : Int) ∧ bits .and .i64 ((f.val : Nat) : Int) 2 = ((2 * (f.val / 2 % 2) : Nat) : Int) ∧ bits .and .i64 ((f.val : Nat) : Int) 4 = ((4 * (f.val / 4 % 2) : Nat) : Int) ∧ bits .and .i64 ((f.val : Nat) : Int) 32 = ((32 * (f.val / 32 % 2) : Nat) : Int)
    ∧ bits .and .i64 ((f.val : Nat) : Int) 64 = ((64 * (f.val / 64 % 2) : Nat) : Int) ∧ bits .and .i64 ((f.val : Nat) : Int) 128 = ((128 * (f.val / 128 % 2) : Nat) : Int) ∧ bits .and .i64 (((f.val : Nat) : Int) / 8) 3 = ((f.val / 8 % 4 : Nat) : Int) := by decide +kernel
theorem and_at {f : Nat} (hf : f < 256) : bits .and .i64 (f : Int) 1 = ((f % 2 : Nat) : Int) ∧ bits .and .i64 (f : Int) 2 = ((2 * (f / 2 % 2) : Nat) : Int) ∧ bits .and .i64 (f : Int) 4 = ((4 * (f / 4 % 2) : Nat) : Int) ∧ bits .and .i64 (f : Int) 32 = ((32 * (f / 32 % 2) : Nat) : Int) ∧ bits .and .i64 (f : Int) 64 = ((64 * (f / 64 % 2) : Nat) : Int) ∧ bits .and .i64 (f : Int) 128 = ((128 * (f / 128 % 2) : Nat) : Int) ∧ bits .and .i64 ((f : Int) / 8) 3 = ((f / 8 % 4 : Nat) : Int) := ands ⟨f, hf⟩
set_option maxHeartbeats 4000000 in
theorem flags_any (f : Nat) (w : World) (hf : f < 256) : Calls Try.prog 38 #[.int .i64 (f : Int)] w fun e w' => e = .returned (.int .i64 (flE f)) ∧ w = w' := by
  obtain ⟨a1, a2, a4, a32, a64, a128, a3⟩ := and_at hf
  go_enter Try.func38, Try.ntmps38
  go_wp2_with fail
  all_goals
    clear a1 a2 a4 a32 a64 a128 a3
    try simp only [bne_iff_ne, beq_iff_eq, ne_eq, not_and, Bool.not_eq_true, beq_eq_false_iff_ne, Decidable.not_not, bne_eq_false_iff_eq] at *
    go_ret
    first
      | (have e0 : flE f = 10 := by (simp [flE, badF]; omega)
         rw [e0]; exact ⟨rfl, rfl⟩)
      | (have e0 : flE f = 0 := by (simp [flE, badF]; omega)
         rw [e0]; exact ⟨rfl, rfl⟩)
theorem set_row_grown (w : World) (g : Nat) (cs : Array Value) : w.grownBy (w.setRow g cs) (some g) :=
  ⟨rfl, rfl, rfl, by simp, fun i hi hne => setRow_other w g i cs (fun e => hne (by rw [e]))⟩
theorem con_one : con0.v.all (·.oneCell') = true := by kernel_rfl
theorem con_size : (Try.prog.info? 51).map (·.size) = some con0.v.size := by kernel_rfl
/-- Nothing but these two. -/
structure Two (a b : Nat) (w w' : World) : Prop where
  os : w'.os = w.os
  tape : w'.tape = w.tape
  output : w'.output = w.output
  size : w.heap.size ≤ w'.heap.size
  block : ∀ i, i < w.heap.size → i ≠ a → i ≠ b → w'.heap[i]? = w.heap[i]?
theorem Two.of_a {a b : Nat} {w w' : World} (h : w.grownBy w' (some a)) : Two a b w w' := ⟨h.os, h.tape, h.output, h.size, fun i hi h1 _ => h.block i hi (fun e => h1 (by simpa using e))⟩
theorem Two.of_b {a b : Nat} {w w' : World} (h : w.grownBy w' (some b)) : Two a b w w' := ⟨h.os, h.tape, h.output, h.size, fun i hi _ h2 => h.block i hi (fun e => h2 (by simpa using e))⟩
theorem Two.trans {a b : Nat} {w w' w2 : World} (h : Two a b w w') (k : Two a b w' w2) : Two a b w w2 :=
  ⟨k.os.trans h.os, k.tape.trans h.tape, k.output.trans h.output, Nat.le_trans h.size k.size, fun i hi h1 h2 => (k.block i (Nat.lt_of_lt_of_le hi h.size) h1 h2).trans (h.block i hi h1 h2)⟩
theorem Two.below {a b B : Nat} {w0 w w' : World} (h : Two a b w w') (hb : Below B w0 w) (hB : B ≤ w.heap.size) (ha : B ≤ a) (hb' : B ≤ b) : Below B w0 w' :=
  hb.trans ⟨h.os, h.tape, h.output, h.size, fun i hi => h.block i (by omega) (by omega) (by omega)⟩
variable {w w' : World} {k g bx be bf cv : Nat} {v : Value} {l : List Nat} {c : Cu} {X : Con} {f : Nat} {e0 : Int}
def Door (w : World) (bx be : Nat) (X : Con) (c : Cu) (f : Nat) (w' : World) : Prop :=
  Blk w' bx 51 (fin X c f).1.v ∧ Blk w' be 24 #[.int .i64 (fin X c f).2] ∧ Two bx be w w'
set_option maxHeartbeats 4000000 in
set_option maxRecDepth 100000 in
theorem door_any (hcv : Blk w cv 73 #[.pointer (some ⟨g, 0, none⟩)]) (hc : Cur w g k v l c) (hx : Blk w bx 51 X.v) (hf : Blk w bf 3 #[.int .i64 (f : Int)]) (he : Blk w be 24 #[.int .i64 e0]) (h8 : f < 256) (u : FrameMode) :
    CallsD Try.prog 34 #[.pointer (some ⟨cv, 0, none⟩), .pointer (some ⟨bx, 0, none⟩), .pointer (some ⟨bf, 0, none⟩), .pointer (some ⟨be, 0, none⟩)] u w fun e u' w' => u' = u ∧ (e = .returned (.tuple #[]) ∧ Door w bx be X c f w') := by
  have ne1 : bx ≠ be := fun e => by subst e; unfold Blk at hx he; rw [hx] at he; simp at he
  have ne2 : g ≠ bx := fun e => by subst e; have := hc.row; unfold Blk at hx; rw [hx] at this; simp at this
  have c0 : w.cell? ⟨cv, 0, none⟩ = some (.pointer (some ⟨g, 0, none⟩)) := (hcv.cell 0).trans rfl
  have g2 := hc.c2
  have fe := he.fz 0
  have e1 : w.cell? ⟨be, 0, none⟩ = some (.int .i64 e0) := (he.cell 0).trans rfl
  by_cases h0 : c.e = 0
  · have hd : (c.e != 0) = false := by simp [h0]
    have hfin : fin X c f = (wq X f, 0) := if_neg (fun x => x h0)
    unfold Door
    rw [hfin]
    obtain ⟨-, -, -, a32, -, -, a3⟩ := and_at h8
    have f1 : w.cell? ⟨bf, 0, none⟩ = some (.int .i64 (f : Int)) := (hf.cell 0).trans rfl
    have x4 : w.cell? ⟨bx, 4, none⟩ = some (.bool X.hasW) := (hx.cell 4).trans rfl
    rw [h0] at g2
    cases hw : X.hasW
    · have hq : wq X f = X := by unfold wq; rw [hw]; rfl
      rw [hq]
      rw [hw] at x4
      have S := Lib.hid (he.set 0 (.int .i64 0))
      have SX := Lib.hid (hx.far (p := ⟨be, 0, none⟩) ne1 (.int .i64 0))
      clear hcv hc hx hf he hq hfin
      go_enter_d Try.func34, Try.ntmps34
      go_wp2_with fail
      first | go_end0 | refine bodyPost_end (results_none rfl _ _ _) rfl ?_
      exact ⟨rfl, SX.out, S.out, .of_b set_grown⟩
    · obtain ⟨q, hq⟩ : ∃ q : Int, q = ((f / 8 % 4 : Nat) : Int) := ⟨_, rfl⟩
      obtain ⟨r, hr⟩ : ∃ r : Bool, r = (f / 32 % 2 == 1) := ⟨_, rfl⟩
      have a32r : (bits .and .i64 (f : Int) 32 != 0) = r := by
        rw [hr, a32]
        rcases (show f / 32 % 2 = 0 ∨ f / 32 % 2 = 1 by omega) with e | e <;> rw [e] <;> rfl
      rw [← hq] at a3
      have hw2 : (wq X f).v = (X.v.setIfInBounds 7 (.int .i64 q)).setIfInBounds 8 (.bool r) := by
        unfold wq
        rw [if_pos hw, ← hq, ← hr]
        rfl
      rw [hw2]
      rw [hw] at x4
      have x7 : w.cell? ⟨bx, 7, none⟩ = some (.int .i64 X.qos) := (hx.cell 7).trans rfl
      have z7 := hx.fz 7
      have hx2 := hx.set 7 (.int .i64 q)
      have x8 : (w.setCell ⟨bx, 7, none⟩ (.int .i64 q)).cell? ⟨bx, 8, none⟩ = some (.bool X.ret) := (hx2.cell 8).trans rfl
      have z8 := hx2.fz 8
      have hx3 := hx2.set 8 (.bool r)
      have S := Lib.hid (((he.far (p := ⟨bx, 7, none⟩) ne1.symm (.int .i64 q)).far (p := ⟨bx, 8, none⟩) ne1.symm (.bool r)).set 0 (.int .i64 0))
      have SX := Lib.hid (hx3.far (p := ⟨be, 0, none⟩) ne1 (.int .i64 0))
      clear hcv hc hx hf he hfin hx2 hx3 hw2 a32 hq hr
      go_enter_d Try.func34, Try.ntmps34
      go_wp2_with fail
      first | go_end0 | refine bodyPost_end (results_none rfl _ _ _) rfl ?_
      exact ⟨rfl, SX.out, S.out, ((Two.of_a set_grown).trans (.of_a set_grown)).trans (.of_b set_grown)⟩
  · have hd : (c.e != 0) = true := by simpa using h0
    have hfin : fin X c f = (con0, c.e) := if_pos h0
    unfold Door
    rw [hfin]
    have hg := set_row_grown w bx con0.v
    have ncv : some cv ≠ some bx := fun e => by
      obtain rfl : cv = bx := by simpa using e
      unfold Blk at hcv hx
      rw [hcv] at hx
      simp at hx
    have c0r : (w.setRow bx con0.v).cell? ⟨cv, 0, none⟩ = some (.pointer (some ⟨g, 0, none⟩)) := ((hcv.grown hg ncv).cell 0).trans rfl
    have g2r : (w.setRow bx con0.v).cell? ⟨g, 2, none⟩ = some (.int .i64 c.e) := (cell_setRow_other w bx con0.v ⟨g, 2, none⟩ ne2).trans g2
    have he2 := he.grown hg (fun e => ne1.symm (by simpa using e))
    have e1r : (w.setRow bx con0.v).cell? ⟨be, 0, none⟩ = some (.int .i64 e0) := (he2.cell 0).trans rfl
    have fer := he2.fz 0
    have HX := Lib.hid (show w.heap[bx]? = some (.cells X.v 51 (0, 0)) from hx)
    have S := Lib.hid (he2.set 0 (.int .i64 c.e))
    have SX : Hid (Blk ((w.setRow bx con0.v).setCell ⟨be, 0, none⟩ (.int .i64 c.e)) bx 51 con0.v) := Lib.hid (Blk.far (show (w.setRow bx con0.v).heap[bx]? = some (.cells con0.v 51 (0, 0)) from setRow_heap w bx X.v con0.v 51 (0, 0) hx) (p := ⟨be, 0, none⟩) ne1 _)
    have TW := Lib.hid ((Two.of_a (b := be) hg).trans (.of_b (set_grown (j := 0) (u := .int .i64 c.e))))
    clear hcv hc hx hf he hg ncv he2 hfin
    go_enter_d Try.func34, Try.ntmps34
    go_wp2_with (refine wpList_store_row rfl 51 (.tmp 1) (.tmp 9) rfl bx con0.v rfl rfl 51 X.v HX.out con_size rfl con_one ?_)
    first | go_end0 | refine bodyPost_end (results_none rfl _ _ _) rfl ?_
    exact ⟨rfl, SX.out, S.out, TW.out⟩
end Go.Proofs.Ytkohlbafpljfjaa.Con
