/-
  LAYER 3: the program's reader: its numbers.
-/
import Derived.Test.YtoglgdkeknojkaaWh
import Derived.StillTailTactics
import Derived.Deep.QuietTactic
import Derived.Deep.DeepMust
import Derived.Deep.RegionHeld
namespace Go.Proofs.Ytoglgdkeknojkaa
open Go.RowKit

def ul (l : List Nat) : List Value := l.map fun x : Nat => .int .u64 (x : Int)
/-- Blocks of other kinds than the reader's stay. -/
def KeepT (w w' : World) : Prop := ∀ g t cs, t ≠ 22 → t ≠ 74 → Blk w g t cs → Blk w' g t cs
theorem KeepT.refl (w : World) : KeepT w w := fun _ _ _ _ _ h => h
theorem KeepT.trans {a b c : World} (h : KeepT a b) (k : KeepT b c) : KeepT a c := fun g t cs h1 h2 hb => k g t cs h1 h2 (h g t cs h1 h2 hb)
theorem KeepT.ext {w w' : World} (hb : Below w.heap.size w w') : KeepT w w' := fun _ _ _ _ _ h => h.ext hb
theorem KeepT.set {w : World} {r : Nat} {cs : Array Value} (h : Blk w r 74 cs) (i : Nat) (u : Value) : KeepT w (w.setCell ⟨r, i, none⟩ u) := fun g t cs' h1 h2 hb => by
  refine hb.far ?_ u
  intro hg
  simp only at hg
  subst hg
  unfold Blk at h hb
  rw [h] at hb
  simp only [Option.some.injEq, Obj.cells.injEq] at hb
  exact h2 hb.2.1.symm
theorem KeepT.grown {w w' : World} {B n : Nat} {v : Value} {xs : List Value} (h : w.ownsRow B 22 1 v n xs) (hg : w.grownBy w' v.ownBlock) : KeepT w w' := fun _ _ _ h1 _ hb => hb.grown hg (own_type h hb h1)
theorem KeepT.own {w w' : World} (h : KeepT w w') {B e size n : Nat} {v : Value} {xs : List Value} (ho : w.ownsRow B e size v n xs) (h1 : e ≠ 22) (h2 : e ≠ 74) : w'.ownsRow B e size v n xs := by
  rcases ho.2 with hn | ⟨g, cap, cur, rfl, hb, hgg, rest⟩
  · exact ⟨ho.1, .inl hn⟩
  · exact ⟨ho.1, .inr ⟨g, cap, cur, rfl, hb, h g e cur h1 h2 hgg, rest⟩⟩
/-- The reader r stands at a place of v, its groups op are open. -/
def RS (w0 w : World) (r : Nat) (v : Value) (place : Nat) (op : List Nat) : Prop :=
  ∃ ov, Blk w r 74 #[v, .int .i64 (place : Nat), ov] ∧ w.ownsRow w0.heap.size 22 1 ov op.length (ul op) ∧ w0.heap.size ≤ r ∧ Below w0.heap.size w0 w
theorem RS.ext {w0 w w' : World} {r : Nat} {v : Value} {place : Nat} {op : List Nat} (h : RS w0 w r v place op) (hb : Below w.heap.size w w') : RS w0 w' r v place op := by
  obtain ⟨ov, h1, h2, h3, h4⟩ := h
  exact ⟨ov, h1.ext hb, own_below h2 hb, h3, ext_trans h4 hb⟩
theorem RS.move {w0 w : World} {r : Nat} {v : Value} {place : Nat} {op : List Nat} (h : RS w0 w r v place op) (k : Nat) : RS w0 (w.setCell ⟨r, 1, none⟩ (.int .i64 (k : Nat))) r v k op := by
  obtain ⟨ov, h1, h2, h3, h4⟩ := h
  refine ⟨ov, by simpa using h1.set 1 (.int .i64 (k : Nat)), ?_, h3, h4.setCell h3 _⟩
  exact h2.kept (gset w r 1 _) (by
    have := own_type h2 h1 (by decide)
    exact .inr (fun e => this e.symm))
theorem RS.keepMove {w0 w : World} {r : Nat} {v : Value} {place : Nat} {op : List Nat} (h : RS w0 w r v place op) (k : Value) : KeepT w (w.setCell ⟨r, 1, none⟩ k) := by
  obtain ⟨ov, h1, h2, h3, h4⟩ := h
  exact KeepT.set h1 1 k
theorem RS.below {w0 w : World} {r : Nat} {v : Value} {place : Nat} {op : List Nat} (h : RS w0 w r v place op) : Below w0.heap.size w0 w := h.choose_spec.2.2.2
theorem pget_ok (v : Value) (l : List Nat) (k : Nat) (w : World) (hS : Src w v l) (h : ∀ x ∈ l, x < 256) (hl : l.length ≤ 140737488355328) (hk : k ≤ l.length) (h0 : gE l k = 0) :
    Calls Try.prog 63 #[v, .int .i64 (k : Int)] w fun e w' => e = .returned (.tuple #[.int .u64 (gN l k : Nat), .int .i64 (gAt l k : Nat), .int .i64 0]) ∧ Below w.heap.size w w' := by
  refine (get_any v l k w hS h hl hk).mono ?_
  rintro e w' ⟨rfl, hb⟩
  exact ⟨by rw [getV_ok h0], hb⟩
theorem pget_no (v : Value) (l : List Nat) (k : Nat) (w : World) (hS : Src w v l) (h : ∀ x ∈ l, x < 256) (hl : l.length ≤ 140737488355328) (hk : k ≤ l.length) (h0 : gE l k ≠ 0) :
    Calls Try.prog 63 #[v, .int .i64 (k : Int)] w fun e w' => e = .returned (.tuple #[.int .u64 (gN l k : Nat), .int .i64 0, .int .i64 (gE l k : Nat)]) ∧ Below w.heap.size w w' := by
  refine (get_any v l k w hS h hl hk).mono ?_
  rintro e w' ⟨rfl, hb⟩
  exact ⟨by rw [getV_no h0], hb⟩
def NumIs (l : List Nat) (w0 : World) (r : Nat) (v : Value) (k : Nat) (op : List Nat) (w : World) (e : Ending) (w' : World) : Prop :=
  ((gE l k = 0 ∧ e = .returned (.tuple #[.int .u64 (gN l k : Nat), .int .i64 0]) ∧ RS w0 w' r v (gAt l k) op) ∨ (gE l k ≠ 0 ∧ e = .returned (.tuple #[.int .u64 (gN l k : Nat), .int .i64 (gE l k : Nat)]) ∧ RS w0 w' r v k op)) ∧ KeepT w w'
set_option maxHeartbeats 1000000 in
set_option maxRecDepth 100000 in
theorem num_any (v : Value) (l : List Nat) (k r : Nat) (op : List Nat) (w0 w : World) (hS : Src w0 v l) (h : ∀ x ∈ l, x < 256) (hl : l.length ≤ 140737488355328) (hk : k ≤ l.length) (hR : RS w0 w r v k op) :
    Calls Try.prog 52 #[.pointer (some ⟨r, 0, none⟩)] w (NumIs l w0 r v k op w) := by
  have bd := Lib.hid (hR.below.drew)
  have G1 := Lib.hid fun h0 => pget_ok v l k w.drew (hS.keep bd.out (Nat.le_refl _)) h hl hk h0
  have G2 := Lib.hid fun h0 => pget_no v l k w.drew (hS.keep bd.out (Nat.le_refl _)) h hl hk h0
  obtain ⟨aa, cap, rfl, hcl, hcm, hcn, -⟩ := hS
  obtain ⟨ov, hB, hrest⟩ := id hR
  have hrl := Lib.hid hB.lt
  have d0 : w.cell? ⟨r, 0, none⟩ = some (.slice aa l.length cap) := hB.cell 0
  have d1 : w.cell? ⟨r, 1, none⟩ = some (.int .i64 (k : Nat)) := hB.cell 1
  have e0 : w.drew.cell? ⟨r, 0, none⟩ = some (.slice aa l.length cap) := d0
  have e1 : w.drew.cell? ⟨r, 1, none⟩ = some (.int .i64 (k : Nat)) := d1
  have hgs := g_spec l k h hk
  replace h := Lib.hid h
  replace hR := Lib.hid hR
  clear hrest hB
  by_cases h0 : gE l k = 0
  · have hgs' : gN l k ≤ 18446744073709551615 ∧ k < gAt l k ∧ gAt l k ≤ l.length := by omega
    replace hgs := Lib.hid hgs'
    clear hgs'
    have h00 := Lib.hid h0
    clear h0
    go_enter Try.func52, Try.ntmps52
    go_wp2_with fail
    refine wp_region_held_drew (S := fun W => W.cell? ⟨r, 0, none⟩ = some (.slice aa l.length cap) ∧ W.cell? ⟨r, 1, none⟩ = some (.int .i64 (k : Nat))) (by kernel_rfl) ⟨e0, e1⟩ (fun hS => ?_)
    (refine wpAnyH_take (i := 0) (v := ?_) rfl (by kernel_rfl) (by kernel_rfl) (by kernel_rfl) (fun _ _ _ h => h) (Or.inl ⟨by rfl, ?_⟩) hS ?_; rotate_left; focus (intro W hW; go_simp; try with_reducible rfl))
    go_simp
    (refine wpAnyH_take (i := 1) (v := ?_) rfl (by kernel_rfl) (by kernel_rfl) (by kernel_rfl) (fun _ _ _ h => h) (Or.inl ⟨by rfl, ?_⟩) hS ?_; rotate_left; focus (intro W hW; go_simp; try with_reducible rfl))
    go_simp
    (refine wpAnyH_take (i := 2) (v := ?_) rfl (by kernel_rfl) (by kernel_rfl) (by kernel_rfl) (fun _ _ _ h => h) (Or.inl ⟨by rfl, ?_⟩) hS ?_; rotate_left; focus (intro W hW; go_simp; try with_reducible rfl))
    go_simp
    (refine wpAnyH_take (i := 3) (v := ?_) rfl (by kernel_rfl) (by kernel_rfl) (by kernel_rfl) (fun _ _ _ h => h) (Or.inl ⟨by rfl, ?_⟩) hS ?_; rotate_left; focus (intro W hW; obtain ⟨hW0, hW1⟩ := hW; go_simp; try with_reducible rfl))
    go_simp
    (refine wpAnyH_take (i := 4) (v := ?_) rfl (by kernel_rfl) (by kernel_rfl) (by kernel_rfl) (fun _ _ _ h => h) (Or.inl ⟨by rfl, ?_⟩) hS ?_; rotate_left; focus (intro W hW; go_simp; try with_reducible rfl))
    go_simp
    (refine wpAnyH_take (i := 5) (v := ?_) rfl (by kernel_rfl) (by kernel_rfl) (by kernel_rfl) (fun _ _ _ h => h) (Or.inl ⟨by rfl, ?_⟩) hS ?_; rotate_left; focus (intro W hW; go_simp; try with_reducible rfl))
    go_simp
    (refine wpAnyH_take (i := 6) (v := ?_) rfl (by kernel_rfl) (by kernel_rfl) (by kernel_rfl) (fun _ _ _ h => h) (Or.inl ⟨by rfl, ?_⟩) hS ?_; rotate_left; focus (intro W hW; go_simp; try with_reducible rfl))
    go_simp
    (refine wpAnyH_take (i := 7) (v := ?_) rfl (by kernel_rfl) (by kernel_rfl) (by kernel_rfl) (fun _ _ _ h => h) (Or.inl ⟨by rfl, ?_⟩) hS ?_; rotate_left; focus (intro W hW; obtain ⟨hW0, hW1⟩ := hW; go_simp; try with_reducible rfl))
    go_simp
    refine wpAnyH_ready (rs := [8]) (by kernel_rfl) (by simp) ?_
    refine AllReadyH.cons rfl (fun K hK => ?_) AllReadyH.nil
    go_simp
    go_wp2_with (go_at_call 63; refine (G1.out h00.out).mono ?_; rintro e w1 ⟨rfl, b1⟩)
    refine hK.out _ _ ⟨(b1.cell (by simpa using hrl.out)).trans e0, (b1.cell (by simpa using hrl.out)).trans e1⟩ (fun hS => ?_)
    clear hK K
    rename_i hS0
    clear hS0
    go_simp
    (refine wpAnyH_take (i := 9) (v := ?_) rfl (by kernel_rfl) (by kernel_rfl) (by kernel_rfl) (fun _ _ _ h => h) (Or.inl ⟨by rfl, ?_⟩) hS ?_; rotate_left; focus (intro W hW; go_simp; try with_reducible rfl))
    go_simp
    (refine wpAnyH_take (i := 10) (v := ?_) rfl (by kernel_rfl) (by kernel_rfl) (by kernel_rfl) (fun _ _ _ h => h) (Or.inl ⟨by rfl, ?_⟩) hS ?_; rotate_left; focus (intro W hW; go_simp; try with_reducible rfl))
    go_simp
    (refine wpAnyH_take (i := 13) (v := ?_) rfl (by kernel_rfl) (by kernel_rfl) (by kernel_rfl) (fun _ _ _ h => h) (Or.inl ⟨by rfl, ?_⟩) hS ?_; rotate_left; focus (intro W hW; go_simp; try with_reducible rfl))
    go_simp
    (refine wpAnyH_take (i := 11) (v := ?_) rfl (by kernel_rfl) (by kernel_rfl) (by kernel_rfl) (fun _ _ _ h => h) (Or.inl ⟨by rfl, ?_⟩) hS ?_; rotate_left; focus (intro W hW; go_simp; try with_reducible rfl))
    go_simp
    (refine wpAnyH_take (i := 14) (v := ?_) rfl (by kernel_rfl) (by kernel_rfl) (by kernel_rfl) (fun _ _ _ h => h) (Or.inl ⟨by rfl, ?_⟩) hS ?_; rotate_left; focus (intro W hW; go_simp; try with_reducible rfl))
    go_simp
    (refine wpAnyH_take (i := 12) (v := ?_) rfl (by kernel_rfl) (by kernel_rfl) (by kernel_rfl) (fun _ _ _ h => h) (Or.inl ⟨by rfl, ?_⟩) hS ?_; rotate_left; focus (intro W hW; go_simp; try with_reducible rfl))
    go_simp
    (refine wpAnyH_take (i := 15) (v := ?_) rfl (by kernel_rfl) (by kernel_rfl) (by kernel_rfl) (fun _ _ _ h => h) (Or.inl ⟨by rfl, ?_⟩) hS ?_; rotate_left; focus (intro W hW; go_simp; try with_reducible rfl))
    go_simp
    refine wpAnyH_done (by kernel_rfl) ?_ _
    have hb1 := Lib.hid ((ext_drew w).trans b1)
    have hR1 := Lib.hid (hR.out.ext hb1.out)
    obtain ⟨-, g1⟩ := hS
    have f1 : w1.frozen? ⟨r, 1, none⟩ = false := hR1.out.choose_spec.1.fz 1
    clear b1
    go_wp2_with fail
    go_ret2
    exact ⟨.inl ⟨h00.out, rfl, hR1.out.move _⟩, (KeepT.ext hb1.out).trans (hR1.out.keepMove _)⟩
  · have h00 := Lib.hid h0
    replace hgs := Lib.hid hgs
    clear h0
    have h0' : ((gE l k : Int) == 0) = false := by rw [beq_eq_false_iff_ne]; have := h00.out; omega
    go_enter Try.func52, Try.ntmps52
    go_wp2_with fail
    refine wp_region_held_drew (S := fun W => W.cell? ⟨r, 0, none⟩ = some (.slice aa l.length cap) ∧ W.cell? ⟨r, 1, none⟩ = some (.int .i64 (k : Nat))) (by kernel_rfl) ⟨e0, e1⟩ (fun hS => ?_)
    (refine wpAnyH_take (i := 0) (v := ?_) rfl (by kernel_rfl) (by kernel_rfl) (by kernel_rfl) (fun _ _ _ h => h) (Or.inl ⟨by rfl, ?_⟩) hS ?_; rotate_left; focus (intro W hW; go_simp; try with_reducible rfl))
    go_simp
    (refine wpAnyH_take (i := 1) (v := ?_) rfl (by kernel_rfl) (by kernel_rfl) (by kernel_rfl) (fun _ _ _ h => h) (Or.inl ⟨by rfl, ?_⟩) hS ?_; rotate_left; focus (intro W hW; go_simp; try with_reducible rfl))
    go_simp
    (refine wpAnyH_take (i := 2) (v := ?_) rfl (by kernel_rfl) (by kernel_rfl) (by kernel_rfl) (fun _ _ _ h => h) (Or.inl ⟨by rfl, ?_⟩) hS ?_; rotate_left; focus (intro W hW; go_simp; try with_reducible rfl))
    go_simp
    (refine wpAnyH_take (i := 3) (v := ?_) rfl (by kernel_rfl) (by kernel_rfl) (by kernel_rfl) (fun _ _ _ h => h) (Or.inl ⟨by rfl, ?_⟩) hS ?_; rotate_left; focus (intro W hW; obtain ⟨hW0, hW1⟩ := hW; go_simp; try with_reducible rfl))
    go_simp
    (refine wpAnyH_take (i := 4) (v := ?_) rfl (by kernel_rfl) (by kernel_rfl) (by kernel_rfl) (fun _ _ _ h => h) (Or.inl ⟨by rfl, ?_⟩) hS ?_; rotate_left; focus (intro W hW; go_simp; try with_reducible rfl))
    go_simp
    (refine wpAnyH_take (i := 5) (v := ?_) rfl (by kernel_rfl) (by kernel_rfl) (by kernel_rfl) (fun _ _ _ h => h) (Or.inl ⟨by rfl, ?_⟩) hS ?_; rotate_left; focus (intro W hW; go_simp; try with_reducible rfl))
    go_simp
    (refine wpAnyH_take (i := 6) (v := ?_) rfl (by kernel_rfl) (by kernel_rfl) (by kernel_rfl) (fun _ _ _ h => h) (Or.inl ⟨by rfl, ?_⟩) hS ?_; rotate_left; focus (intro W hW; go_simp; try with_reducible rfl))
    go_simp
    (refine wpAnyH_take (i := 7) (v := ?_) rfl (by kernel_rfl) (by kernel_rfl) (by kernel_rfl) (fun _ _ _ h => h) (Or.inl ⟨by rfl, ?_⟩) hS ?_; rotate_left; focus (intro W hW; obtain ⟨hW0, hW1⟩ := hW; go_simp; try with_reducible rfl))
    go_simp
    refine wpAnyH_ready (rs := [8]) (by kernel_rfl) (by simp) ?_
    refine AllReadyH.cons rfl (fun K hK => ?_) AllReadyH.nil
    go_simp
    go_wp2_with (go_at_call 63; refine (G2.out h00.out).mono ?_; rintro e w1 ⟨rfl, b1⟩)
    refine hK.out _ _ ⟨(b1.cell (by simpa using hrl.out)).trans e0, (b1.cell (by simpa using hrl.out)).trans e1⟩ (fun hS => ?_)
    clear hK K
    rename_i hS0
    clear hS0
    go_simp
    (refine wpAnyH_take (i := 9) (v := ?_) rfl (by kernel_rfl) (by kernel_rfl) (by kernel_rfl) (fun _ _ _ h => h) (Or.inl ⟨by rfl, ?_⟩) hS ?_; rotate_left; focus (intro W hW; go_simp; try with_reducible rfl))
    go_simp
    (refine wpAnyH_take (i := 10) (v := ?_) rfl (by kernel_rfl) (by kernel_rfl) (by kernel_rfl) (fun _ _ _ h => h) (Or.inl ⟨by rfl, ?_⟩) hS ?_; rotate_left; focus (intro W hW; go_simp; try with_reducible rfl))
    go_simp
    (refine wpAnyH_take (i := 13) (v := ?_) rfl (by kernel_rfl) (by kernel_rfl) (by kernel_rfl) (fun _ _ _ h => h) (Or.inl ⟨by rfl, ?_⟩) hS ?_; rotate_left; focus (intro W hW; go_simp; try with_reducible rfl))
    go_simp
    (refine wpAnyH_take (i := 11) (v := ?_) rfl (by kernel_rfl) (by kernel_rfl) (by kernel_rfl) (fun _ _ _ h => h) (Or.inl ⟨by rfl, ?_⟩) hS ?_; rotate_left; focus (intro W hW; go_simp; try with_reducible rfl))
    go_simp
    (refine wpAnyH_take (i := 14) (v := ?_) rfl (by kernel_rfl) (by kernel_rfl) (by kernel_rfl) (fun _ _ _ h => h) (Or.inl ⟨by rfl, ?_⟩) hS ?_; rotate_left; focus (intro W hW; go_simp; try with_reducible rfl))
    go_simp
    (refine wpAnyH_take (i := 12) (v := ?_) rfl (by kernel_rfl) (by kernel_rfl) (by kernel_rfl) (fun _ _ _ h => h) (Or.inl ⟨by rfl, ?_⟩) hS ?_; rotate_left; focus (intro W hW; go_simp; try with_reducible rfl))
    go_simp
    (refine wpAnyH_take (i := 15) (v := ?_) rfl (by kernel_rfl) (by kernel_rfl) (by kernel_rfl) (fun _ _ _ h => h) (Or.inl ⟨by rfl, ?_⟩) hS ?_; rotate_left; focus (intro W hW; go_simp; try with_reducible rfl))
    go_simp
    refine wpAnyH_done (by kernel_rfl) ?_ _
    have hb1 := Lib.hid ((ext_drew w).trans b1)
    have hR1 := Lib.hid (hR.out.ext hb1.out)
    obtain ⟨-, g1⟩ := hS
    have f1 : w1.frozen? ⟨r, 1, none⟩ = false := hR1.out.choose_spec.1.fz 1
    clear b1
    go_wp2_with fail
    go_ret2
    exact ⟨.inr ⟨h00.out, rfl, hR1.out⟩, KeepT.ext hb1.out⟩
end Go.Proofs.Ytoglgdkeknojkaa
