/-
  LAYER 3: the program's reader: four and eight bytes, texts, groups.
-/
import Derived.Test.YtoglgdkeknojkaaWi
import Derived.WalkSmall
namespace Go.Proofs.Ytoglgdkeknojkaa
open Go.RowKit

theorem RS.cells {w0 w : World} {r : Nat} {v : Value} {place : Nat} {op : List Nat} (h : RS w0 w r v place op) : w.cell? ⟨r, 0, none⟩ = some v ∧ w.cell? ⟨r, 1, none⟩ = some (.int .i64 (place : Nat)) ∧ w.frozen? ⟨r, 1, none⟩ = false ∧ w.frozen? ⟨r, 2, none⟩ = false ∧ r < w.heap.size := by
  obtain ⟨ov, h1, -⟩ := h
  exact ⟨h1.cell 0, h1.cell 1, h1.fz 1, h1.fz 2, h1.lt⟩
theorem Try.info22 : (Try.prog.info? 22).map (fun i => (i.zero, i.size, i.bytes)) = some (some (.int .u64 0), 1, 8) := by kernel_rfl
def FxIs (l : List Nat) (w0 : World) (r : Nat) (v : Value) (k : Nat) (op : List Nat) (m : Nat) (w : World) (e : Ending) (w' : World) : Prop :=
  ((k + m ≤ l.length ∧ e = .returned (.tuple #[.int .u64 (valF l k m : Nat), .int .i64 0]) ∧ RS w0 w' r v (k + m) op) ∨ (¬ k + m ≤ l.length ∧ e = .returned (.tuple #[.int .u64 0, .int .i64 2]) ∧ RS w0 w' r v k op)) ∧ KeepT w w'
set_option maxHeartbeats 1000000 in
set_option maxRecDepth 100000 in
theorem fx8_ok (v : Value) (l : List Nat) (k r : Nat) (op : List Nat) (w0 w : World) (hS : Src w0 v l) (h : ∀ x ∈ l, x < 256) (hl : l.length ≤ 140737488355328) (hk : k ≤ l.length) (hR : RS w0 w r v k op) (hm : k + 8 ≤ l.length) :
    Calls Try.prog 56 #[.pointer (some ⟨r, 0, none⟩), .bool true] w (FxIs l w0 r v k op 8 w) := by
  have G : ∀ W, Below w0.heap.size w0 W → Calls Try.prog 64 #[v, .int .i64 (k : Int)] W fun e w' => e = .returned (.tuple #[.int .u64 (valF l k 8 : Nat), .int .i64 ((k + 8 : Nat) : Int), .int .i64 0]) ∧ W = w' := fun W hb => by
    refine ((fix_is v l k W ((hS.keep hb (Nat.le_refl _)).bytes) h hl hk).2.1).mono ?_
    rintro e w' ⟨⟨h1, rfl⟩ | ⟨h1, rfl⟩, hw⟩
    · exact ⟨rfl, hw⟩
    · exact absurd hm h1
  have v4 : valF l k 4 ≤ 4294967295 := by have := valF_lt l k h 4; omega
  have bd := Lib.hid (hR.below.drew)
  have G1 := Lib.hid (G w.drew bd.out)
  clear G
  obtain ⟨aa, cap, rfl, hcl, hcm, hcn, -⟩ := hS
  obtain ⟨d0, d1, f1, -, hrl⟩ := hR.cells
  have e0 : w.drew.cell? ⟨r, 0, none⟩ = some (.slice aa l.length cap) := d0
  have e1 : w.drew.cell? ⟨r, 1, none⟩ = some (.int .i64 (k : Nat)) := d1
  replace h := Lib.hid h
  replace hR := Lib.hid hR
  replace hm := Lib.hid hm
  go_enter Try.func56, Try.ntmps56
  go_wp2_with fail
  refine wp_region_held_drew (S := fun W => W.cell? ⟨r, 0, none⟩ = some (.slice aa l.length cap) ∧ W.cell? ⟨r, 1, none⟩ = some (.int .i64 (k : Nat))) (by kernel_rfl) ⟨e0, e1⟩ (fun hS => ?_)
  (refine wpAnyH_take (i := 0) (v := ?_) rfl (by kernel_rfl) (by kernel_rfl) (by kernel_rfl) (fun _ _ _ h => h) (Or.inl ⟨by rfl, ?_⟩) hS ?_; rotate_left; focus (intro W hW; go_simp; try with_reducible rfl))
  go_simp
  (refine wpAnyH_take (i := 1) (v := ?_) rfl (by kernel_rfl) (by kernel_rfl) (by kernel_rfl) (fun _ _ _ h => h) (Or.inl ⟨by rfl, ?_⟩) hS ?_; rotate_left; focus (intro W hW; go_simp; try with_reducible rfl))
  go_simp
  (refine wpAnyH_take (i := 2) (v := ?_) rfl (by kernel_rfl) (by kernel_rfl) (by kernel_rfl) (fun _ _ _ h => h) (Or.inl ⟨by rfl, ?_⟩) hS ?_; rotate_left; focus (intro W hW; go_simp; try with_reducible rfl))
  go_simp
  (refine wpAnyH_take (i := 3) (v := ?_) rfl (by kernel_rfl) (by kernel_rfl) (by kernel_rfl) (fun _ _ _ h => h) (Or.inl ⟨by rfl, ?_⟩) hS ?_; rotate_left; focus (intro W hW; obtain ⟨hW0, hW1⟩ := hW; go_simp; try with_reducible rfl))
  go_simp
  (refine wpAnyH_take (i := 4) (v := ?_) rfl (by kernel_rfl) (by kernel_rfl) (by kernel_rfl) (fun _ _ _ h => h) (Or.inl ⟨by rfl, ?_⟩) hS ?_; rotate_left; focus (intro W hW; go_simp; try with_reducible rfl))
  go_simp
  (refine wpAnyH_take (i := 5) (v := ?_) rfl (by kernel_rfl) (by kernel_rfl) (by kernel_rfl) (fun _ _ _ h => h) (Or.inl ⟨by rfl, ?_⟩) hS ?_; rotate_left; focus (intro W hW; go_simp; try with_reducible rfl))
  go_simp
  (refine wpAnyH_take (i := 6) (v := ?_) rfl (by kernel_rfl) (by kernel_rfl) (by kernel_rfl) (fun _ _ _ h => h) (Or.inl ⟨by rfl, ?_⟩) hS ?_; rotate_left; focus (intro W hW; go_simp; try with_reducible rfl))
  go_simp
  (refine wpAnyH_take (i := 7) (v := ?_) rfl (by kernel_rfl) (by kernel_rfl) (by kernel_rfl) (fun _ _ _ h => h) (Or.inl ⟨by rfl, ?_⟩) hS ?_; rotate_left; focus (intro W hW; obtain ⟨hW0, hW1⟩ := hW; go_simp; try with_reducible rfl))
  go_simp
  refine wpAnyH_ready (rs := [8]) (by kernel_rfl) (by simp) ?_
  refine AllReadyH.cons rfl (fun K hK => ?_) AllReadyH.nil
  go_simp
  go_wp2_with (go_at_call 64; refine (G1.out).mono ?_; rintro e w1 ⟨rfl, rfl⟩)
  refine hK.out _ _ ⟨e0, e1⟩ (fun hS => ?_)
  clear hK K
  rename_i hS0
  clear hS0
  go_simp
  (refine wpAnyH_take (i := 9) (v := ?_) rfl (by kernel_rfl) (by kernel_rfl) (by kernel_rfl) (fun _ _ _ h => h) (Or.inl ⟨by rfl, ?_⟩) hS ?_; rotate_left; focus (intro W hW; go_simp; try with_reducible rfl))
  go_simp
  (refine wpAnyH_take (i := 10) (v := ?_) rfl (by kernel_rfl) (by kernel_rfl) (by kernel_rfl) (fun _ _ _ h => h) (Or.inl ⟨by rfl, ?_⟩) hS ?_; rotate_left; focus (intro W hW; go_simp; try with_reducible rfl))
  go_simp
  (refine wpAnyH_take (i := 13) (v := ?_) rfl (by kernel_rfl) (by kernel_rfl) (by kernel_rfl) (fun _ _ _ h => h) (Or.inl ⟨by rfl, ?_⟩) hS ?_; rotate_left; focus (intro W hW; go_simp; try with_reducible rfl))
  go_simp
  (refine wpAnyH_take (i := 11) (v := ?_) rfl (by kernel_rfl) (by kernel_rfl) (by kernel_rfl) (fun _ _ _ h => h) (Or.inl ⟨by rfl, ?_⟩) hS ?_; rotate_left; focus (intro W hW; go_simp; try with_reducible rfl))
  go_simp
  (refine wpAnyH_take (i := 14) (v := ?_) rfl (by kernel_rfl) (by kernel_rfl) (by kernel_rfl) (fun _ _ _ h => h) (Or.inl ⟨by rfl, ?_⟩) hS ?_; rotate_left; focus (intro W hW; go_simp; try with_reducible rfl))
  go_simp
  (refine wpAnyH_take (i := 12) (v := ?_) rfl (by kernel_rfl) (by kernel_rfl) (by kernel_rfl) (fun _ _ _ h => h) (Or.inl ⟨by rfl, ?_⟩) hS ?_; rotate_left; focus (intro W hW; go_simp; try with_reducible rfl))
  go_simp
  (refine wpAnyH_take (i := 15) (v := ?_) rfl (by kernel_rfl) (by kernel_rfl) (by kernel_rfl) (fun _ _ _ h => h) (Or.inl ⟨by rfl, ?_⟩) hS ?_; rotate_left; focus (intro W hW; go_simp; try with_reducible rfl))
  go_simp
  refine wpAnyH_done (by kernel_rfl) ?_ _
  clear hS
  have f1' : w.drew.frozen? ⟨r, 1, none⟩ = false := f1
  go_wp2_with fail
  go_ret2
  exact ⟨.inl ⟨hm.out, rfl, (hR.out.ext (ext_drew w)).move _⟩, (KeepT.ext (ext_drew w)).trans ((hR.out.ext (ext_drew w)).keepMove _)⟩
set_option maxHeartbeats 1000000 in
set_option maxRecDepth 100000 in
theorem fx8_no (v : Value) (l : List Nat) (k r : Nat) (op : List Nat) (w0 w : World) (hS : Src w0 v l) (h : ∀ x ∈ l, x < 256) (hl : l.length ≤ 140737488355328) (hk : k ≤ l.length) (hR : RS w0 w r v k op) (hm : ¬ k + 8 ≤ l.length) :
    Calls Try.prog 56 #[.pointer (some ⟨r, 0, none⟩), .bool true] w (FxIs l w0 r v k op 8 w) := by
  have G : ∀ W, Below w0.heap.size w0 W → Calls Try.prog 64 #[v, .int .i64 (k : Int)] W fun e w' => e = .returned (.tuple #[.int .u64 0, .int .i64 0, .int .i64 2]) ∧ W = w' := fun W hb => by
    refine ((fix_is v l k W ((hS.keep hb (Nat.le_refl _)).bytes) h hl hk).2.1).mono ?_
    rintro e w' ⟨⟨h1, rfl⟩ | ⟨h1, rfl⟩, hw⟩
    · exact absurd h1 hm
    · exact ⟨rfl, hw⟩
  have v4 : valF l k 4 ≤ 4294967295 := by have := valF_lt l k h 4; omega
  have bd := Lib.hid (hR.below.drew)
  have G1 := Lib.hid (G w.drew bd.out)
  clear G
  obtain ⟨aa, cap, rfl, hcl, hcm, hcn, -⟩ := hS
  obtain ⟨d0, d1, f1, -, hrl⟩ := hR.cells
  have e0 : w.drew.cell? ⟨r, 0, none⟩ = some (.slice aa l.length cap) := d0
  have e1 : w.drew.cell? ⟨r, 1, none⟩ = some (.int .i64 (k : Nat)) := d1
  replace h := Lib.hid h
  replace hR := Lib.hid hR
  replace hm := Lib.hid hm
  go_enter Try.func56, Try.ntmps56
  go_wp2_with fail
  refine wp_region_held_drew (S := fun W => W.cell? ⟨r, 0, none⟩ = some (.slice aa l.length cap) ∧ W.cell? ⟨r, 1, none⟩ = some (.int .i64 (k : Nat))) (by kernel_rfl) ⟨e0, e1⟩ (fun hS => ?_)
  (refine wpAnyH_take (i := 0) (v := ?_) rfl (by kernel_rfl) (by kernel_rfl) (by kernel_rfl) (fun _ _ _ h => h) (Or.inl ⟨by rfl, ?_⟩) hS ?_; rotate_left; focus (intro W hW; go_simp; try with_reducible rfl))
  go_simp
  (refine wpAnyH_take (i := 1) (v := ?_) rfl (by kernel_rfl) (by kernel_rfl) (by kernel_rfl) (fun _ _ _ h => h) (Or.inl ⟨by rfl, ?_⟩) hS ?_; rotate_left; focus (intro W hW; go_simp; try with_reducible rfl))
  go_simp
  (refine wpAnyH_take (i := 2) (v := ?_) rfl (by kernel_rfl) (by kernel_rfl) (by kernel_rfl) (fun _ _ _ h => h) (Or.inl ⟨by rfl, ?_⟩) hS ?_; rotate_left; focus (intro W hW; go_simp; try with_reducible rfl))
  go_simp
  (refine wpAnyH_take (i := 3) (v := ?_) rfl (by kernel_rfl) (by kernel_rfl) (by kernel_rfl) (fun _ _ _ h => h) (Or.inl ⟨by rfl, ?_⟩) hS ?_; rotate_left; focus (intro W hW; obtain ⟨hW0, hW1⟩ := hW; go_simp; try with_reducible rfl))
  go_simp
  (refine wpAnyH_take (i := 4) (v := ?_) rfl (by kernel_rfl) (by kernel_rfl) (by kernel_rfl) (fun _ _ _ h => h) (Or.inl ⟨by rfl, ?_⟩) hS ?_; rotate_left; focus (intro W hW; go_simp; try with_reducible rfl))
  go_simp
  (refine wpAnyH_take (i := 5) (v := ?_) rfl (by kernel_rfl) (by kernel_rfl) (by kernel_rfl) (fun _ _ _ h => h) (Or.inl ⟨by rfl, ?_⟩) hS ?_; rotate_left; focus (intro W hW; go_simp; try with_reducible rfl))
  go_simp
  (refine wpAnyH_take (i := 6) (v := ?_) rfl (by kernel_rfl) (by kernel_rfl) (by kernel_rfl) (fun _ _ _ h => h) (Or.inl ⟨by rfl, ?_⟩) hS ?_; rotate_left; focus (intro W hW; go_simp; try with_reducible rfl))
  go_simp
  (refine wpAnyH_take (i := 7) (v := ?_) rfl (by kernel_rfl) (by kernel_rfl) (by kernel_rfl) (fun _ _ _ h => h) (Or.inl ⟨by rfl, ?_⟩) hS ?_; rotate_left; focus (intro W hW; obtain ⟨hW0, hW1⟩ := hW; go_simp; try with_reducible rfl))
  go_simp
  refine wpAnyH_ready (rs := [8]) (by kernel_rfl) (by simp) ?_
  refine AllReadyH.cons rfl (fun K hK => ?_) AllReadyH.nil
  go_simp
  go_wp2_with (go_at_call 64; refine (G1.out).mono ?_; rintro e w1 ⟨rfl, rfl⟩)
  refine hK.out _ _ ⟨e0, e1⟩ (fun hS => ?_)
  clear hK K
  rename_i hS0
  clear hS0
  go_simp
  (refine wpAnyH_take (i := 9) (v := ?_) rfl (by kernel_rfl) (by kernel_rfl) (by kernel_rfl) (fun _ _ _ h => h) (Or.inl ⟨by rfl, ?_⟩) hS ?_; rotate_left; focus (intro W hW; go_simp; try with_reducible rfl))
  go_simp
  (refine wpAnyH_take (i := 10) (v := ?_) rfl (by kernel_rfl) (by kernel_rfl) (by kernel_rfl) (fun _ _ _ h => h) (Or.inl ⟨by rfl, ?_⟩) hS ?_; rotate_left; focus (intro W hW; go_simp; try with_reducible rfl))
  go_simp
  (refine wpAnyH_take (i := 13) (v := ?_) rfl (by kernel_rfl) (by kernel_rfl) (by kernel_rfl) (fun _ _ _ h => h) (Or.inl ⟨by rfl, ?_⟩) hS ?_; rotate_left; focus (intro W hW; go_simp; try with_reducible rfl))
  go_simp
  (refine wpAnyH_take (i := 11) (v := ?_) rfl (by kernel_rfl) (by kernel_rfl) (by kernel_rfl) (fun _ _ _ h => h) (Or.inl ⟨by rfl, ?_⟩) hS ?_; rotate_left; focus (intro W hW; go_simp; try with_reducible rfl))
  go_simp
  (refine wpAnyH_take (i := 14) (v := ?_) rfl (by kernel_rfl) (by kernel_rfl) (by kernel_rfl) (fun _ _ _ h => h) (Or.inl ⟨by rfl, ?_⟩) hS ?_; rotate_left; focus (intro W hW; go_simp; try with_reducible rfl))
  go_simp
  (refine wpAnyH_take (i := 12) (v := ?_) rfl (by kernel_rfl) (by kernel_rfl) (by kernel_rfl) (fun _ _ _ h => h) (Or.inl ⟨by rfl, ?_⟩) hS ?_; rotate_left; focus (intro W hW; go_simp; try with_reducible rfl))
  go_simp
  (refine wpAnyH_take (i := 15) (v := ?_) rfl (by kernel_rfl) (by kernel_rfl) (by kernel_rfl) (fun _ _ _ h => h) (Or.inl ⟨by rfl, ?_⟩) hS ?_; rotate_left; focus (intro W hW; go_simp; try with_reducible rfl))
  go_simp
  refine wpAnyH_done (by kernel_rfl) ?_ _
  clear hS
  go_wp2_with fail
  go_ret2
  exact ⟨.inr ⟨hm.out, rfl, hR.out.ext (ext_drew w)⟩, KeepT.ext (ext_drew w)⟩
set_option maxHeartbeats 1000000 in
set_option maxRecDepth 100000 in
theorem fx4_ok (v : Value) (l : List Nat) (k r : Nat) (op : List Nat) (w0 w : World) (hS : Src w0 v l) (h : ∀ x ∈ l, x < 256) (hl : l.length ≤ 140737488355328) (hk : k ≤ l.length) (hR : RS w0 w r v k op) (hm : k + 4 ≤ l.length) :
    Calls Try.prog 56 #[.pointer (some ⟨r, 0, none⟩), .bool false] w (FxIs l w0 r v k op 4 w) := by
  have G : ∀ W, Below w0.heap.size w0 W → Calls Try.prog 65 #[v, .int .i64 (k : Int)] W fun e w' => e = .returned (.tuple #[.int .u32 (valF l k 4 : Nat), .int .i64 ((k + 4 : Nat) : Int), .int .i64 0]) ∧ W = w' := fun W hb => by
    refine ((fix_is v l k W ((hS.keep hb (Nat.le_refl _)).bytes) h hl hk).2.2.2).mono ?_
    rintro e w' ⟨⟨h1, rfl⟩ | ⟨h1, rfl⟩, hw⟩
    · exact ⟨rfl, hw⟩
    · exact absurd hm h1
  have v4 : valF l k 4 ≤ 4294967295 := by have := valF_lt l k h 4; omega
  have bd := Lib.hid (hR.below.drew)
  have G1 := Lib.hid (G w.drew bd.out)
  clear G
  obtain ⟨aa, cap, rfl, hcl, hcm, hcn, -⟩ := hS
  obtain ⟨d0, d1, f1, -, hrl⟩ := hR.cells
  have e0 : w.drew.cell? ⟨r, 0, none⟩ = some (.slice aa l.length cap) := d0
  have e1 : w.drew.cell? ⟨r, 1, none⟩ = some (.int .i64 (k : Nat)) := d1
  replace h := Lib.hid h
  replace hR := Lib.hid hR
  replace hm := Lib.hid hm
  go_enter Try.func56, Try.ntmps56
  go_wp2_with fail
  refine wp_region_held_drew (S := fun W => W.cell? ⟨r, 0, none⟩ = some (.slice aa l.length cap) ∧ W.cell? ⟨r, 1, none⟩ = some (.int .i64 (k : Nat))) (by kernel_rfl) ⟨e0, e1⟩ (fun hS => ?_)
  (refine wpAnyH_take (i := 0) (v := ?_) rfl (by kernel_rfl) (by kernel_rfl) (by kernel_rfl) (fun _ _ _ h => h) (Or.inl ⟨by rfl, ?_⟩) hS ?_; rotate_left; focus (intro W hW; go_simp; try with_reducible rfl))
  go_simp
  (refine wpAnyH_take (i := 1) (v := ?_) rfl (by kernel_rfl) (by kernel_rfl) (by kernel_rfl) (fun _ _ _ h => h) (Or.inl ⟨by rfl, ?_⟩) hS ?_; rotate_left; focus (intro W hW; go_simp; try with_reducible rfl))
  go_simp
  (refine wpAnyH_take (i := 2) (v := ?_) rfl (by kernel_rfl) (by kernel_rfl) (by kernel_rfl) (fun _ _ _ h => h) (Or.inl ⟨by rfl, ?_⟩) hS ?_; rotate_left; focus (intro W hW; go_simp; try with_reducible rfl))
  go_simp
  (refine wpAnyH_take (i := 3) (v := ?_) rfl (by kernel_rfl) (by kernel_rfl) (by kernel_rfl) (fun _ _ _ h => h) (Or.inl ⟨by rfl, ?_⟩) hS ?_; rotate_left; focus (intro W hW; obtain ⟨hW0, hW1⟩ := hW; go_simp; try with_reducible rfl))
  go_simp
  (refine wpAnyH_take (i := 4) (v := ?_) rfl (by kernel_rfl) (by kernel_rfl) (by kernel_rfl) (fun _ _ _ h => h) (Or.inl ⟨by rfl, ?_⟩) hS ?_; rotate_left; focus (intro W hW; go_simp; try with_reducible rfl))
  go_simp
  (refine wpAnyH_take (i := 5) (v := ?_) rfl (by kernel_rfl) (by kernel_rfl) (by kernel_rfl) (fun _ _ _ h => h) (Or.inl ⟨by rfl, ?_⟩) hS ?_; rotate_left; focus (intro W hW; go_simp; try with_reducible rfl))
  go_simp
  (refine wpAnyH_take (i := 6) (v := ?_) rfl (by kernel_rfl) (by kernel_rfl) (by kernel_rfl) (fun _ _ _ h => h) (Or.inl ⟨by rfl, ?_⟩) hS ?_; rotate_left; focus (intro W hW; go_simp; try with_reducible rfl))
  go_simp
  (refine wpAnyH_take (i := 7) (v := ?_) rfl (by kernel_rfl) (by kernel_rfl) (by kernel_rfl) (fun _ _ _ h => h) (Or.inl ⟨by rfl, ?_⟩) hS ?_; rotate_left; focus (intro W hW; obtain ⟨hW0, hW1⟩ := hW; go_simp; try with_reducible rfl))
  go_simp
  refine wpAnyH_ready (rs := [8]) (by kernel_rfl) (by simp) ?_
  refine AllReadyH.cons rfl (fun K hK => ?_) AllReadyH.nil
  go_simp
  go_wp2_with (go_at_call 65; refine (G1.out).mono ?_; rintro e w1 ⟨rfl, rfl⟩)
  refine hK.out _ _ ⟨e0, e1⟩ (fun hS => ?_)
  clear hK K
  rename_i hS0
  clear hS0
  go_simp
  (refine wpAnyH_take (i := 9) (v := ?_) rfl (by kernel_rfl) (by kernel_rfl) (by kernel_rfl) (fun _ _ _ h => h) (Or.inl ⟨by rfl, ?_⟩) hS ?_; rotate_left; focus (intro W hW; go_simp; try with_reducible rfl))
  go_simp
  (refine wpAnyH_take (i := 10) (v := ?_) rfl (by kernel_rfl) (by kernel_rfl) (by kernel_rfl) (fun _ _ _ h => h) (Or.inl ⟨by rfl, ?_⟩) hS ?_; rotate_left; focus (intro W hW; go_simp; try with_reducible rfl))
  go_simp
  (refine wpAnyH_take (i := 13) (v := ?_) rfl (by kernel_rfl) (by kernel_rfl) (by kernel_rfl) (fun _ _ _ h => h) (Or.inl ⟨by rfl, ?_⟩) hS ?_; rotate_left; focus (intro W hW; go_simp; try with_reducible rfl))
  go_simp
  (refine wpAnyH_take (i := 11) (v := ?_) rfl (by kernel_rfl) (by kernel_rfl) (by kernel_rfl) (fun _ _ _ h => h) (Or.inl ⟨by rfl, ?_⟩) hS ?_; rotate_left; focus (intro W hW; go_simp; try with_reducible rfl))
  go_simp
  (refine wpAnyH_take (i := 14) (v := ?_) rfl (by kernel_rfl) (by kernel_rfl) (by kernel_rfl) (fun _ _ _ h => h) (Or.inl ⟨by rfl, ?_⟩) hS ?_; rotate_left; focus (intro W hW; go_simp; try with_reducible rfl))
  go_simp
  (refine wpAnyH_take (i := 12) (v := ?_) rfl (by kernel_rfl) (by kernel_rfl) (by kernel_rfl) (fun _ _ _ h => h) (Or.inl ⟨by rfl, ?_⟩) hS ?_; rotate_left; focus (intro W hW; go_simp; try with_reducible rfl))
  go_simp
  (refine wpAnyH_take (i := 15) (v := ?_) rfl (by kernel_rfl) (by kernel_rfl) (by kernel_rfl) (fun _ _ _ h => h) (Or.inl ⟨by rfl, ?_⟩) hS ?_; rotate_left; focus (intro W hW; go_simp; try with_reducible rfl))
  go_simp
  refine wpAnyH_done (by kernel_rfl) ?_ _
  clear hS
  have f1' : w.drew.frozen? ⟨r, 1, none⟩ = false := f1
  go_wp2_with fail
  go_ret2
  exact ⟨.inl ⟨hm.out, rfl, (hR.out.ext (ext_drew w)).move _⟩, (KeepT.ext (ext_drew w)).trans ((hR.out.ext (ext_drew w)).keepMove _)⟩
set_option maxHeartbeats 1000000 in
set_option maxRecDepth 100000 in
theorem fx4_no (v : Value) (l : List Nat) (k r : Nat) (op : List Nat) (w0 w : World) (hS : Src w0 v l) (h : ∀ x ∈ l, x < 256) (hl : l.length ≤ 140737488355328) (hk : k ≤ l.length) (hR : RS w0 w r v k op) (hm : ¬ k + 4 ≤ l.length) :
    Calls Try.prog 56 #[.pointer (some ⟨r, 0, none⟩), .bool false] w (FxIs l w0 r v k op 4 w) := by
  have G : ∀ W, Below w0.heap.size w0 W → Calls Try.prog 65 #[v, .int .i64 (k : Int)] W fun e w' => e = .returned (.tuple #[.int .u32 0, .int .i64 0, .int .i64 2]) ∧ W = w' := fun W hb => by
    refine ((fix_is v l k W ((hS.keep hb (Nat.le_refl _)).bytes) h hl hk).2.2.2).mono ?_
    rintro e w' ⟨⟨h1, rfl⟩ | ⟨h1, rfl⟩, hw⟩
    · exact absurd h1 hm
    · exact ⟨rfl, hw⟩
  have v4 : valF l k 4 ≤ 4294967295 := by have := valF_lt l k h 4; omega
  have bd := Lib.hid (hR.below.drew)
  have G1 := Lib.hid (G w.drew bd.out)
  clear G
  obtain ⟨aa, cap, rfl, hcl, hcm, hcn, -⟩ := hS
  obtain ⟨d0, d1, f1, -, hrl⟩ := hR.cells
  have e0 : w.drew.cell? ⟨r, 0, none⟩ = some (.slice aa l.length cap) := d0
  have e1 : w.drew.cell? ⟨r, 1, none⟩ = some (.int .i64 (k : Nat)) := d1
  replace h := Lib.hid h
  replace hR := Lib.hid hR
  replace hm := Lib.hid hm
  go_enter Try.func56, Try.ntmps56
  go_wp2_with fail
  refine wp_region_held_drew (S := fun W => W.cell? ⟨r, 0, none⟩ = some (.slice aa l.length cap) ∧ W.cell? ⟨r, 1, none⟩ = some (.int .i64 (k : Nat))) (by kernel_rfl) ⟨e0, e1⟩ (fun hS => ?_)
  (refine wpAnyH_take (i := 0) (v := ?_) rfl (by kernel_rfl) (by kernel_rfl) (by kernel_rfl) (fun _ _ _ h => h) (Or.inl ⟨by rfl, ?_⟩) hS ?_; rotate_left; focus (intro W hW; go_simp; try with_reducible rfl))
  go_simp
  (refine wpAnyH_take (i := 1) (v := ?_) rfl (by kernel_rfl) (by kernel_rfl) (by kernel_rfl) (fun _ _ _ h => h) (Or.inl ⟨by rfl, ?_⟩) hS ?_; rotate_left; focus (intro W hW; go_simp; try with_reducible rfl))
  go_simp
  (refine wpAnyH_take (i := 2) (v := ?_) rfl (by kernel_rfl) (by kernel_rfl) (by kernel_rfl) (fun _ _ _ h => h) (Or.inl ⟨by rfl, ?_⟩) hS ?_; rotate_left; focus (intro W hW; go_simp; try with_reducible rfl))
  go_simp
  (refine wpAnyH_take (i := 3) (v := ?_) rfl (by kernel_rfl) (by kernel_rfl) (by kernel_rfl) (fun _ _ _ h => h) (Or.inl ⟨by rfl, ?_⟩) hS ?_; rotate_left; focus (intro W hW; obtain ⟨hW0, hW1⟩ := hW; go_simp; try with_reducible rfl))
  go_simp
  (refine wpAnyH_take (i := 4) (v := ?_) rfl (by kernel_rfl) (by kernel_rfl) (by kernel_rfl) (fun _ _ _ h => h) (Or.inl ⟨by rfl, ?_⟩) hS ?_; rotate_left; focus (intro W hW; go_simp; try with_reducible rfl))
  go_simp
  (refine wpAnyH_take (i := 5) (v := ?_) rfl (by kernel_rfl) (by kernel_rfl) (by kernel_rfl) (fun _ _ _ h => h) (Or.inl ⟨by rfl, ?_⟩) hS ?_; rotate_left; focus (intro W hW; go_simp; try with_reducible rfl))
  go_simp
  (refine wpAnyH_take (i := 6) (v := ?_) rfl (by kernel_rfl) (by kernel_rfl) (by kernel_rfl) (fun _ _ _ h => h) (Or.inl ⟨by rfl, ?_⟩) hS ?_; rotate_left; focus (intro W hW; go_simp; try with_reducible rfl))
  go_simp
  (refine wpAnyH_take (i := 7) (v := ?_) rfl (by kernel_rfl) (by kernel_rfl) (by kernel_rfl) (fun _ _ _ h => h) (Or.inl ⟨by rfl, ?_⟩) hS ?_; rotate_left; focus (intro W hW; obtain ⟨hW0, hW1⟩ := hW; go_simp; try with_reducible rfl))
  go_simp
  refine wpAnyH_ready (rs := [8]) (by kernel_rfl) (by simp) ?_
  refine AllReadyH.cons rfl (fun K hK => ?_) AllReadyH.nil
  go_simp
  go_wp2_with (go_at_call 65; refine (G1.out).mono ?_; rintro e w1 ⟨rfl, rfl⟩)
  refine hK.out _ _ ⟨e0, e1⟩ (fun hS => ?_)
  clear hK K
  rename_i hS0
  clear hS0
  go_simp
  (refine wpAnyH_take (i := 9) (v := ?_) rfl (by kernel_rfl) (by kernel_rfl) (by kernel_rfl) (fun _ _ _ h => h) (Or.inl ⟨by rfl, ?_⟩) hS ?_; rotate_left; focus (intro W hW; go_simp; try with_reducible rfl))
  go_simp
  (refine wpAnyH_take (i := 10) (v := ?_) rfl (by kernel_rfl) (by kernel_rfl) (by kernel_rfl) (fun _ _ _ h => h) (Or.inl ⟨by rfl, ?_⟩) hS ?_; rotate_left; focus (intro W hW; go_simp; try with_reducible rfl))
  go_simp
  (refine wpAnyH_take (i := 13) (v := ?_) rfl (by kernel_rfl) (by kernel_rfl) (by kernel_rfl) (fun _ _ _ h => h) (Or.inl ⟨by rfl, ?_⟩) hS ?_; rotate_left; focus (intro W hW; go_simp; try with_reducible rfl))
  go_simp
  (refine wpAnyH_take (i := 11) (v := ?_) rfl (by kernel_rfl) (by kernel_rfl) (by kernel_rfl) (fun _ _ _ h => h) (Or.inl ⟨by rfl, ?_⟩) hS ?_; rotate_left; focus (intro W hW; go_simp; try with_reducible rfl))
  go_simp
  (refine wpAnyH_take (i := 14) (v := ?_) rfl (by kernel_rfl) (by kernel_rfl) (by kernel_rfl) (fun _ _ _ h => h) (Or.inl ⟨by rfl, ?_⟩) hS ?_; rotate_left; focus (intro W hW; go_simp; try with_reducible rfl))
  go_simp
  (refine wpAnyH_take (i := 12) (v := ?_) rfl (by kernel_rfl) (by kernel_rfl) (by kernel_rfl) (fun _ _ _ h => h) (Or.inl ⟨by rfl, ?_⟩) hS ?_; rotate_left; focus (intro W hW; go_simp; try with_reducible rfl))
  go_simp
  (refine wpAnyH_take (i := 15) (v := ?_) rfl (by kernel_rfl) (by kernel_rfl) (by kernel_rfl) (fun _ _ _ h => h) (Or.inl ⟨by rfl, ?_⟩) hS ?_; rotate_left; focus (intro W hW; go_simp; try with_reducible rfl))
  go_simp
  refine wpAnyH_done (by kernel_rfl) ?_ _
  clear hS
  go_wp2_with fail
  go_ret2
  exact ⟨.inr ⟨hm.out, rfl, hR.out.ext (ext_drew w)⟩, KeepT.ext (ext_drew w)⟩
theorem fx_any (m : Nat) (hm : m = 8 ∨ m = 4) (v : Value) (l : List Nat) (k r : Nat) (op : List Nat) (w0 w : World) (hS : Src w0 v l) (h : ∀ x ∈ l, x < 256) (hl : l.length ≤ 140737488355328) (hk : k ≤ l.length) (hR : RS w0 w r v k op) :
    Calls Try.prog 56 #[.pointer (some ⟨r, 0, none⟩), .bool (m == 8)] w (FxIs l w0 r v k op m w) := by
  rcases hm with rfl | rfl
  · by_cases hk8 : k + 8 ≤ l.length
    · exact fx8_ok v l k r op w0 w hS h hl hk hR hk8
    · exact fx8_no v l k r op w0 w hS h hl hk hR hk8
  · by_cases hk8 : k + 4 ≤ l.length
    · exact fx4_ok v l k r op w0 w hS h hl hk hR hk8
    · exact fx4_no v l k r op w0 w hS h hl hk hR hk8
def TxIs (l : List Nat) (w0 : World) (r : Nat) (v : Value) (k : Nat) (op : List Nat) (w : World) (e : Ending) (w' : World) : Prop :=
  ((vE l k 2 = 0 ∧ e = .returned (.tuple #[.string (strB ((l.drop (gAt l k)).take (gN l k))), .int .i64 0]) ∧ RS w0 w' r v (gAt l k + gN l k) op) ∨
   (vE l k 2 ≠ 0 ∧ e = .returned (.tuple #[.string ⟨#[]⟩, .int .i64 (vE l k 2 : Nat)]) ∧ ∃ p, RS w0 w' r v p op)) ∧ KeepT w w'
set_option maxHeartbeats 1000000 in
set_option maxRecDepth 100000 in
theorem tx_any (v : Value) (l : List Nat) (k r : Nat) (op : List Nat) (w0 w : World) (hS : Src w0 v l) (h : ∀ x ∈ l, x < 256) (hl : l.length ≤ 140737488355328) (hk : k ≤ l.length) (hR : RS w0 w r v k op) :
    Calls Try.prog 53 #[.pointer (some ⟨r, 0, none⟩)] w (TxIs l w0 r v k op w) := by
  have N := Lib.hid (num_any v l k r op w0 w hS h hl hk hR)
  have HK := Lib.hid fun w' (hb : Below w0.heap.size w0 w') => (hS.keep hb (Nat.le_refl _)).bytes
  have hgs := g_spec l k h hk
  obtain ⟨aa, cap, rfl, hcl, hcm, hcn, hcs⟩ := hS
  replace hcs := Lib.hid hcs
  replace h := Lib.hid h
  replace hgs := Lib.hid hgs
  obtain ⟨d0, d1, f1, -, hrl⟩ := hR.cells
  replace hR := Lib.hid hR
  clear d0 d1 f1 hrl
  go_enter Try.func53, Try.ntmps53
  go_wp2_with fail
  refine (N.out).mono ?_
  rintro e w1 ⟨⟨h0, rfl, R1⟩ | ⟨h0, rfl, R1⟩, K1⟩
  · have hgs' := hgs.out
    rw [h0] at hgs'
    obtain ⟨lN, hN⟩ : ∃ x, x = gN l k := ⟨_, rfl⟩
    obtain ⟨A, hA⟩ : ∃ x, x = gAt l k := ⟨_, rfl⟩
    rw [← hN, ← hA] at hgs'
    rw [← hA] at R1
    rw [← hN]
    obtain ⟨-, g1, g2, g3⟩ : 0 = 0 ∧ lN ≤ 18446744073709551615 ∧ k < A ∧ A ≤ l.length := by omega
    obtain ⟨d0, d1, f1, -, hrl⟩ := R1.cells
    replace h0 := Lib.hid h0
    replace hN := Lib.hid hN
    replace hA := Lib.hid hA
    replace R1 := Lib.hid R1
    replace K1 := Lib.hid K1
    have g3' : (A : Int) ≤ l.length := by omega
    have g1' : (lN : Int) ≤ 18446744073709551615 := by omega
    clear hgs' N
    have kw : IntKind.u64.wrap ((l.length : Int) - (A : Int)) = (l.length : Int) - (A : Int) := by rw [IntKind.wrap_u64]; omega
    have ki : IntKind.i64.wrap ((l.length : Int) - (A : Int)) = (l.length : Int) - (A : Int) := by rw [IntKind.wrap_i64]; omega
    by_cases hs : l.length - A < lN
    · have hs' : decide ((l.length : Int) - (A : Int) < (lN : Int)) = true := decide_eq_true (by omega)
      have hE : vE l k 2 = 2 := by unfold vE; rw [if_neg (by decide), if_neg (by decide), if_neg (by decide), if_pos rfl, if_neg (by simp [h0.out]), if_pos (by rw [← hN.out, ← hA.out]; exact hs)]
      replace hE := Lib.hid hE
      replace hs := Lib.hid hs
      go_wp2_with fail
      go_quiet (fail)
      go_wp2_with fail
      go_ret2
      exact ⟨.inr ⟨by rw [hE.out]; decide, by rw [hE.out]; rfl, A, R1.out.ext (below_drewN (Below.refl _ _) _)⟩, K1.out.trans (KeepT.ext (below_drewN (Below.refl _ _) _))⟩
    · have hs' : decide ((l.length : Int) - (A : Int) < (lN : Int)) = false := decide_eq_false (by omega)
      have hE : vE l k 2 = 0 := by unfold vE; rw [if_neg (by decide), if_neg (by decide), if_neg (by decide), if_pos rfl, if_neg (by simp [h0.out]), if_neg (by rw [← hN.out, ← hA.out]; exact hs)]
      replace hE := Lib.hid hE
      have hq : (A : Int) + lN ≤ l.length := by omega
      have hqn : A + lN ≤ l.length := by omega
      replace hs := Lib.hid hs
      clear g1 g1'
      go_wp2_with fail
      go_quiet (fail)
      have hB1 := Lib.hid (below_drewN (Below.refl w1.heap.size w1) nq)
      have R2 := Lib.hid ((R1.out.ext hB1.out).move (A + lN))
      have K2 := Lib.hid ((K1.out.trans (KeepT.ext hB1.out)).trans ((R1.out.ext hB1.out).keepMove (.int .i64 ((A + lN : Nat) : Int))))
      rw [show ((A + lN : Nat) : Int) = (A : Int) + lN by omega] at R2 K2
      have hW := HK.out _ R2.out.below
      obtain ⟨c0, c1, f2, -, -⟩ := R2.out.cells
      go_wp2_with fail
      generalize (w1.drewN nq).setCell ⟨r, 1, none⟩ (.int .i64 ((A : Int) + lN)) = w2 at *
      obtain ⟨S, hS⟩ : ∃ x, x = strB ((l.drop A).take lN) := ⟨_, rfl⟩
      have hlN : A + lN ≤ l.length := hqn
      have hcap : l.length ≤ cap := hcl
      have hcq : (A : Int) + lN ≤ cap := by omega
      obtain ⟨bb, o, rfl⟩ : ∃ bb o, aa = some ⟨bb, o, none⟩ := by
        rcases hcs.out with h | ⟨b, o, ha, -⟩
        · omega
        · exact ⟨b, o, ha⟩
      by_cases hcA : cap = A
      · obtain rfl : lN = 0 := by omega
        subst hcA
        have kc : ∀ n, (convert 25 9 (.slice (some ⟨bb, o, none⟩) 0 0)).run Try.prog (w2.drewN n) = .ok (.string S) (w2.drewN n) := fun n => by
          rw [hS]
          exact BytesAt.conv (P := Try.prog) (w := w2.drewN n) (l := (l.drop cap).take 0) ⟨some ⟨bb, o, none⟩, 0, rfl, ⟨by simp, fun h => by cases h⟩, .inl rfl⟩ Try.underlying25 Try.underlying5 Try.underlying9
        replace hS := Lib.hid hS
        clear hW
        go_quiet (fail)
        go_wp2_with fail
        go_ret2
        have hB3 := below_drewN (Below.refl w2.heap.size w2) nq
        unfold TxIs
        rw [← hN.out, ← hA.out, ← hS.out]
        exact ⟨.inl ⟨hE.out, rfl, R2.out.ext hB3⟩, K2.out.trans (KeepT.ext hB3)⟩
      · have kc : ∀ n, (convert 25 9 (.slice (some ⟨bb, o + A, none⟩) lN (cap - A))).run Try.prog (w2.drewN n) = .ok (.string S) (w2.drewN n) := fun n => by
          rw [hS]
          exact ((hW.keep (below_drewN (Below.refl w2.heap.size w2) n) (Nat.le_refl _)).sub A lN (cap - A) hlN (by omega)).conv (P := Try.prog) Try.underlying25 Try.underlying5 Try.underlying9
        replace hS := Lib.hid hS
        have hcA1 : A < cap := by omega
        have hcA2 : (A : Int) < cap := by omega
        clear hW hcA
        go_quiet (fail)
        go_wp2_with fail
        go_ret2
        have hB3 := below_drewN (Below.refl w2.heap.size w2) nq
        unfold TxIs
        rw [← hN.out, ← hA.out, ← hS.out]
        exact ⟨.inl ⟨hE.out, rfl, R2.out.ext hB3⟩, K2.out.trans (KeepT.ext hB3)⟩
  · have hE : vE l k 2 = gE l k := by unfold vE; rw [if_neg (by decide), if_neg (by decide), if_neg (by decide), if_pos rfl, if_pos h0]
    have h0' : ((gE l k : Int) != 0) = true := by simpa using h0
    replace h0 := Lib.hid h0
    replace hE := Lib.hid hE
    replace R1 := Lib.hid R1
    replace K1 := Lib.hid K1
    go_wp2_with fail
    go_ret2
    exact ⟨.inr ⟨by rw [hE.out]; exact h0.out, by rw [hE.out]; rfl, _, R1.out⟩, K1.out⟩
set_option maxHeartbeats 1000000 in
set_option maxRecDepth 100000 in
theorem begin_any (v : Value) (k r D : Nat) (op : List Nat) (w0 w : World) (hop8 : op.length ≤ 8) (hD : D ≤ 536870911) (hR : RS w0 w r v k op) :
    Calls Try.prog 54 #[.pointer (some ⟨r, 0, none⟩), .int .u64 (D : Nat)] w fun e w' => ((op.length = 8 ∧ e = .returned (.int .i64 12) ∧ RS w0 w' r v k op) ∨ (op.length < 8 ∧ e = .returned (.int .i64 0) ∧ RS w0 w' r v k (op ++ [D]))) ∧ KeepT w w' := by
  obtain ⟨i3, hi3, hy0, hy1, hy2⟩ := info_parts Try.info22
  replace hi3 := Lib.hid hi3
  replace hy0 := Lib.hid hy0
  replace hy1 := Lib.hid hy1
  replace hy2 := Lib.hid hy2
  obtain ⟨ov, hB, hown, hr0, hb⟩ := id hR
  obtain ⟨ap, cp, rfl⟩ := own_slice hown
  have d2 : w.cell? ⟨r, 2, none⟩ = some (.slice ap op.length cp) := hB.cell 2
  replace hB := Lib.hid hB
  replace hown := Lib.hid hown
  replace hR := Lib.hid hR
  replace hb := Lib.hid hb
  by_cases h8 : op.length = 8
  · have h8' : (op.length : Int) = 8 := by omega
    replace h8 := Lib.hid h8
    go_enter Try.func54, Try.ntmps54
    go_wp2_with fail
    go_ret
    exact ⟨.inl ⟨h8.out, rfl, hR.out⟩, KeepT.refl _⟩
  · have h8' : (op.length : Int) < 8 := by omega
    have h8n : op.length < 8 := by omega
    replace h8 := Lib.hid h8
    have zr := hb.out.size
    have hne := own_type hown.out hB.out (by decide)
    go_enter Try.func54, Try.ntmps54
    go_wp2_with (at_builtin; go_must (refine wpList_append_own_at _ rfl (.tmp 15) (.tmp 17) 72 rfl w0.heap.size 22 i3 (.int .u64 0) 1 8 Try.underlying72 hi3.out hy0.out hy1.out hy2.out rfl (by decide) _ op.length (ul op) rfl (hown.out.alloc _) ⟨w.heap.size, 0, none⟩ 1 1 [.int .u64 (D : Nat)] rfl rfl (cell_one_new _ _ _) (by intro u hu; simp at hu; subst hu; rfl) (by unfold maxLen; omega) (by omega) (by simp; omega) ?_); intro v1 w1 o1 gr1 n1 nb1; obtain ⟨a1, c1, rfl⟩ := own_slice o1; have B1 := Lib.hid ((hB.out.alloc _).grown gr1 hne); have f2 : w1.frozen? ⟨r, 2, none⟩ = false := B1.out.fz 2; have q2 : w1.cell? ⟨r, 2, none⟩ = some (.slice ap op.length cp) := B1.out.cell 2)
    go_ret
    have hL : ul op ++ [.int .u64 (D : Nat)] = ul (op ++ [D]) := by simp [ul]
    rw [hL] at o1
    have hn1 := own_type o1 B1.out (by decide)
    refine ⟨.inr ⟨h8n, rfl, _, by simpa using B1.out.set 2 _, ?_, hr0, ?_⟩, ?_⟩
    · rw [List.length_append, List.length_singleton]
      exact o1.kept (gset w1 r 2 _) (.inr fun e => hn1 e.symm)
    · exact ((hb.out.alloc (by omega) _).grown gr1 (by simp; omega) (fun j hj => (hown.out.lt j hj).1)).setCell hr0 _
    · exact ((KeepT.ext (ext_alloc w _)).trans (KeepT.grown (own_below hown.out (ext_alloc w _)) gr1)).trans (KeepT.set B1.out 2 _)
set_option maxHeartbeats 1000000 in
set_option maxRecDepth 100000 in
theorem end_any (v : Value) (k r D : Nat) (op : List Nat) (w0 w : World) (hop8 : op.length ≤ 8) (hD : D ≤ 536870911) (hR : RS w0 w r v k op) :
    Calls Try.prog 55 #[.pointer (some ⟨r, 0, none⟩), .int .u64 (D : Nat)] w fun e w' => ((op.getLast? ≠ some D ∧ e = .returned (.int .i64 4) ∧ RS w0 w' r v k op) ∨ (op.getLast? = some D ∧ e = .returned (.int .i64 0) ∧ RS w0 w' r v k op.dropLast)) ∧ KeepT w w' := by
  obtain ⟨ov, hB, hown, hr0, hb⟩ := id hR
  by_cases c0 : op = []
  · subst c0
    obtain ⟨ap, cp, rfl⟩ := own_slice hown
    have d2 : w.cell? ⟨r, 2, none⟩ = some (.slice ap (([] : List Nat).length : Nat) cp) := hB.cell 2
    replace hB := Lib.hid hB
    replace hown := Lib.hid hown
    replace hR := Lib.hid hR
    replace hb := Lib.hid hb
    go_enter Try.func55, Try.ntmps55
    go_wp2_with fail
    go_ret
    exact ⟨.inl ⟨by simp, rfl, hR.out⟩, KeepT.refl _⟩
  · obtain ⟨q, x, rfl⟩ : ∃ q x, op = q ++ [x] := ⟨_, _, (List.dropLast_concat_getLast c0).symm⟩
    rw [List.getLast?_concat, List.dropLast_concat]
    obtain ⟨gp, cp, hv5, hgp, hglt, hcap, hcl⟩ := own_at hown (by
      intro he
      obtain ⟨a5, c5, he2⟩ := own_slice hown
      rw [he2] at he
      simp at he)
    have hql : (q ++ [x]).length = q.length + 1 := by simp
    rw [hql] at hv5 hcap
    subst hv5
    have cx := hcl q.length (.int .u64 (x : Nat)) (by simp [ul])
    have hq8 : q.length + 1 ≤ 8 := by simpa using hop8
    have hql' : (q.length : Int) + 1 ≤ 8 := by omega
    have d2 : w.cell? ⟨r, 2, none⟩ = some (.slice (some ⟨gp, 0, none⟩) (q.length + 1) cp) := hB.cell 2
    have f2 := hB.fz 2
    have o5 : w.ownsRow w0.heap.size 22 1 (.slice (some ⟨gp, 0, none⟩) (q.length + 1) cp) (q.length + 1) (ul q ++ [.int .u64 (x : Nat)]) := by
      have := hown
      rw [hql, show ul (q ++ [x]) = ul q ++ [.int .u64 (x : Nat)] by simp [ul]] at this
      exact this
    have o6 := own_init o5
    replace hB := Lib.hid hB
    replace hown := Lib.hid hown
    replace o5 := Lib.hid o5
    replace o6 := Lib.hid o6
    replace hR := Lib.hid hR
    replace hb := Lib.hid hb
    clear hcl c0
    have hcap' : (q.length : Int) ≤ cp := by omega
    by_cases cx2 : x = D
    · subst cx2
      have hD' : (x : Int) ≤ 536870911 := by omega
      go_enter Try.func55, Try.ntmps55
      go_wp2_with fail
      go_ret
      have hn1 := own_type o6.out hB.out (by decide)
      refine ⟨.inr ⟨by simp, rfl, _, by simpa using hB.out.set 2 (.slice (some ⟨gp, 0, none⟩) q.length cp), ?_, hr0, hb.out.setCell hr0 _⟩, KeepT.set hB.out 2 _⟩
      exact o6.out.kept (gset w r 2 _) (.inr fun e => hn1 e.symm)
    · have cx3 : ((x : Int) != (D : Int)) = true := by simp; omega
      replace cx2 := Lib.hid cx2
      go_enter Try.func55, Try.ntmps55
      go_wp2_with fail
      go_ret
      exact ⟨.inl ⟨by simpa using cx2.out, rfl, hR.out⟩, KeepT.refl _⟩
end Go.Proofs.Ytoglgdkeknojkaa
