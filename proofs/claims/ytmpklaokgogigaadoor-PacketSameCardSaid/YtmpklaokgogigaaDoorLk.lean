/-
  LAYER 16: slices.Clone of filters and of numbers.
-/
import Derived.Test.YtmpklaokgogigaaDoorLd
import Derived.Lib.SliceRun
import Derived.Lib.OthersKept
namespace Go.Proofs.YtmpklaokgogigaaDoor.Pac
set_option linter.unusedVariables false
set_option linter.unusedSimpArgs false
open Go.Proofs.YtmpklaokgogigaaDoor
open Go.RowKit
theorem info56 : ∃ i z, Tryd.prog.info? 56 = some i ∧ i.zero = some z ∧ i.size = 2 ∧ i.bytes = 24 ∧ z.cells.size = 2 := by
  have h : (Tryd.prog.info? 56).map (fun i => (i.zero.map fun z => z.cells.size, i.size, i.bytes)) = some (some 2, 2, 24) := by kernel_rfl
  cases hi : Tryd.prog.info? 56 with
  | none => rw [hi] at h; cases h
  | some i =>
    rw [hi] at h
    simp only [Option.map_some, Option.some.injEq, Prod.mk.injEq] at h
    obtain ⟨h1, h2, h3⟩ := h
    cases hz : i.zero with
    | none => rw [hz] at h1; cases h1
    | some z => rw [hz] at h1; exact ⟨i, z, rfl, hz, h2, h3, by simpa using h1⟩
theorem info3 : ∃ i z, Tryd.prog.info? 3 = some i ∧ i.zero = some z ∧ i.size = 1 ∧ i.bytes = 8 ∧ z.cells.size = 1 := by
  have h : (Tryd.prog.info? 3).map (fun i => (i.zero.map fun z => z.cells.size, i.size, i.bytes)) = some (some 1, 1, 8) := by kernel_rfl
  cases hi : Tryd.prog.info? 3 with
  | none => rw [hi] at h; cases h
  | some i =>
    rw [hi] at h
    simp only [Option.map_some, Option.some.injEq, Prod.mk.injEq] at h
    obtain ⟨h1, h2, h3⟩ := h
    cases hz : i.zero with
    | none => rw [hz] at h1; cases h1
    | some z => rw [hz] at h1; exact ⟨i, z, rfl, hz, h2, h3, by simpa using h1⟩
theorem fis_cells {w : World} {b o : Nat} {l : List Fi} (h : ∀ i f, l[i]? = some f → w.cell? ⟨b, o + i * 2, none⟩ = some (.string f.t) ∧ w.cell? ⟨b, o + i * 2 + 1, none⟩ = some (.int .i64 f.q)) (j : Nat) (u : Value) (hj : (fisC l)[j]? = some u) : w.cell? ((⟨b, o, none⟩ : Addr).add j) = some u := by
  have hlt : j < l.length * 2 := by
    have := (List.getElem?_eq_some_iff.1 hj).1
    rwa [fisC_length] at this
  have hf : l[j / 2]? = some (l[j / 2]'(by omega)) := List.getElem?_eq_getElem (by omega)
  obtain ⟨g1, g2⟩ := fisC_get l (j / 2) _ hf
  obtain ⟨h1, h2⟩ := h (j / 2) _ hf
  rw [add_off]
  rcases Nat.mod_two_eq_zero_or_one j with hm | hm
  · have e : j / 2 * 2 = j := by omega
    rw [e] at g1 h1
    rw [h1, ← hj, g1]
  · have e : j / 2 * 2 + 1 = j := by omega
    rw [e] at g2
    rw [show o + j / 2 * 2 + 1 = o + j from by omega] at h2
    rw [h2, ← hj, g2]
theorem fisC_one (l : List Fi) : ∀ u ∈ fisC l, u.oneCell' = true := by
  intro u hu
  unfold fisC at hu
  obtain ⟨f, -, hf⟩ := List.mem_flatMap.1 hu
  simp only [Fi.cells, List.mem_cons, List.not_mem_nil, or_false] at hf
  rcases hf with rfl | rfl <;> rfl
def CloF (l : List Fi) (w : World) (e : Ending) (w' : World) : Prop := ∃ v', e = .returned v' ∧ (FisAt w' v' l ∧ Fresh w.heap.size v') ∧ Below w.heap.size w w'
def CloI (l : List Int) (w : World) (e : Ending) (w' : World) : Prop := ∃ v', e = .returned v' ∧ (IntsAt w' v' l ∧ Fresh w.heap.size v') ∧ Below w.heap.size w w'
set_option maxHeartbeats 1000000 in
set_option maxRecDepth 100000 in
theorem clone_f (v : Value) (l : List Fi) (w : World) (h : FisAt w v l) (hb : l.length * 24 ≤ 140737488355328) : Calls Tryd.prog 25 #[v] w (CloF l w) := by
  have q22 : ∀ (w : World) (a : Option Addr) (n c n' c' : Nat), (binOp .eql 30 (.slice a n c) (.slice none n' c')).run Tryd.prog w = .ok (.bool a.isNone) w := fun w a n c n' c' => Lib.run_eql_slice_nil w _ _ a n c n' c' Tryd.underlying30
  obtain ⟨a, cap, rfl, hl, hc⟩ := h
  obtain ⟨i0, z, hi, hz0, hz1, hz2, hzs⟩ := info56
  cases a with
  | none =>
    have hL : l = [] := by
      rcases hc with h | ⟨b, o, h, -⟩
      · exact h
      · cases h
    subst hL
    clear hc
    go_enter Tryd.func25, Tryd.ntmps25
    go_wp2
    go_ret
    exact ⟨_, rfl, ⟨fis_none _, fresh_nil _⟩, Below.refl _ _⟩
  | some ad =>
    have hcell : ∀ j u, (fisC l)[j]? = some u → w.cell? (ad.add j) = some u := by
      rcases hc with h | ⟨b, o, h, hlt, hcell⟩
      · subst h; intro j u hj; simp [fisC] at hj
      · simp only [Option.some.injEq] at h
        subst h
        exact fis_cells hcell
    clear hc
    replace hcell := Lib.hid hcell
    replace hi := Lib.hid hi
    replace hz0 := Lib.hid hz0
    replace hz1 := Lib.hid hz1
    replace hz2 := Lib.hid hz2
    replace hzs := Lib.hid hzs
    go_enter Tryd.func25, Tryd.ntmps25
    go_wp2_with (at_builtin; refine wpList_append_own _ rfl _ _ 30 rfl w.heap.size 56 i0 z 2 24 Tryd.underlying30 hi.out hz0.out hz1.out hz2.out hzs.out (by decide) (.slice (some ⟨w.heap.size, 0, none⟩) 0 0) 0 [] rfl (World.ownsRow_made w #[] 0 (Nat.le_refl _) (Nat.zero_le _) (by simp)) ad l.length cap (fisC l) rfl (fisC_length l) (fun j u hj => Lib.cell?_alloc_some _ (hcell.out j u hj)) (fisC_one l) (by unfold maxLen; omega) (by omega) (by simp) ?_; intro v1 w1 o1 g1 n1)
    go_ret
    have o2 : w1.ownsRow w.heap.size 56 2 v1 l.length (fisC l) := by simpa using o1
    exact ⟨_, rfl, ⟨FisAt.of_own o2 hl, fresh_own o2 (Nat.le_refl _)⟩, ((Below.refl _ w).alloc (Nat.le_refl _) _).grown g1 (by simp) (fun k hk => by simp [Value.ownBlock] at hk; omega)⟩
set_option maxHeartbeats 1000000 in
set_option maxRecDepth 100000 in
theorem clone_i (v : Value) (l : List Int) (w : World) (h : IntsAt w v l) (hb : l.length * 8 ≤ 140737488355328) : Calls Tryd.prog 26 #[v] w (CloI l w) := by
  have q22 : ∀ (w : World) (a : Option Addr) (n c n' c' : Nat), (binOp .eql 31 (.slice a n c) (.slice none n' c')).run Tryd.prog w = .ok (.bool a.isNone) w := fun w a n c n' c' => Lib.run_eql_slice_nil w _ _ a n c n' c' Tryd.underlying31
  obtain ⟨a, cap, rfl, hl, hc⟩ := h
  obtain ⟨i0, z, hi, hz0, hz1, hz2, hzs⟩ := info3
  cases a with
  | none =>
    have hL : l = [] := by
      rcases hc with h | ⟨b, o, h, -⟩
      · exact h
      · cases h
    subst hL
    clear hc
    go_enter Tryd.func26, Tryd.ntmps26
    go_wp2
    go_ret
    exact ⟨_, rfl, ⟨ints_none _, fresh_nil _⟩, Below.refl _ _⟩
  | some ad =>
    have hcell : ∀ j u, (il l)[j]? = some u → w.cell? (ad.add j) = some u := by
      rcases hc with h | ⟨b, o, h, hlt, hcell⟩
      · subst h; intro j u hj; simp [il] at hj
      · simp only [Option.some.injEq] at h
        subst h
        intro j u hj
        have hjl : j < l.length := by have := (List.getElem?_eq_some_iff.1 hj).1; simpa [il] using this
        rw [add_off, hcell j hjl, ← hj]
        simp [il, List.getD, List.getElem?_eq_getElem hjl]
    clear hc
    replace hcell := Lib.hid hcell
    replace hi := Lib.hid hi
    replace hz0 := Lib.hid hz0
    replace hz1 := Lib.hid hz1
    replace hz2 := Lib.hid hz2
    replace hzs := Lib.hid hzs
    go_enter Tryd.func26, Tryd.ntmps26
    go_wp2_with (at_builtin; refine wpList_append_own _ rfl _ _ 31 rfl w.heap.size 3 i0 z 1 8 Tryd.underlying31 hi.out hz0.out hz1.out hz2.out hzs.out (by decide) (.slice (some ⟨w.heap.size, 0, none⟩) 0 0) 0 [] rfl (World.ownsRow_made w #[] 0 (Nat.le_refl _) (Nat.zero_le _) (by simp)) ad l.length cap (il l) rfl (by simp [il]) (fun j u hj => Lib.cell?_alloc_some _ (hcell.out j u hj)) (by intro u hu; unfold il at hu; obtain ⟨x, -, rfl⟩ := List.mem_map.1 hu; rfl) (by unfold maxLen; omega) (by omega) (by simp) ?_; intro v1 w1 o1 g1 n1)
    go_ret
    have o2 : w1.ownsRow w.heap.size 3 1 v1 l.length (il l) := by simpa using o1
    exact ⟨_, rfl, ⟨IntsAt.of_own o2 hl, fresh_own o2 (Nat.le_refl _)⟩, ((Below.refl _ w).alloc (Nat.le_refl _) _).grown g1 (by simp) (fun k hk => by simp [Value.ownBlock] at hk; omega)⟩
end Go.Proofs.YtmpklaokgogigaaDoor.Pac
