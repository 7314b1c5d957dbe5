/-
  LAYER 31: items and metrics put behind a row of the call's own; a copy of items.
-/
import Derived.Test.YtihblangceblhaaDoorMb
import Derived.Laws.AppendOwn
import Derived.Laws.AppendOwnNone
import Derived.Maps.AppendAt
namespace Go.Proofs.YtihblangceblhaaDoor
set_option linter.unusedVariables false
set_option linter.unusedSimpArgs false
open Go.RowKit
theorem info37 : ∃ i z, Tryd.prog.info? 37 = some i ∧ i.zero = some z ∧ i.size = 8 ∧ i.bytes = 72 ∧ z.cells.size = 8 := by
  have h : (Tryd.prog.info? 37).map (fun i => (i.zero.map fun z => z.cells.size, i.size, i.bytes)) = some (some 8, 8, 72) := by kernel_rfl
  cases hi : Tryd.prog.info? 37 with
  | none => rw [hi] at h; cases h
  | some i =>
    rw [hi] at h
    simp only [Option.map_some, Option.some.injEq, Prod.mk.injEq] at h
    obtain ⟨h1, h2, h3⟩ := h
    cases hz : i.zero with
    | none => rw [hz] at h1; cases h1
    | some z => rw [hz] at h1; exact ⟨i, z, rfl, hz, h2, h3, by simpa using h1⟩
theorem info32 : ∃ i z, Tryd.prog.info? 32 = some i ∧ i.zero = some z ∧ i.size = 15 ∧ i.bytes = 176 ∧ z.cells.size = 15 := by
  have h : (Tryd.prog.info? 32).map (fun i => (i.zero.map fun z => z.cells.size, i.size, i.bytes)) = some (some 15, 15, 176) := by kernel_rfl
  cases hi : Tryd.prog.info? 32 with
  | none => rw [hi] at h; cases h
  | some i =>
    rw [hi] at h
    simp only [Option.map_some, Option.some.injEq, Prod.mk.injEq] at h
    obtain ⟨h1, h2, h3⟩ := h
    cases hz : i.zero with
    | none => rw [hz] at h1; cases h1
    | some z => rw [hz] at h1; exact ⟨i, z, rfl, hz, h2, h3, by simpa using h1⟩
theorem run_append_owned_nil {w : World} {P : Program} (base : Nat) (t ty e : TypeId) (i : TypeInfo) (size : Nat) (ht : P.underlying t = some (.slice e)) (hi : P.info? e = some i)
    (v : Value) (n c : Nat) (xs : List Value) (hown : w.ownsRow base e size v n xs) :
    (Builtin.append_ #[t, t] ty #[v, .slice none 0 c]).run P w = .ok v w := by
  rcases hown.2 with ⟨rfl, rfl⟩ | ⟨g, cap, cur, rfl, _, _, hnc, _⟩
  · simp [Builtin.append_, run_underlying ht, sizeOf, typeInfo, hi, Builtin.lenOf, Builtin.firstCells]
  · simp [Builtin.append_, run_underlying ht, sizeOf, typeInfo, hi, Builtin.lenOf, Builtin.firstCells, hnc, storeCells]
theorem its_cells {w : World} {b o : Nat} {L : List It} (h : ∀ i f, L[i]? = some f → ∀ j u, f.cells[j]? = some u → w.cell? ⟨b, o + i * 8 + j, none⟩ = some u) : ∀ j u, (itsAtC L)[j]? = some u → w.cell? ((⟨b, o, none⟩ : Addr).add j) = some u := by
  intro j u hj
  have hlt : j < L.length * 8 := by
    have := (List.getElem?_eq_some_iff.1 hj).1
    rwa [itsAtC_length] at this
  have hf : L[j / 8]? = some (L[j / 8]'(by omega)) := List.getElem?_eq_getElem (by omega)
  have hg := itsAtC_get L (j / 8) _ hf (j % 8) (Nat.mod_lt _ (by decide))
  rw [show j / 8 * 8 + j % 8 = j by omega, hj] at hg
  have hr := h (j / 8) _ hf (j % 8) u hg.symm
  rw [add_off', show o + j = o + j / 8 * 8 + j % 8 by omega]
  exact hr
theorem mts_cells {w : World} {b o : Nat} {L : List Mt} (h : ∀ i f, L[i]? = some f → ∀ j u, f.cells[j]? = some u → w.cell? ⟨b, o + i * 15 + j, none⟩ = some u) : ∀ j u, (mtsAtC L)[j]? = some u → w.cell? ((⟨b, o, none⟩ : Addr).add j) = some u := by
  intro j u hj
  have hlt : j < L.length * 15 := by
    have := (List.getElem?_eq_some_iff.1 hj).1
    rwa [mtsAtC_length] at this
  have hf : L[j / 15]? = some (L[j / 15]'(by omega)) := List.getElem?_eq_getElem (by omega)
  have hg := mtsAtC_get L (j / 15) _ hf (j % 15) (Nat.mod_lt _ (by decide))
  rw [show j / 15 * 15 + j % 15 = j by omega, hj] at hg
  have hr := h (j / 15) _ hf (j % 15) u hg.symm
  rw [add_off', show o + j = o + j / 15 * 15 + j % 15 by omega]
  exact hr
theorem wpList_append_its {P : Program} (w : World) {ops : Array Oper} {rest : List Oper} {o : Oper} {a : Act} {Q : Exit → Act → World → Prop} (hgd : o.guard = none) (s x : Operand) (t : TypeId)
    (ho : o.op = .call { callee := .builtin .append, args := #[s, x], argTypes := #[t, t] })
    (base : Nat) (e : TypeId) (i : TypeInfo) (z : Value) (ht : P.underlying t = some (.slice e)) (hi : P.info? e = some i) (hz : i.zero = some z) (hzs : z.cells.size = 8) (hsize : i.size = 8) (hby : i.bytes = 72)
    (v : Value) (L l : List It) (hs : a.eval s = v) (hown : w.ownsRow base e 8 v L.length (itsAtC L)) (hx : ItsAt w (a.eval x) l) (hlen : L.length + l.length ≤ 100000000) (hbase : base ≤ w.heap.size)
    (h : ∀ v' w', w'.ownsRow base e 8 v' (L ++ l).length (itsAtC (L ++ l)) → w.grownBy w' v.ownBlock → wpList P ops Q rest (a.put o.dst v') w') : wpList P ops Q (o :: rest) a w := by
  obtain ⟨ad, cap, hv, hm, hcase⟩ := hx
  cases ad with
  | none =>
    have hl : l = [] := by
      rcases hcase with h0 | ⟨b, o, h0, _⟩
      · exact h0
      · cases h0
    subst hl
    refine wpList_plain hgd fun K hK => ?_
    have hrun := run_append_owned_nil (P := P) (w := w) base t o.type e i 8 ht hi v L.length cap (itsAtC L) hown
    have hk := hK _ _ (h v w (by simpa using hown) ⟨rfl, rfl, rfl, Nat.le_refl _, fun _ _ _ => rfl⟩)
    unfold Oper.wp
    simp [execOp, ho, resolve, invoke, builtin, hs, hv, hrun, Result.andThen]
    exact hk
  | some ad =>
    have hcell : ∀ j u, (itsAtC l)[j]? = some u → w.cell? (ad.add j) = some u := by
      rcases hcase with h | ⟨b, o, h, hlt, hcell⟩
      · subst h; intro j u hj; simp [itsAtC] at hj
      · simp only [Option.some.injEq] at h
        subst h
        exact its_cells hcell
    refine wpList_append_own w hgd s x t ho base e i z 8 72 ht hi hz hsize hby hzs (by decide) v L.length (itsAtC L) hs hown ad l.length cap (itsAtC l) hv (itsAtC_length l) hcell (itsAtC_one l) (by unfold maxLen; omega) (by omega) hbase ?_
    intro v' w' h1 h2 _
    exact h v' w' (by rw [List.length_append, itsAtC_append]; exact h1) h2
theorem wpList_append_mts {P : Program} (w : World) {ops : Array Oper} {rest : List Oper} {o : Oper} {a : Act} {Q : Exit → Act → World → Prop} (hgd : o.guard = none) (s x : Operand) (t : TypeId)
    (ho : o.op = .call { callee := .builtin .append, args := #[s, x], argTypes := #[t, t] })
    (base : Nat) (e : TypeId) (i : TypeInfo) (z : Value) (ht : P.underlying t = some (.slice e)) (hi : P.info? e = some i) (hz : i.zero = some z) (hzs : z.cells.size = 15) (hsize : i.size = 15) (hby : i.bytes = 176)
    (v : Value) (L l : List Mt) (hs : a.eval s = v) (hown : w.ownsRow base e 15 v L.length (mtsAtC L)) (hx : MtsAt w (a.eval x) l) (hok : ∀ f ∈ l, f.ok) (hlen : L.length + l.length ≤ 100000000) (hbase : base ≤ w.heap.size)
    (h : ∀ v' w', w'.ownsRow base e 15 v' (L ++ l).length (mtsAtC (L ++ l)) → w.grownBy w' v.ownBlock → wpList P ops Q rest (a.put o.dst v') w') : wpList P ops Q (o :: rest) a w := by
  obtain ⟨ad, cap, hv, hm, hcase⟩ := hx
  cases ad with
  | none =>
    have hl : l = [] := by
      rcases hcase with h0 | ⟨b, o, h0, _⟩
      · exact h0
      · cases h0
    subst hl
    refine wpList_plain hgd fun K hK => ?_
    have hrun := run_append_owned_nil (P := P) (w := w) base t o.type e i 15 ht hi v L.length cap (mtsAtC L) hown
    have hk := hK _ _ (h v w (by simpa using hown) ⟨rfl, rfl, rfl, Nat.le_refl _, fun _ _ _ => rfl⟩)
    unfold Oper.wp
    simp [execOp, ho, resolve, invoke, builtin, hs, hv, hrun, Result.andThen]
    exact hk
  | some ad =>
    have hcell : ∀ j u, (mtsAtC l)[j]? = some u → w.cell? (ad.add j) = some u := by
      rcases hcase with h | ⟨b, o, h, hlt, hcell⟩
      · subst h; intro j u hj; simp [mtsAtC] at hj
      · simp only [Option.some.injEq] at h
        subst h
        exact mts_cells hcell
    refine wpList_append_own w hgd s x t ho base e i z 15 176 ht hi hz hsize hby hzs (by decide) v L.length (mtsAtC L) hs hown ad l.length cap (mtsAtC l) hv (mtsAtC_length l) hcell (mtsAtC_one l hok) (by unfold maxLen; omega) (by omega) hbase ?_
    intro v' w' h1 h2 _
    exact h v' w' (by rw [List.length_append, mtsAtC_append]; exact h1) h2
def CloneP (L : List It) (w : World) (e : Ending) (w' : World) : Prop := ∃ v', e = .returned v' ∧ w'.ownsRow w.heap.size 37 8 v' L.length (itsAtC L) ∧ Below w.heap.size w w'
set_option maxHeartbeats 1000000 in
set_option maxRecDepth 100000 in
theorem clone_any (v : Value) (L : List It) (w : World) (h : ItsAt w v L) (hbL : L.length ≤ 100000000) : Calls Tryd.prog 31 #[v] w (CloneP L w) := by
  have q22 : ∀ (w : World) (a : Option Addr) (n c n' c' : Nat), (binOp .eql 33 (.slice a n c) (.slice none n' c')).run Tryd.prog w = .ok (.bool a.isNone) w := fun w a n c n' c' => Lib.run_eql_slice_nil w _ _ a n c n' c' Tryd.underlying33
  obtain ⟨a, cap, rfl, hl, hc⟩ := h
  obtain ⟨i0, z, hi, hz0, hz1, hz2, hzs⟩ := info37
  cases a with
  | none =>
    have hL : L = [] := by
      rcases hc with h | ⟨b, o, h, -⟩
      · exact h
      · cases h
    subst hL
    clear hc
    go_enter Tryd.func31, Tryd.ntmps31
    go_wp2
    go_ret
    exact ⟨_, rfl, by simpa [itsAtC] using World.ownsRow_nil _ _ _ _, Below.refl _ _⟩
  | some ad =>
    have hcell : ∀ j u, (itsAtC L)[j]? = some u → w.cell? (ad.add j) = some u := by
      rcases hc with h | ⟨b, o, h, hlt, hcell⟩
      · subst h; intro j u hj; simp [itsAtC] at hj
      · simp only [Option.some.injEq] at h
        subst h
        exact its_cells hcell
    clear hc
    replace hcell := Lib.hid hcell
    replace hi := Lib.hid hi
    replace hz0 := Lib.hid hz0
    replace hz1 := Lib.hid hz1
    replace hz2 := Lib.hid hz2
    replace hzs := Lib.hid hzs
    go_enter Tryd.func31, Tryd.ntmps31
    go_wp2_with (at_builtin; refine wpList_append_own _ rfl _ _ 33 rfl w.heap.size 37 i0 z 8 72 Tryd.underlying33 hi.out hz0.out hz1.out hz2.out hzs.out (by decide) (.slice (some ⟨w.heap.size, 0, none⟩) 0 0) 0 [] rfl (World.ownsRow_made w #[] 0 (Nat.le_refl _) (Nat.zero_le _) (by simp)) ad L.length cap (itsAtC L) rfl (itsAtC_length L) (fun j u hj => Lib.cell?_alloc_some _ (hcell.out j u hj)) (itsAtC_one L) (by unfold maxLen; omega) (by omega) (by simp) ?_; intro v1 w1 o1 g1 n1)
    go_ret
    exact ⟨_, rfl, by simpa using o1, ((Below.refl _ w).alloc (Nat.le_refl _) _).grown g1 (by simp) (fun k hk => by simp [Value.ownBlock] at hk; omega)⟩
end Go.Proofs.YtihblangceblhaaDoor
