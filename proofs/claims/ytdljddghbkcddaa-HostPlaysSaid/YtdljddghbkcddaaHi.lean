/-
  LAYER 34: All.
-/
import Derived.Test.YtdljddghbkcddaaHh
import Derived.Deep.RegionHeldLaw
import Derived.Laws.AppendOwn
import Derived.StillTailTactics
namespace Go.Proofs.Ytdljddghbkcddaa.Hst
open Go.RowKit Go.Maps Go.WideMaps Go.Lib
def hcC (l : List Host) : List Value := l.flatMap encH
theorem hcC_len (l : List Host) : (hcC l).length = l.length * 2 := by
  induction l with
  | nil => rfl
  | cons x l ih => simp only [hcC, List.flatMap_cons, List.length_append] at ih ⊢; rw [ih]; simp [encH]; omega
theorem hcC_get : ∀ {l : List Host} {i : Nat} {x : Host}, l[i]? = some x → (hcC l)[i * 2]? = some (.string x.1) ∧ (hcC l)[i * 2 + 1]? = some (.bool x.2)
  | [], i, x, h => by simp at h
  | y :: l, 0, x, h => by simp at h; subst h; exact ⟨rfl, rfl⟩
  | y :: l, i + 1, x, h => by
    have := hcC_get (l := l) (i := i) (x := x) (by simpa using h)
    have e : hcC (y :: l) = .string y.1 :: .bool y.2 :: hcC l := rfl
    rw [e, show (i + 1) * 2 = i * 2 + 1 + 1 by omega]
    exact this
theorem hcC_one (l : List Host) : ∀ u ∈ hcC l, u.oneCell' = true := by
  intro u hu
  obtain ⟨x, -, hx⟩ := List.mem_flatMap.1 hu
  simp [encH] at hx
  rcases hx with rfl | rfl <;> rfl
theorem hcC_cells {w : World} {ad : Addr} {l : List Host} (h : ∀ i x, l[i]? = some x → w.cell? (ad.add (i * 2)) = some (.string x.1) ∧ w.cell? (ad.add (i * 2 + 1)) = some (.bool x.2)) : ∀ j u, (hcC l)[j]? = some u → w.cell? (ad.add j) = some u := by
  intro j u hj
  have hlt : j < l.length * 2 := by
    have := (List.getElem?_eq_some_iff.1 hj).1
    rwa [hcC_len] at this
  obtain ⟨x, hx⟩ : ∃ x, l[j / 2]? = some x := ⟨_, List.getElem?_eq_getElem (by omega)⟩
  obtain ⟨c1, c2⟩ := h _ _ hx
  obtain ⟨g1, g2⟩ := hcC_get hx
  rcases (by omega : j / 2 * 2 = j ∨ j / 2 * 2 + 1 = j) with e | e
  · rw [e] at c1 g1
    rw [hj] at g1
    rw [c1, Option.some.inj g1]
  · rw [e] at c2 g2
    rw [hj] at g2
    rw [c2, Option.some.inj g2]
def zH : Value := .agg #[.string { data := #[] }, .bool false]
theorem info63 : (Try.prog.info? 63).map (fun i => (i.zero, i.size, i.bytes)) = some (some zH, 2, 24) := by kernel_rfl
theorem info63' : ∃ i, Try.prog.info? 63 = some i ∧ i.zero = some zH ∧ i.size = 2 ∧ i.bytes = 24 := by
  have := info63
  cases h : Try.prog.info? 63 with
  | none => rw [h] at this; simp at this
  | some i => rw [h] at this; simp at this; exact ⟨i, rfl, this.1, this.2.1, this.2.2⟩
/-- The cells of a slice of hosts. -/
def HcAt (w : World) (blk : Nat) (l : List Host) : Prop := ∀ i x, l[i]? = some x → w.cell? ⟨blk, i * 2, none⟩ = some (.string x.1) ∧ w.cell? ⟨blk, i * 2 + 1, none⟩ = some (.bool x.2)
def ClP (l : List Host) (w : World) (e : Ending) (w' : World) : Prop :=
  ∃ blk cap, e = .returned (.slice (some ⟨blk, 0, none⟩) l.length cap) ∧ w.heap.size ≤ blk ∧ blk < w'.heap.size ∧ HcAt w' blk l ∧ (∀ j, w'.frozen? ⟨blk, j, none⟩ = false) ∧ Below w.heap.size w w'
set_option maxHeartbeats 1000000 in
set_option maxRecDepth 100000 in
theorem hclone (ad : Addr) (cap : Nat) (l : List Host) (w : World) (hl : l.length ≤ 4) (hc : ∀ i x, l[i]? = some x → w.cell? (ad.add (i * 2)) = some (.string x.1) ∧ w.cell? (ad.add (i * 2 + 1)) = some (.bool x.2)) : Calls Try.prog 39 #[.slice (some ad) l.length cap] w (ClP l w) := by
  have q22 : ∀ (w : World) (a : Option Addr) (n c n' c' : Nat), (binOp .eql 57 (.slice a n c) (.slice none n' c')).run Try.prog w = .ok (.bool a.isNone) w := fun w a n c n' c' => Lib.run_eql_slice_nil w _ _ a n c n' c' Try.underlying57
  obtain ⟨i0, hi, hz0, hz1, hz2⟩ := info63'
  have hcell := Lib.hid (hcC_cells hc)
  clear hc
  replace hi := Lib.hid hi
  replace hz0 := Lib.hid hz0
  replace hz1 := Lib.hid hz1
  replace hz2 := Lib.hid hz2
  go_enter Try.func39, Try.ntmps39
  go_wp2_with (at_builtin; refine wpList_append_own _ rfl _ _ 57 rfl w.heap.size 63 i0 zH 2 24 Try.underlying57 hi.out hz0.out hz1.out hz2.out rfl (by decide) (.slice (some ⟨w.heap.size, 0, none⟩) 0 0) 0 [] rfl (World.ownsRow_made w #[] 0 (Nat.le_refl _) (Nat.zero_le _) (by simp)) ad l.length cap (hcC l) rfl (hcC_len l) (fun j u hj => Lib.cell?_alloc_some _ (hcell.out j u hj)) (hcC_one l) (by unfold maxLen; omega) (by omega) (by simp) ?_; intro v1 w1 o1 g1 n1)
  go_ret
  have hne : v1 ≠ .slice none 0 0 := fun e => by have := (n1.1 e).1; simp at this
  have hb : Below w.heap.size w w1 := ((Below.refl _ w).alloc (Nat.le_refl _) _).grown g1 (by simp) (fun k hk => by simp [Value.ownBlock] at hk; omega)
  rw [Nat.zero_add, List.nil_append] at o1
  rcases o1.2 with ⟨h, -⟩ | ⟨g, cp, cur, rfl, hB, hcur, hn, hm, hs, ht⟩
  · exact absurd h hne
  · have hcc : ∀ j u, (hcC l)[j]? = some u → w1.cell? ⟨g, j, none⟩ = some u := fun j u hj => by
      rw [cell_of_row w1 g j _ _ _ hcur]
      have : (cur.toList.take (l.length * 2))[j]? = some u := by rw [ht]; exact hj
      rw [List.getElem?_take] at this
      split at this
      · simpa using this
      · cases this
    refine ⟨g, cp, rfl, hB, (Array.getElem?_eq_some_iff.1 hcur).1, fun i x hx => ⟨hcc _ _ (hcC_get hx).1, hcc _ _ (hcC_get hx).2⟩, fun j => frozen_of_row w1 g j _ 63 hcur, hb⟩
theorem step_len_own {H : Type} {P : Program} {ops : Array Oper} {o : Oper} {a : Act} {w : World} {K : Act → World → Prop} {Q : Exit → Act → World → Prop} {E : Prop}
    (hg : o.guard = none) (m : Operand) (t : TypeId) (hop : o.op = Op.call { callee := Callee.builtin Builtin.len, args := #[m], argTypes := #[t] })
    (k e : TypeId) (ht : P.underlying t = some (.map k e)) (R : Value → Option (DataW H × List MemPlace)) (b n : Nat) (D : DataW H) (hm : a.eval m = .map (some b)) (hown : w.ownsMap P k R b n D)
    (hK : K (a.put o.dst (.int .i64 (Maps.size D))) w) : if Region.wanted o (yielded ops a.tmps) = true then Oper.wp P o a w K Q else E := by
  have hw : Region.wanted o (yielded ops a.tmps) = true := by simp [Region.wanted, hg]
  rw [if_pos hw]
  have hrun := hown.len (P := P) ht o.type
  unfold Oper.wp
  simp [execOp, hop, resolve, invoke, builtin, hm, hrun, Result.andThen]
  exact hK
def AllP (w : World) (l : List Host) (e : Ending) (w' : World) : Prop :=
  ∃ blk cap l2, e = .returned (.slice (some ⟨blk, 0, none⟩) l.length cap) ∧ w.heap.size ≤ blk ∧ l2.Perm l ∧ Rise l2 ∧ HcAt w' blk l2 ∧ Below w.heap.size w w'
theorem none38 (g m : Nat) (w : World) (ca : w.cell? ⟨g, 0, none⟩ = some (.map (some m))) : Calls Try.prog 38 #[.pointer (some ⟨g, 0, none⟩)] w fun e w' => e = .returned (.bool false) ∧ w = w' := by
  have hmn := fun (W : World) (b : Option Nat) => run_eql_map_nil (P := Try.prog) W 87 9 3 b Try.underlying87
  go_enter Try.func38, Try.ntmps38
  go_wp2
  go_ret
  exact ⟨rfl, rfl⟩
set_option maxHeartbeats 2000000 in
set_option maxRecDepth 100000 in
theorem all_any (g m n : Nat) (kn : List Host) (D : DataW Unit) (w : World) (h : Hs w g m n kn D) : Calls Try.prog 23 #[.pointer (some ⟨g, 0, none⟩)] w (AllP w (kn.take n)) := by
  have hmn := fun (W : World) (b : Option Nat) => run_eql_map_nil (P := Try.prog) W 87 9 3 b Try.underlying87
  have al := Try.alen88
  have ca := h.at
  have hle := h.le
  have hln := h.len
  have hz := h.size
  have n4 : (n : Int) ≤ 4 := by omega
  have hlt : (kn.take n).length = n := by rw [List.length_take]; omega
  have OW := Lib.hid (fun W (hW : Below w.heap.size w W) => (h.keep hW).map)
  have CL : Hid (∀ W, Below w.heap.size w W → Calls Try.prog 39 #[.slice (some ⟨g, 1, none⟩) n 4] W (ClP (kn.take n) W)) := Lib.hid fun W hW => by
    have := hclone ⟨g, 1, none⟩ 4 (kn.take n) W (by omega) (fun i x hx => by
      have hi : i < n := by have := (List.getElem?_eq_some_iff.1 hx).1; omega
      obtain ⟨y, hy, c1, c2⟩ := (h.keep hW).cells i (by omega)
      rw [List.getElem?_take, if_pos hi] at hx
      obtain rfl := Option.some.inj (hx.symm.trans hy)
      have e1 : (⟨g, 1, none⟩ : Addr).add (i * 2) = ⟨g, 1 + i * 2, none⟩ := by unfold Addr.add; split <;> simp_all
      have e2 : (⟨g, 1, none⟩ : Addr).add (i * 2 + 1) = ⟨g, 1 + i * 2 + 1, none⟩ := by unfold Addr.add; split <;> simp_all [Nat.add_assoc]
      rw [e1, e2]
      exact ⟨c1, c2⟩)
    rwa [hlt] at this
  have N := Lib.hid (none38 g m w ca)
  have KS : Hid (∀ W, Below w.heap.size w W → W.cell? ⟨g, 0, none⟩ = some (.map (some m)) ∧ Below w.heap.size w W) := Lib.hid fun W hW => ⟨(h.keep hW).at, hW⟩
  obtain ⟨l, hl⟩ : ∃ l, l = kn.take n := ⟨_, rfl⟩
  rw [← hl] at CL hlt ⊢
  clear h hln hl
  subst hlt
  go_enter Try.func23, Try.ntmps23
  go_wp2_with fail
  refine N.out.mono ?_
  rintro e w1 ⟨rfl, rfl⟩
  have zl : l.length ≤ 4 := hle
  go_wp2_with fail
  go_region_held_law (fun W => W.cell? ⟨g, 0, none⟩ = some (.map (some m)) ∧ Below w.heap.size w W)
    (first | exact KS.out _ (Below.refl _ _) | exact KS.out _ (ext_drew _) | exact KS.out _ b5 | exact KS.out _ (ext_trans (ext_drew _) b5) | exact KS.out _ (Below.drew b5))
    (first
      | (refine step_len_own rfl (.tmp 12) 87 rfl 9 3 Try.underlying87 (plainElem (H := Unit) Try.prog 3) m l.length D rfl (OW.out _ (by first | exact Below.refl _ _ | exact ext_drew _)) ?_; rw [hz])
      | (go_at_call 39; refine (CL.out _ (by first | exact Below.refl _ _ | exact ext_drew _)).mono ?_; rintro e w5 ⟨blk, cap, rfl, hb5, hlt5, hc5, hf5, b5⟩))
  have b6 : Below w.heap.size w w5 := (ext_drew w).trans b5
  have SO := Lib.hid (hsort w.heap.size blk cap l w5 hb5 hlt5 zl hc5 hf5)
  replace b6 := Lib.hid b6
  replace hb5 := Lib.hid hb5
  clear hc5 hf5 b5 CL KS OW N
  go_wp2_with fail
  refine SO.out.mono ?_
  rintro e w6 ⟨rfl, b7, l2, hp, hr, hc⟩
  have Z : Hid (AllP w l (.returned (.slice (some ⟨blk, 0, none⟩) l.length cap)) w6) := Lib.hid ⟨blk, cap, l2, rfl, hb5.out, hp, hr, hc, b6.out.trans b7⟩
  clear b7 hp hr hc SO
  go_wp2
  go_ret
  exact Z.out
end Go.Proofs.Ytdljddghbkcddaa.Hst
