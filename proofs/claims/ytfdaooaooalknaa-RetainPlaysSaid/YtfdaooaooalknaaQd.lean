/-
  LAYER 27: the document's Keep.
-/
import Derived.Test.YtfdaooaooalknaaQc
import Derived.Deep.RegionHeld3
namespace Go.Proofs.Ytfdaooaooalknaa
set_option linter.unusedVariables false
set_option linter.unusedSimpArgs false
open Go.RowKit Go.Maps Go.WideMaps
def xH (L : List Mg) (t x : ByteArray) : Bool := if nameB t = false then false else if x.size = 0 then thr t L else thr t L
def xE (L : List Mg) (t x : ByteArray) : Int := if nameB t = false then 13 else if x.size = 0 then 0 else if thr t L = false ∧ 32 ≤ L.length then 6 else 0
def XKeepIs (w : World) (gx B : Nat) (L : List Mg) (t x : ByteArray) (q : Int) (e : Ending) (w' : World) : Prop :=
  e = .returned (.tuple #[.bool (xH L t x), .int .i64 (xE L t x)]) ∧ Xs w' gx B (kL L t x q) ∧ Aw B gx w w'
theorem set_grown' {w : World} {g j : Nat} {u : Value} : w.grownBy (w.setCell ⟨g, j, none⟩ u) (some g) :=
  ⟨rfl, rfl, rfl, by simp, fun i _ hne => Below.heap_setCell w _ _ _ (fun e => hne (by rw [e]))⟩
theorem at4 {α : Type} (l : List α) (j : Nat) (a b c d : α) (h : j + 4 ≤ l.length) (i : Nat) : ((((l.set j a).set (j + 1) b).set (j + 2) c).set (j + 3) d)[i]? = if i = j then some a else if i = j + 1 then some b else if i = j + 2 then some c else if i = j + 3 then some d else l[i]? := by
  simp only [List.getElem?_set, List.length_set]
  by_cases h0 : i = j
  · subst h0; simp; omega
  by_cases h1 : i = j + 1
  · subst h1; simp; omega
  by_cases h2 : i = j + 2
  · subst h2; simp; omega
  by_cases h3 : i = j + 3
  · subst h3; simp; omega
  rw [if_neg h0, if_neg h1, if_neg h2, if_neg h3, if_neg (by omega), if_neg (by omega), if_neg (by omega), if_neg (by omega)]
def set4 (w : World) (g j : Nat) (n : Mg) : World := (((w.setCell ⟨g, j, none⟩ (.string n.a0)).setCell ⟨g, j + 1, none⟩ (.string n.a1)).setCell ⟨g, j + 2, none⟩ (.int .i64 n.a2)).setCell ⟨g, j + 3, none⟩ (.bool n.a3)
theorem set4_grown (w : World) (g j : Nat) (n : Mg) : w.grownBy (set4 w g j n) (some g) :=
  ⟨rfl, rfl, rfl, by simp [set4], fun i _ hne => by
    have e : i ≠ g := fun e => hne (by rw [e])
    unfold set4
    rw [Below.heap_setCell _ _ _ _ e, Below.heap_setCell _ _ _ _ e, Below.heap_setCell _ _ _ _ e, Below.heap_setCell _ _ _ _ e]⟩
theorem own_set {w : World} {B g cap : Nat} {L : List Mg} (h : w.ownsRow B 33 4 (.slice (some ⟨g, 0, none⟩) L.length cap) L.length (msAtC L)) (k : Nat) (hk : k < L.length) (n : Mg) :
    (set4 w g (k * 4) n).ownsRow B 33 4 (.slice (some ⟨g, 0, none⟩) (L.set k n).length cap) (L.set k n).length (msAtC (L.set k n)) := by
  obtain ⟨h1, h2⟩ := h
  rcases h2 with ⟨e, -⟩ | ⟨g', cap', cur, e, hb, hgg, hnc, hcm, hcs, ht⟩
  · cases e
  · simp only [Value.slice.injEq, Option.some.injEq, Addr.mk.injEq, and_true, true_and] at e
    obtain ⟨rfl, rfl⟩ := e
    have hl : (msAtC L).length = L.length * 4 := msAtC_length L
    have hcl : L.length * 4 ≤ cur.toList.length := by
      have := congrArg List.length ht
      rw [List.length_take, hl] at this
      omega
    refine ⟨by rw [msAtC_length], .inr ⟨g, cap, (((cur.setIfInBounds (k * 4) (.string n.a0)).setIfInBounds (k * 4 + 1) (.string n.a1)).setIfInBounds (k * 4 + 2) (.int .i64 n.a2)).setIfInBounds (k * 4 + 3) (.bool n.a3), rfl, hb, ?_, by rw [List.length_set]; exact hnc, hcm, by simpa using hcs, ?_⟩⟩
    · have a1 := heap_setCell_same w g (k * 4) cur 33 (.string n.a0) hgg
      have a2 := heap_setCell_same _ g (k * 4 + 1) _ 33 (.string n.a1) a1
      have a3 := heap_setCell_same _ g (k * 4 + 2) _ 33 (.int .i64 n.a2) a2
      exact heap_setCell_same _ g (k * 4 + 3) _ 33 (.bool n.a3) a3
    · apply List.ext_getElem?
      intro i
      simp only [Array.toList_setIfInBounds]
      rw [List.getElem?_take, List.length_set]
      by_cases hi : i < L.length * 4
      · rw [if_pos hi, at4 _ _ _ _ _ _ (by omega)]
        have hj : i / 4 < L.length := by omega
        have ei : i = i / 4 * 4 + i % 4 := by omega
        have hf : (L.set k n)[i / 4]? = some ((L.set k n)[i / 4]'(by rw [List.length_set]; exact hj)) := List.getElem?_eq_getElem (by rw [List.length_set]; exact hj)
        have hx := msAtC_get (L.set k n) (i / 4) _ hf (i % 4) (Nat.mod_lt _ (by decide))
        rw [← ei] at hx
        by_cases hik : i / 4 = k
        · have hn : (L.set k n)[i / 4]'(by rw [List.length_set]; exact hj) = n := by
            subst hik
            exact List.getElem_set_self _
          rw [hx, hn]
          rcases (by omega : i % 4 = 0 ∨ i % 4 = 1 ∨ i % 4 = 2 ∨ i % 4 = 3) with hm | hm | hm | hm
          · rw [if_pos (by omega), hm]; rfl
          · rw [if_neg (by omega), if_pos (by omega), hm]; rfl
          · rw [if_neg (by omega), if_neg (by omega), if_pos (by omega), hm]; rfl
          · rw [if_neg (by omega), if_neg (by omega), if_neg (by omega), if_pos (by omega), hm]; rfl
        · rw [if_neg (by omega), if_neg (by omega), if_neg (by omega), if_neg (by omega)]
          have ho : L[i / 4]? = some ((L.set k n)[i / 4]'(by rw [List.length_set]; exact hj)) := by
            rw [List.getElem_set_ne (Ne.symm hik), List.getElem?_eq_getElem hj]
          have hy := msAtC_get L (i / 4) _ ho (i % 4) (Nat.mod_lt _ (by decide))
          rw [← ei, ← ht, List.getElem?_take, if_pos hi] at hy
          rw [hx, hy]
      · rw [if_neg hi, List.getElem?_eq_none (by rw [msAtC_length, List.length_set]; omega)]
theorem held4 {W : World} {gx g n cap b k : Nat} {t x : ByteArray} {q : Int} (h1 : gx ≠ g) (h2 : b ≠ g) (h : (W.cell? ⟨gx, 0, none⟩ = some (.slice (some ⟨g, 0, none⟩) n cap) ∧ W.cell? ⟨b, 0, none⟩ = some (.string t) ∧ W.cell? ⟨b, 1, none⟩ = some (.string x) ∧ W.cell? ⟨b, 2, none⟩ = some (.int .i64 q) ∧ W.cell? ⟨b, 3, none⟩ = some (.bool true))) : (((((W.setCell ⟨g, k * 4, none⟩ (.string t)).setCell ⟨g, k * 4 + 1, none⟩ (.string x)).setCell ⟨g, k * 4 + 2, none⟩ (.int .i64 q)).setCell ⟨g, k * 4 + 3, none⟩ (.bool true)).cell? ⟨gx, 0, none⟩ = some (.slice (some ⟨g, 0, none⟩) n cap) ∧ ((((W.setCell ⟨g, k * 4, none⟩ (.string t)).setCell ⟨g, k * 4 + 1, none⟩ (.string x)).setCell ⟨g, k * 4 + 2, none⟩ (.int .i64 q)).setCell ⟨g, k * 4 + 3, none⟩ (.bool true)).cell? ⟨b, 0, none⟩ = some (.string t) ∧ ((((W.setCell ⟨g, k * 4, none⟩ (.string t)).setCell ⟨g, k * 4 + 1, none⟩ (.string x)).setCell ⟨g, k * 4 + 2, none⟩ (.int .i64 q)).setCell ⟨g, k * 4 + 3, none⟩ (.bool true)).cell? ⟨b, 1, none⟩ = some (.string x) ∧ ((((W.setCell ⟨g, k * 4, none⟩ (.string t)).setCell ⟨g, k * 4 + 1, none⟩ (.string x)).setCell ⟨g, k * 4 + 2, none⟩ (.int .i64 q)).setCell ⟨g, k * 4 + 3, none⟩ (.bool true)).cell? ⟨b, 2, none⟩ = some (.int .i64 q) ∧ ((((W.setCell ⟨g, k * 4, none⟩ (.string t)).setCell ⟨g, k * 4 + 1, none⟩ (.string x)).setCell ⟨g, k * 4 + 2, none⟩ (.int .i64 q)).setCell ⟨g, k * 4 + 3, none⟩ (.bool true)).cell? ⟨b, 3, none⟩ = some (.bool true)) := by
  obtain ⟨a0, a1, a2, a3, a4⟩ := h
  have b1 : ((((W.setCell ⟨g, k * 4, none⟩ (.string t)).setCell ⟨g, k * 4 + 1, none⟩ (.string x)).setCell ⟨g, k * 4 + 2, none⟩ (.int .i64 q)).setCell ⟨g, k * 4 + 3, none⟩ (.bool true)).heap[gx]? = W.heap[gx]? := by
    rw [Below.heap_setCell _ _ _ _ h1, Below.heap_setCell _ _ _ _ h1, Below.heap_setCell _ _ _ _ h1, Below.heap_setCell _ _ _ _ h1]
  have b2 : ((((W.setCell ⟨g, k * 4, none⟩ (.string t)).setCell ⟨g, k * 4 + 1, none⟩ (.string x)).setCell ⟨g, k * 4 + 2, none⟩ (.int .i64 q)).setCell ⟨g, k * 4 + 3, none⟩ (.bool true)).heap[b]? = W.heap[b]? := by
    rw [Below.heap_setCell _ _ _ _ h2, Below.heap_setCell _ _ _ _ h2, Below.heap_setCell _ _ _ _ h2, Below.heap_setCell _ _ _ _ h2]
  generalize ((((W.setCell ⟨g, k * 4, none⟩ (.string t)).setCell ⟨g, k * 4 + 1, none⟩ (.string x)).setCell ⟨g, k * 4 + 2, none⟩ (.int .i64 q)).setCell ⟨g, k * 4 + 3, none⟩ (.bool true)) = V at *
  exact ⟨(World.cell?_of_block b1).trans a0, (World.cell?_of_block b2).trans a1, (World.cell?_of_block b2).trans a2, (World.cell?_of_block b2).trans a3, (World.cell?_of_block b2).trans a4⟩
theorem held_drew {W : World} {gx g n cap b : Nat} {t x : ByteArray} {q : Int} (h : (W.cell? ⟨gx, 0, none⟩ = some (.slice (some ⟨g, 0, none⟩) n cap) ∧ W.cell? ⟨b, 0, none⟩ = some (.string t) ∧ W.cell? ⟨b, 1, none⟩ = some (.string x) ∧ W.cell? ⟨b, 2, none⟩ = some (.int .i64 q) ∧ W.cell? ⟨b, 3, none⟩ = some (.bool true))) : (W.drew.cell? ⟨gx, 0, none⟩ = some (.slice (some ⟨g, 0, none⟩) n cap) ∧ W.drew.cell? ⟨b, 0, none⟩ = some (.string t) ∧ W.drew.cell? ⟨b, 1, none⟩ = some (.string x) ∧ W.drew.cell? ⟨b, 2, none⟩ = some (.int .i64 q) ∧ W.drew.cell? ⟨b, 3, none⟩ = some (.bool true)) := h
theorem own_base {w : World} {B C e size n : Nat} {v : Value} {xs : List Value} (h : w.ownsRow B e size v n xs) (hC : C ≤ B) : w.ownsRow C e size v n xs := by
  obtain ⟨h1, h2⟩ := h
  refine ⟨h1, h2.imp id ?_⟩
  rintro ⟨g, cap, cur, a, b, c⟩
  exact ⟨g, cap, cur, a, Nat.le_trans hC b, c⟩
theorem own_apart {w : World} {N e size n : Nat} {v u : Value} {xs : List Value} (h1 : ∀ k, v.ownBlock = some k → k < N) (h2 : w.ownsRow N e size u n xs) : v.ownBlock = none ∨ v.ownBlock ≠ u.ownBlock := by
  cases hv : v.ownBlock with
  | none => exact .inl rfl
  | some k =>
    refine .inr (fun e => ?_)
    have a := h1 k hv
    have b := (h2.lt k e.symm).1
    omega
theorem fin4 {W : World} {gx g B cap k : Nat} {L : List Mg} {t x : ByteArray} {q : Int} (h : W.ownsRow B 33 4 (.slice (some ⟨g, 0, none⟩) L.length cap) L.length (msAtC L)) (hk : k < L.length)
    (hr : W.heap[gx]? = some (.cells #[.slice (some ⟨g, 0, none⟩) L.length cap] 28 (0, 0))) (hgx : gx < B) (hgB : B ≤ g) (hB : B ≤ W.heap.size) : Xs ((((W.setCell ⟨g, k * 4, none⟩ (.string t)).setCell ⟨g, k * 4 + 1, none⟩ (.string x)).setCell ⟨g, k * 4 + 2, none⟩ (.int .i64 q)).setCell ⟨g, k * 4 + 3, none⟩ (.bool true)).drew gx B (L.set k ⟨t, x, q, true⟩) ∧ Below B W ((((W.setCell ⟨g, k * 4, none⟩ (.string t)).setCell ⟨g, k * 4 + 1, none⟩ (.string x)).setCell ⟨g, k * 4 + 2, none⟩ (.int .i64 q)).setCell ⟨g, k * 4 + 3, none⟩ (.bool true)).drew := by
  have O := own_set h k hk ⟨t, x, q, true⟩
  have G := set4_grown W g (k * 4) ⟨t, x, q, true⟩
  have ne : gx ≠ g := by omega
  have hr2 : (set4 W g (k * 4) ⟨t, x, q, true⟩).heap[gx]? = some (.cells #[.slice (some ⟨g, 0, none⟩) L.length cap] 28 (0, 0)) :=
    (G.block gx (by have := (Array.getElem?_eq_some_iff.1 hr).1; exact this) (fun e => ne (by simpa using e))).trans hr
  have Bl : Below B W (set4 W g (k * 4) ⟨t, x, q, true⟩) := (Below.refl B W).grown G hB (fun j e => by rcases (show g = j by simpa using e) with rfl; exact hgB)
  have e4 : set4 W g (k * 4) ⟨t, x, q, true⟩ = ((((W.setCell ⟨g, k * 4, none⟩ (.string t)).setCell ⟨g, k * 4 + 1, none⟩ (.string x)).setCell ⟨g, k * 4 + 2, none⟩ (.int .i64 q)).setCell ⟨g, k * 4 + 3, none⟩ (.bool true)) := rfl
  rw [e4] at O hr2 Bl
  generalize ((((W.setCell ⟨g, k * 4, none⟩ (.string t)).setCell ⟨g, k * 4 + 1, none⟩ (.string x)).setCell ⟨g, k * 4 + 2, none⟩ (.int .i64 q)).setCell ⟨g, k * 4 + 3, none⟩ (.bool true)) = V at *
  refine ⟨⟨⟨_, hr2, ?_⟩, hgx⟩, Bl.drew⟩
  rw [List.length_set] at O
  have := O.kept (none_of (ext_drew V)) (by simp [Value.ownBlock])
  rw [List.length_set]
  exact this
theorem xs_row {w : World} {gx B : Nat} {L : List Mg} {v : Value} (hg : gx < B) (h1 : w.heap[gx]? = some (.cells #[v] 28 (0, 0))) {u : Value} (ho : w.ownsRow B 33 4 u L.length (msAtC L)) : Xs (w.setCell ⟨gx, 0, none⟩ u) gx B L :=
  ⟨⟨u, by simpa using heap_setCell_same w gx 0 _ 28 u h1, ho.kept set_grown' (.inr (own_ne ho hg).symm)⟩, hg⟩
set_option maxHeartbeats 16000000 in
set_option maxRecDepth 100000 in
theorem xkeep (w : World) (gx B : Nat) (L : List Mg) (t x : ByteArray) (q : Int) (r : Bool) (h : Xs w gx B L) (hu : Up L) (hl : L.length ≤ 32) (hB : B ≤ w.heap.size) (ht : t.size ≤ 140737488351232) :
    Calls Try.prog 7 #[.pointer (some ⟨gx, 0, none⟩), .agg #[.string t, .string x, .int .i64 q, .bool r]] w (XKeepIs w gx B L t x q) := by
  have k0 := ext_alloc w (.cells #[.string t, .string x, .int .i64 q, .bool r] 33)
  have M0 : MsgAt (w.alloc (.cells #[.string t, .string x, .int .i64 q, .bool r] 33)) w.heap.size t x q r := heap_alloc_new w _
  have NM := Lib.hid (fun W => rnam_far t W ht)
  obtain ⟨R, hR⟩ : ∃ R, R = kL L t x q := ⟨_, rfl⟩
  obtain ⟨H0, hH⟩ : ∃ b, b = xH L t x := ⟨_, rfl⟩
  obtain ⟨E0, hE⟩ : ∃ e, e = xE L t x := ⟨_, rfl⟩
  unfold XKeepIs
  rw [← hR, ← hH, ← hE]
  replace hR := Lib.hid hR
  replace hH := Lib.hid hH
  replace hE := Lib.hid hE
  replace k0 := Lib.hid k0
  replace M0 := Lib.hid M0
  replace h := Lib.hid h
  replace hu := Lib.hid hu
  have hgx := h.out.lt
  clear ht
  obtain ⟨c0, c1, c2, c3, -⟩ := M0.out.cells
  go_enter Try.func7, Try.ntmps7
  go_wp2_with fail
  refine (NM.out _).mono ?_
  rintro e w1 ⟨rfl, b1⟩
  have m1 := M0.out.keep b1 (by simp)
  have B1 := ext_trans k0.out b1
  have X1 := h.out.kept B1
  clear c0 c1 c2 c3 NM M0 k0 b1
  obtain ⟨c0, c1, c2, c3, -⟩ := m1.cells
  replace m1 := Lib.hid m1
  have hsz : w.heap.size ≤ w1.heap.size := B1.size
  replace B1 := Lib.hid B1
  cases hn : nameB t with
  | false =>
    have e1 : R = L := hR.out.trans (if_pos hn)
    have e2 : H0 = false := hH.out.trans (if_pos hn)
    have e3 : E0 = 13 := hE.out.trans (if_pos hn)
    replace X1 := Lib.hid X1
    replace e1 := Lib.hid e1
    subst e2 e3
    clear c0 c1 c2 c3
    go_wp2_with fail
    go_ret2
    exact ⟨rfl, by rw [e1.out]; exact X1.out, Aw.of (B1.out.mono hB)⟩
  | true =>
  have hn' : ¬ nameB t = false := by rw [hn]; decide
  have FD := Lib.hid (xfind w1 gx B L t X1 (by omega))
  replace X1 := Lib.hid X1
  go_wp2_with fail
  refine FD.out.mono ?_
  rintro e w2 ⟨rfl, nq, e2⟩
  have Bq := below_drewN (Below.refl w1.heap.size w1) nq
  rw [← e2] at Bq
  have X2 := X1.out.kept Bq
  have m2 := m1.out.keep Bq (Nat.lt_of_lt_of_le (Nat.lt_of_lt_of_le (by have := m1.out.lt; exact this) (Nat.le_refl _)) (Nat.le_refl _))
  have B2 := Lib.hid (B1.out.trans (Bq.mono B1.out.size))
  have z2 : B ≤ w2.heap.size := Nat.le_trans hB B2.out.size
  clear c0 c1 c2 c3 m1 FD X1 Bq e2 B1
  obtain ⟨c0, c1, c2, c3, -⟩ := m2.cells
  obtain ⟨v, xr, xo⟩ := X2.blk
  have cv : w2.cell? ⟨gx, 0, none⟩ = some v := by rw [cell_of_row w2 gx 0 _ 28 (0, 0) xr]; rfl
  have fz : w2.frozen? ⟨gx, 0, none⟩ = false := frozen_of_row w2 gx 0 _ 28 xr
  have hpl := pr_le t L
  have hspl := pr_po t L
  replace X2 := Lib.hid X2
  replace m2 := Lib.hid m2
  replace xr := Lib.hid xr
  replace xo := Lib.hid xo
  by_cases hx : x.size = 0
  · obtain rfl := size0 hx
    cases hth : thr t L with
    | false =>
      have e1 : R = L := hR.out.trans ((if_neg hn').trans ((if_pos rfl).trans (if_neg (by simp [hth]))))
      have e2 : H0 = false := hH.out.trans ((if_neg hn').trans ((if_pos rfl).trans hth))
      have e3 : E0 = 0 := hE.out.trans ((if_neg hn').trans (if_pos rfl))
      replace e1 := Lib.hid e1
      subst e2 e3
      replace hspl := Lib.hid hspl
      replace hth := Lib.hid hth
      go_wp2_with fail
      go_ret2
      exact ⟨rfl, by rw [e1.out]; exact X2.out, Aw.of (B2.out.mono hB)⟩
    | true =>
      obtain ⟨f0, rr, g0, g1, g2, -⟩ := there_yes hu.out hth
      have e1 : R = pr t L ++ rr := hR.out.trans ((if_neg hn').trans ((if_pos rfl).trans ((if_pos hth).trans (by rw [g0]; rfl))))
      have e2 : H0 = true := hH.out.trans ((if_neg hn').trans ((if_pos rfl).trans hth))
      have e3 : E0 = 0 := hE.out.trans ((if_neg hn').trans (if_pos rfl))
      replace e1 := Lib.hid e1
      subst e2 e3
      have gl : L.length = (pr t L).length + (rr.length + 1) := by
        have := congrArg List.length g2
        simpa using this
      have tk : L.take (pr t L).length = pr t L := (congrArg (List.take (pr t L).length) g2).trans (by simp)
      have dr : L.drop ((pr t L).length + 1) = rr := (congrArg (List.drop ((pr t L).length + 1)) g2).trans (by rw [List.drop_append, List.drop_eq_nil_of_le (by omega), Nat.add_sub_cancel_left]; rfl)
      obtain ⟨q1, hq1, mq1⟩ := ms_to xo.out (by omega) (pr t L).length hpl
      rw [tk] at mq1
      generalize hP : pr t L = P at *
      have E0' : (w2.alloc (.cells #[] 33)).ownsRow B 33 4 (.slice (some ⟨w2.heap.size, 0, none⟩) 0 0) 0 [] := World.ownsRow_made w2 #[] 0 z2 (by decide) rfl
      have mq1' := Lib.hid (mq1.keep (ext_alloc w2 (.cells #[] 33)) (Nat.le_refl _))
      have z2' : B ≤ (w2.alloc (.cells #[] 33)).heap.size := by simp; omega
      have cvA : (w2.alloc (.cells #[] 33)).cell? ⟨gx, 0, none⟩ = some v := ((ext_alloc w2 (.cells #[] 33)).cell (by simp only; omega)).trans cv
      have xo' := Lib.hid (xo.out.alloc (.cells #[] 33))
      have A2 := Lib.hid (ext_alloc w2 (.cells #[] 33))
      replace E0' := Lib.hid E0'
      replace z2' := Lib.hid z2'
      replace hP := Lib.hid hP
      replace g0 := Lib.hid g0
      replace g2 := Lib.hid g2
      replace dr := Lib.hid dr
      replace hth := Lib.hid hth
      replace hspl := Lib.hid hspl
      have ri : ((P.length : Int) + 1) = ((P.length + 1 : Nat) : Int) := by omega
      clear tk mq1
      go_wp2_with (first
        | (at_builtin
           refine wpList_append_ms _ rfl (.tmp 26) (.tmp 32) rfl B _ 0 [] P rfl E0'.out mq1'.out z2'.out (by omega) ?_
           intro v4 w4 o4 g4
           have nb : v.ownBlock ≠ some w2.heap.size := fun e => by have := (xo.out.lt _ e).2; omega
           have xo4 := xo'.out.kept g4 (.inr nb)
           have xr4 : w4.heap[gx]? = some (.cells #[v] 28 (0, 0)) := by
             rw [g4.block gx (Nat.lt_of_lt_of_le hgx z2'.out) (own_ne E0'.out hgx), A2.out.block gx (by omega)]
             exact xr.out
           have cv4 : w4.cell? ⟨gx, 0, none⟩ = some v := by rw [cell_of_row w4 gx 0 _ 28 (0, 0) xr4]; rfl
           obtain ⟨q2, hq2, mq2⟩ := ms_from xo4 (by omega) (P.length + 1) (by omega) ((P.length : Int) + 1) ri
           rw [dr.out] at mq2
           have z4 : B ≤ w4.heap.size := Nat.le_trans z2'.out g4.size
           simp only [Nat.zero_add, List.nil_append] at o4
           have B4 := Lib.hid (B2.out.trans ((A2.out.grown (row := some w2.heap.size) g4 A2.out.size (fun k e => by simp at e; omega)).mono B2.out.size))
           replace mq2 := Lib.hid mq2
           replace o4 := Lib.hid o4
           replace xo4 := Lib.hid xo4
           replace xr4 := Lib.hid xr4
           replace z4 := Lib.hid z4
           clear g4 cv cvA c0 c1 c2 c3 hq1 ri)
        | (at_builtin
           refine wpList_append_ms _ rfl (.tmp 34) (.tmp 41) rfl B _ P.length (msAtC P) rr rfl o4.out mq2.out z4.out (by omega) ?_
           intro v6 w6 o6 g6
           obtain ⟨va6, vc6, rfl⟩ := own_slice o6
           have xr6 := (g6.block gx (Nat.lt_of_lt_of_le hgx z4.out) (own_ne o4.out hgx)).trans xr4.out
           have fz6 : w6.frozen? ⟨gx, 0, none⟩ = false := frozen_of_row w6 gx 0 _ 28 xr6
           have cv6 : w6.cell? ⟨gx, 0, none⟩ = some v := by rw [cell_of_row w6 gx 0 _ 28 (0, 0) xr6]; rfl
           replace xr6 := Lib.hid xr6
           replace o6 := Lib.hid o6))
      go_ret2
      refine ⟨rfl, by rw [e1.out]; exact xs_row hgx xr6.out (by rw [List.length_append, msAtC_append]; exact o6.out), ?_⟩
      have F6 : Below B w w6 := (B4.out.mono hB).grown g6 z4.out (fun k e => (o4.out.lt k e).1)
      exact (Aw.of F6).trans ⟨rfl, rfl, rfl, by simp, fun k hk hne => Below.heap_setCell _ _ _ _ hne⟩
  · have he := size1 hx
    have hx2 : (x.toList == []) = false := by
      cases hq : x.toList with
      | nil => rw [hq] at he; simp at he
      | cons _ _ => rfl
    cases hth : thr t L with
    | true =>
      obtain ⟨f0, rr, g0, g1, g2, -⟩ := there_yes hu.out hth
      have e1 : R = pr t L ++ ⟨t, x, q, true⟩ :: rr := hR.out.trans ((if_neg hn').trans ((if_neg hx).trans ((if_pos hth).trans (by rw [g0]; rfl))))
      have e2 : H0 = true := hH.out.trans ((if_neg hn').trans ((if_neg hx).trans hth))
      have e3 : E0 = 0 := hE.out.trans ((if_neg hn').trans ((if_neg hx).trans (if_neg (by simp [hth]))))
      replace e1 := Lib.hid e1
      subst e2 e3
      have gl : L.length = (pr t L).length + (rr.length + 1) := by
        have := congrArg List.length g2
        simpa using this
      have hf : L[(pr t L).length]? = some f0 := (congrArg (fun l : List Mg => l[(pr t L).length]?) g2).trans (by simp)
      have B3a : Below w2.heap.size w2 (w2.alloc (.cells #[.string t, .string x, .int .i64 q, .bool true] 33)) := ext_alloc w2 (.cells #[.string t, .string x, .int .i64 q, .bool true] 33)
      have M3 : MsgAt (w2.alloc (.cells #[.string t, .string x, .int .i64 q, .bool true] 33)) w2.heap.size t x q true := heap_alloc_new w2 _
      have xo3 := xo.out.kept (none_of B3a) (by cases hv : v.ownBlock <;> simp)
      have cv3 : (w2.alloc (.cells #[.string t, .string x, .int .i64 q, .bool true] 33)).cell? ⟨gx, 0, none⟩ = some v := (B3a.cell (by simp only; omega)).trans cv
      obtain ⟨g, cap, rfl, hgB, hgl, d0, d1, d2, d3, df⟩ := row_at xo3 hf
      generalize hP : pr t L = P at *
      replace M3 := Lib.hid M3
      replace B3a := Lib.hid B3a
      replace xo3 := Lib.hid xo3
      replace cv3 := Lib.hid cv3
      replace hf := Lib.hid hf
      have DD := Lib.hid (And.intro d0 (And.intro d1 (And.intro d2 (And.intro d3 df))))
      replace hP := Lib.hid hP
      replace g0 := Lib.hid g0
      replace g2 := Lib.hid g2
      replace hth := Lib.hid hth
      replace hspl := Lib.hid hspl
      clear d0 d1 d2 d3 df
      go_wp2_with fail
      generalize hw3 : w2.alloc (.cells #[.string t, .string x, .int .i64 q, .bool true] 33) = w3 at *
      replace hw3 := Lib.hid hw3
      obtain ⟨d0, d1, d2, d3, df⟩ := DD.out
      obtain ⟨y0, y1, y2, y3, -⟩ := M3.out.cells
      have c3v := cv3.out
      have hPi : (P.length : Int) < (L.length : Int) := by omega
      have hPn : P.length < L.length := by omega
      have hPz : 0 ≤ (P.length : Int) := by omega
      replace gl := Lib.hid gl
      have gw : g < w2.heap.size := (xo.out.lt g rfl).2
      have F1 := And.intro c3v (And.intro y0 (And.intro y1 (And.intro y2 y3)))
      have F2 := held_drew F1
      have F3 := held4 (k := P.length) (by omega) (by omega) F1
      have F4 := held_drew F3
      replace F1 := Lib.hid F1
      replace F2 := Lib.hid F2
      replace F3 := Lib.hid F3
      replace F4 := Lib.hid F4
      have hset : L.set P.length ⟨t, x, q, true⟩ = P ++ ⟨t, x, q, true⟩ :: rr := by
        rw [g2.out, List.set_append_right _ _ (Nat.le_refl _), Nat.sub_self]
        rfl
      have xr3 : w3.heap[gx]? = some (.cells #[.slice (some ⟨g, 0, none⟩) L.length cap] 28 (0, 0)) := (B3a.out.block gx (by omega)).trans xr.out
      have F9 := fin4 (t := t) (x := x) (q := q) xo3.out hPn xr3 hgx hgB (Nat.le_trans z2 B3a.out.size)
      replace hset := Lib.hid hset
      replace F9 := Lib.hid F9
      replace xr3 := Lib.hid xr3
      clear c0 c1 c2 c3 cv fz
      go_region_held3 (fun W => W.cell? ⟨gx, 0, none⟩ = some (.slice (some ⟨g, 0, none⟩) L.length cap) ∧ W.cell? ⟨w2.heap.size, 0, none⟩ = some (.string t) ∧ W.cell? ⟨w2.heap.size, 1, none⟩ = some (.string x) ∧ W.cell? ⟨w2.heap.size, 2, none⟩ = some (.int .i64 q) ∧ W.cell? ⟨w2.heap.size, 3, none⟩ = some (.bool true))
        (first | with_reducible exact F1.out | with_reducible exact F2.out | with_reducible exact F3.out | with_reducible exact F4.out)
        (fail)
      all_goals
        clear DD d0 d1 d2 d3 df y0 y1 y2 y3 c3v F1 F2 F3 F4
        generalize ((((w3.setCell ⟨g, P.length * 4, none⟩ (.string t)).setCell ⟨g, P.length * 4 + 1, none⟩ (.string x)).setCell ⟨g, P.length * 4 + 2, none⟩ (.int .i64 q)).setCell ⟨g, P.length * 4 + 3, none⟩ (.bool true)).drew = w9 at *
        go_wp2_with fail
        go_ret2
        refine ⟨rfl, ?_, Aw.of ((B2.out.mono hB).trans ((B3a.out.mono z2).trans F9.out.2))⟩
        rw [e1.out, ← hset.out]
        exact F9.out.1
    | false =>
      have B3a : Below w2.heap.size w2 (w2.alloc (.cells #[.string t, .string x, .int .i64 q, .bool true] 33)) := ext_alloc w2 (.cells #[.string t, .string x, .int .i64 q, .bool true] 33)
      have M3 : MsgAt (w2.alloc (.cells #[.string t, .string x, .int .i64 q, .bool true] 33)) w2.heap.size t x q true := heap_alloc_new w2 _
      have xo3 := xo.out.kept (none_of B3a) (by cases hv : v.ownBlock <;> simp)
      have cv3 : (w2.alloc (.cells #[.string t, .string x, .int .i64 q, .bool true] 33)).cell? ⟨gx, 0, none⟩ = some v := (B3a.cell (by simp only; omega)).trans cv
      have xr3 : (w2.alloc (.cells #[.string t, .string x, .int .i64 q, .bool true] 33)).heap[gx]? = some (.cells #[v] 28 (0, 0)) := (B3a.block gx (by omega)).trans xr.out
      have vlt := fun k hk => (xo.out.lt k hk).2
      have e2 : H0 = false := hH.out.trans ((if_neg hn').trans ((if_neg hx).trans hth))
      subst e2
      obtain ⟨va, vc, hv⟩ := own_slice xo.out
      have cv3s := cv3
      rw [hv] at cv3s
      replace cv := Lib.hid cv
      replace cv3 := Lib.hid cv3
      replace hv := Lib.hid hv
      by_cases h32 : 32 ≤ L.length
      · have e1 : R = L := hR.out.trans ((if_neg hn').trans ((if_neg hx).trans ((if_neg (by simp [hth])).trans (if_pos h32))))
        have e3 : E0 = 6 := hE.out.trans ((if_neg hn').trans ((if_neg hx).trans (if_pos ⟨hth, h32⟩)))
        have h32' : decide ((32 : Int) ≤ (L.length : Int)) = true := by simp; omega
        have h32n : decide (32 ≤ L.length) = true := by simpa using h32
        replace e1 := Lib.hid e1
        subst e3
        replace hth := Lib.hid hth
        replace hspl := Lib.hid hspl
        have X3 := Lib.hid (X2.out.kept B3a)
        replace M3 := Lib.hid M3
        replace B3a := Lib.hid B3a
        replace xo3 := Lib.hid xo3
        replace xr3 := Lib.hid xr3
        replace vlt := Lib.hid vlt
        go_wp2_with fail
        go_ret2
        exact ⟨rfl, by rw [e1.out]; exact X3.out, Aw.of ((B2.out.mono hB).trans (B3a.out.mono z2))⟩
      · have e1 : R = pr t L ++ ⟨t, x, q, true⟩ :: po t L := hR.out.trans ((if_neg hn').trans ((if_neg hx).trans ((if_neg (by simp [hth])).trans (if_neg h32))))
        have e3 : E0 = 0 := hE.out.trans ((if_neg hn').trans ((if_neg hx).trans (if_neg (fun a => h32 a.2))))
        have h32' : decide ((32 : Int) ≤ (L.length : Int)) = false := by simp; omega
        have h32n : decide (32 ≤ L.length) = false := by simpa using h32
        replace e1 := Lib.hid e1
        subst e3
        have tk : L.take (pr t L).length = pr t L := (congrArg (List.take (pr t L).length) hspl.symm).trans (by simp)
        have dr : L.drop (pr t L).length = po t L := (congrArg (List.drop (pr t L).length) hspl.symm).trans (by simp)
        have gl : L.length = (pr t L).length + (po t L).length := by
          have := congrArg List.length hspl
          simpa using this.symm
        obtain ⟨q1, hq1, mq1⟩ := ms_to xo3 (by omega) (pr t L).length hpl
        rw [tk] at mq1
        generalize hP : pr t L = P at *
        generalize hQ : po t L = Q at *
        have z3 : w2.heap.size ≤ (w2.alloc (.cells #[.string t, .string x, .int .i64 q, .bool true] 33)).heap.size := B3a.size
        have z3s : (w2.alloc (.cells #[.string t, .string x, .int .i64 q, .bool true] 33)).heap.size = w2.heap.size + 1 := by simp
        have cvA : ((w2.alloc (.cells #[.string t, .string x, .int .i64 q, .bool true] 33)).alloc (.cells #[] 33)).cell? ⟨gx, 0, none⟩ = some v := ((ext_alloc (w2.alloc (.cells #[.string t, .string x, .int .i64 q, .bool true] 33)) (.cells #[] 33)).cell (by simp only; omega)).trans cv3.out
        have E0' : ((w2.alloc (.cells #[.string t, .string x, .int .i64 q, .bool true] 33)).alloc (.cells #[] 33)).ownsRow w2.heap.size 33 4 (.slice (some ⟨w2.heap.size + 1, 0, none⟩) 0 0) 0 [] := by
          have := World.ownsRow_made (base := w2.heap.size) (e := 33) (size := 4) (w2.alloc (.cells #[.string t, .string x, .int .i64 q, .bool true] 33)) #[] 0 z3 (by decide) rfl
          rwa [z3s] at this
        have mq1' := Lib.hid (mq1.keep (ext_alloc (w2.alloc (.cells #[.string t, .string x, .int .i64 q, .bool true] 33)) (.cells #[] 33)) (Nat.le_refl _))
        have A3 := Lib.hid (ext_alloc (w2.alloc (.cells #[.string t, .string x, .int .i64 q, .bool true] 33)) (.cells #[] 33))
        have xo' := Lib.hid (xo3.alloc (.cells #[] 33))
        have z3' : w2.heap.size ≤ ((w2.alloc (.cells #[.string t, .string x, .int .i64 q, .bool true] 33)).alloc (.cells #[] 33)).heap.size := Nat.le_trans z3 A3.out.size
        have xr3e := (A3.out.block gx (by omega)).trans xr3
        have M3e := M3.keep A3.out M3.lt
        have B3e := Lib.hid (B2.out.trans ((ext_trans B3a A3.out).mono B2.out.size))
        have gx2 : gx < w2.heap.size := by omega
        replace E0' := Lib.hid E0'
        replace z3' := Lib.hid z3'
        replace hP := Lib.hid hP
        replace hQ := Lib.hid hQ
        replace dr := Lib.hid dr
        replace hth := Lib.hid hth
        replace hspl := Lib.hid hspl
        replace M3 := Lib.hid M3
        replace M3e := Lib.hid M3e
        replace B3a := Lib.hid B3a
        replace xo3 := Lib.hid xo3
        replace xr3 := Lib.hid xr3
        replace xr3e := Lib.hid xr3e
        replace vlt := Lib.hid vlt
        replace z3s := Lib.hid z3s
        have wz := Lib.hid B2.out.size
        replace gl := Lib.hid gl
        clear tk mq1
        go_wp2_with (first
          | (at_builtin
             refine wpList_append_ms _ rfl (.tmp 64) (.tmp 70) rfl w2.heap.size _ 0 [] P rfl E0'.out mq1'.out z3'.out (by have := gl.out; omega) ?_
             intro v4 w4 o4 g4
             have xo4 := xo'.out.kept g4 (own_apart vlt.out E0'.out)
             have xr4 := (g4.block gx (Nat.lt_of_lt_of_le gx2 z3'.out) (own_ne E0'.out gx2)).trans xr3e.out
             have cv4 : w4.cell? ⟨gx, 0, none⟩ = some v := by rw [cell_of_row w4 gx 0 _ 28 (0, 0) xr4]; rfl
             have M4 : MsgAt w4 w2.heap.size t x q true := (g4.block _ M3e.out.lt (fun e => absurd (Option.some.inj (show some w2.heap.size = some (w2.heap.size + 1) from e)) (by omega))).trans M3e.out
             obtain ⟨y0, y1, y2, y3, -⟩ := M4.cells
             have z4 : w2.heap.size ≤ w4.heap.size := Nat.le_trans z3'.out g4.size
             simp only [Nat.zero_add, List.nil_append] at o4
             have B4 := Lib.hid (B3e.out.grown g4 (Nat.le_trans wz.out z3'.out) (fun k e => Nat.le_trans wz.out (E0'.out.lt k e).1))
             have A4 := Lib.hid (ext_alloc w4 (.cells #[.string t, .string x, .int .i64 q, .bool true] 33))
             have o4a := Lib.hid (o4.alloc (.cells #[.string t, .string x, .int .i64 q, .bool true] 33))
             have mg4 : MsAt (w4.alloc (.cells #[.string t, .string x, .int .i64 q, .bool true] 33)) (.slice (some ⟨w4.heap.size, 0, none⟩) 1 1) [(⟨t, x, q, true⟩ : Mg)] := mg_one
             have xo4a := Lib.hid (xo4.alloc (.cells #[.string t, .string x, .int .i64 q, .bool true] 33))
             have z4a : w2.heap.size ≤ (w4.alloc (.cells #[.string t, .string x, .int .i64 q, .bool true] 33)).heap.size := Nat.le_trans z4 A4.out.size
             have xr4a := Lib.hid ((A4.out.block gx (Nat.lt_of_lt_of_le gx2 z4)).trans xr4)
             have B4a := Lib.hid (B4.out.trans (A4.out.mono B4.out.size))
             replace mg4 := Lib.hid mg4
             replace z4a := Lib.hid z4a
             replace o4 := Lib.hid o4
             clear g4 cv3s cvA c0 c1 c2 c3 hq1 xo4 xr4 z4 A4 M4)
          | (at_builtin
             refine wpList_append_ms _ rfl (.tmp 72) (.tmp 74) rfl w2.heap.size _ P.length (msAtC P) [(⟨t, x, q, true⟩ : Mg)] rfl o4a.out mg4.out z4a.out (by have := gl.out; simp; omega) ?_
             intro v6 w6 o6 g6
             have xo6 := xo4a.out.kept g6 (own_apart vlt.out o4a.out)
             have xr6 := (g6.block gx (Nat.lt_of_lt_of_le gx2 z4a.out) (own_ne o4a.out gx2)).trans xr4a.out
             have cv6 : w6.cell? ⟨gx, 0, none⟩ = some v := by rw [cell_of_row w6 gx 0 _ 28 (0, 0) xr6]; rfl
             obtain ⟨q2, hq2, mq2⟩ := ms_from xo6 (by omega) P.length hpl (P.length : Int) rfl
             rw [dr.out] at mq2
             have z6 : w2.heap.size ≤ w6.heap.size := Nat.le_trans z4a.out g6.size
             have B6 := Lib.hid (B4a.out.grown g6 (Nat.le_trans wz.out z4a.out) (fun k e => Nat.le_trans wz.out (o4a.out.lt k e).1))
             replace mq2 := Lib.hid mq2
             replace o6 := Lib.hid o6
             replace xo6 := Lib.hid xo6
             replace xr6 := Lib.hid xr6
             replace z6 := Lib.hid z6
             clear g6 cv4 y0 y1 y2 y3)
          | (at_builtin
             refine wpList_append_ms _ rfl (.tmp 76) (.tmp 82) rfl w2.heap.size _ (P.length + 1) (msAtC P ++ msAtC [(⟨t, x, q, true⟩ : Mg)]) Q rfl o6.out mq2.out z6.out (by have := gl.out; omega) ?_
             intro v8 w8 o8 g8
             obtain ⟨va8, vc8, rfl⟩ := own_slice o8
             have xr8 := (g8.block gx (Nat.lt_of_lt_of_le gx2 z6.out) (own_ne o6.out gx2)).trans xr6.out
             have fz8 : w8.frozen? ⟨gx, 0, none⟩ = false := frozen_of_row w8 gx 0 _ 28 xr8
             have cv8 : w8.cell? ⟨gx, 0, none⟩ = some v := by rw [cell_of_row w8 gx 0 _ 28 (0, 0) xr8]; rfl
             have B8 := Lib.hid (B6.out.grown g8 (Nat.le_trans wz.out z6.out) (fun k e => Nat.le_trans wz.out (o6.out.lt k e).1))
             replace xr8 := Lib.hid xr8
             replace o8 := Lib.hid o8
             clear g8 cv6))
        go_ret2
        have el : (P ++ ⟨t, x, q, true⟩ :: Q : List Mg).length = P.length + 1 + Q.length := by simp; omega
        have em : msAtC (P ++ ⟨t, x, q, true⟩ :: Q) = (msAtC P ++ msAtC [(⟨t, x, q, true⟩ : Mg)]) ++ msAtC Q := by simp [msAtC]
        refine ⟨rfl, ?_, (Aw.of (B8.out.mono hB)).trans ⟨rfl, rfl, rfl, by simp, fun k hk hne => Below.heap_setCell _ _ _ _ hne⟩⟩
        rw [e1.out]
        exact xs_row hgx xr8.out (by rw [el, em]; exact own_base o8.out z2)
end Go.Proofs.Ytfdaooaooalknaa
