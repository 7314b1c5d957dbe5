/-
  LAYER 26: the document's New, Next, Fire.
-/
import Derived.Test.YtcjoemejoeekiaaCw
namespace Go.Proofs.Ytcjoemejoeekiaa.Cl
open Go.RowKit Go.Maps Que Hp Hg
theorem best_min {L : List Tm} (hn : (L.map Tm.k).Nodup) (hr : ∀ x ∈ L, 0 ≤ x.k ∧ x.k < 8 ∧ 0 ≤ x.d) {o : Int} (h : Best L 8 o) : (L = [] ∧ o = -1) ∨ ∃ x, IsMin x L ∧ o = x.k := by
  rcases h with ⟨rfl, h⟩ | ⟨k, d, rfl, hk, hd, h⟩
  · refine .inl ⟨List.eq_nil_iff_forall_not_mem.2 fun x hx => ?_, rfl⟩
    obtain ⟨h1, h2, -⟩ := hr x hx
    have := h x.k.toNat (by omega)
    rw [show ((x.k.toNat : Nat) : Int) = x.k by omega, dueL_of hn hx] at this
    cases this
  · refine .inr ⟨⟨d, k⟩, ⟨dueL_some hd, fun y hy => ?_⟩, rfl⟩
    obtain ⟨h1, h2, -⟩ := hr y hy
    have := h y.k.toNat y.d (by omega) (by rw [show ((y.k.toNat : Nat) : Int) = y.k by omega]; exact dueL_of hn hy)
    unfold key
    simp only
    omega
theorem min_uniq {L : List Tm} (hr : ∀ x ∈ L, 0 ≤ x.k ∧ x.k < 8 ∧ 0 ≤ x.d) {x y : Tm} (hx : IsMin x L) (hy : IsMin y L) : x = y := by
  have e1 := hx.2 y hy.1
  have e2 := hy.2 x hx.1
  have r1 := hr x hx.1
  have r2 := hr y hy.1
  obtain ⟨xd, xk⟩ := x
  obtain ⟨yd, yk⟩ := y
  unfold key at e1 e2
  simp only at *
  have : xd = yd := by omega
  have : xk = yk := by omega
  subst xd; subst xk; rfl
theorem perm_del {x : Tm} : ∀ {S : List Tm}, (S.map Tm.k).Nodup → x ∈ S → S.Perm (x :: delL S x.k)
  | [], _, h => by cases h
  | y :: S, hn, h => by
    rw [List.map_cons, List.nodup_cons] at hn
    rcases List.mem_cons.1 h with rfl | h
    · have : delL (x :: S) x.k = S := by
        unfold delL
        rw [List.filter_cons_of_neg (by simp)]
        exact delL_no fun z hz e => hn.1 (e ▸ List.mem_map_of_mem hz)
      rw [this]
    · have hne : y.k ≠ x.k := fun e => hn.1 (e ▸ List.mem_map_of_mem h)
      have : delL (y :: S) x.k = y :: delL S x.k := by
        unfold delL
        rw [List.filter_cons_of_pos (by simpa using hne)]
      rw [this]
      exact ((perm_del hn.2 h).cons y).trans (List.Perm.swap x y _)
theorem nd_del {S : List Tm} (hn : (S.map Tm.k).Nodup) (k : Int) : ((delL S k).map Tm.k).Nodup := hn.sublist (List.Sublist.map Tm.k List.filter_sublist)
section
variable {w w' : World} {p : Nat} {L : List Tm}
theorem xfirst (h : Xd w p L) (hn : (L.map Tm.k).Nodup) (hr : ∀ x ∈ L, 0 ≤ x.k ∧ x.k < 8 ∧ 0 ≤ x.d) : Calls Try.prog 45 #[.pointer (some ⟨p, 0, none⟩)] w fun e w' => (∃ o, e = .returned (.int .i64 o) ∧ ((L = [] ∧ o = -1) ∨ ∃ x, IsMin x L ∧ o = x.k)) ∧ Below w.heap.size w w' :=
  (xbest h hr).mono fun e w' ⟨⟨o, he, hb⟩, b⟩ => ⟨⟨o, he, best_min hn hr hb⟩, b⟩
def XNext (L : List Tm) (e : Ending) : Prop := (L = [] ∧ e = .returned (.tuple #[.int .i64 0, .bool false])) ∨ ∃ x, IsMin x L ∧ e = .returned (.tuple #[.int .i64 x.d, .bool true])
set_option maxRecDepth 100000 in
theorem xnext (h : Xd w p L) (hn : (L.map Tm.k).Nodup) (hr : ∀ x ∈ L, 0 ≤ x.k ∧ x.k < 8 ∧ 0 ≤ x.d) : Calls Try.prog 22 #[.pointer (some ⟨p, 0, none⟩)] w fun e w' => XNext L e ∧ Below w.heap.size w w' := by
  have F := Lib.hid (xfirst h hn hr)
  have KX := Lib.hid (fun W (hW : Below w.heap.size w W) => h.keep hW)
  have al := alen39
  clear h
  replace hn := Lib.hid hn
  replace hr := Lib.hid hr
  go_enter Try.func22, Try.ntmps22
  go_wp2_with fail
  refine F.out.mono ?_
  rintro e w1 ⟨⟨o, rfl, ho⟩, b1⟩
  rcases ho with ⟨rfl, rfl⟩ | ⟨x, hx, rfl⟩
  · clear KX F
    go_wp2
    go_ret2
    exact ⟨.inl ⟨rfl, rfl⟩, b1⟩
  · have hxr := hr.out x hx.1
    obtain ⟨k, hk⟩ : ∃ k : Nat, x.k = (k : Int) := ⟨x.k.toNat, by omega⟩
    have cc := (KX.out w1 b1).at (k := k) (by omega)
    rw [← hk, dueL_of hn.out hx.1] at cc
    replace cc : w1.cell? ⟨p, k, none⟩ = some (.int .i64 x.d) := cc
    have HX := Lib.hid hx
    have k8 : (k : Int) < 8 := by omega
    have k0 : ¬ (k : Int) < 0 := by omega
    rw [hk]
    clear hx hxr hk KX F
    go_wp2
    go_ret2
    exact ⟨.inr ⟨x, HX.out, rfl⟩, b1⟩
def XFire (w : World) (p : Nat) (L : List Tm) (now : Int) (e : Ending) (w' : World) : Prop :=
  ∃ (o : Value) (l : List Int) (R : List Tm), e = .returned o ∧ w'.ownsRow w.heap.size 3 1 o l.length (il l) ∧ Fired now l L R ∧ Xd w' p R ∧ Far (fun k => k = p) w w'
structure XI (w : World) (p : Nat) (L : List Tm) (now : Int) (o : Value) (w' : World) (l : List Int) (S : List Tm) : Prop where
  own : w'.ownsRow w.heap.size 3 1 o l.length (il l)
  x : Xd w' p S
  far : Far (fun k => k = p) w w'
  nd : (S.map Tm.k).Nodup
  rg : ∀ x ∈ S, 0 ≤ x.k ∧ x.k < 8 ∧ 0 ≤ x.d
  go : ∀ l2 R, Fired now l2 S R → Fired now (l ++ l2) L R
  len : l.length + S.length = L.length
theorem XI.next {w1 W w3 : World} {now : Int} {o o2 : Value} {l : List Int} {S : List Tm} {x : Tm} {k : Nat} (hp : p < w.heap.size) (h : XI w p L now o w1 l S) (hx : IsMin x S) (hk : x.k = (k : Int)) (hd : x.d ≤ now) (hW : Below w1.heap.size w1 W) (hg : W.grownBy w3 o.ownBlock)
    (ho : w3.ownsRow w.heap.size 3 1 o2 (l.length + 1) (il l ++ [.int .i64 x.k])) : XI w p L now o2 (w3.setCell ⟨p, k, none⟩ (.int .i64 (-1))) (l ++ [x.k]) (delL S x.k) ∧ Xd w3 p S := by
  have hno : some p ≠ o.ownBlock := own_far h.own h.x (by decide)
  have X3 : Xd w3 p S := (hg.block p (Nat.lt_of_lt_of_le h.x.lt hW.size) hno).trans (h.x.keep hW)
  have hb : Below w.heap.size w1 w3 := Below.grown (hW.mono h.far.size) hg (Nat.le_trans h.far.size hW.size) (fun k hk => by
    rcases h.own.2 with ⟨rfl, -⟩ | ⟨g', cap, cur, rfl, hg', _⟩
    · simp [Value.ownBlock] at hk
    · obtain rfl : g' = k := by simpa [Value.ownBlock] using hk
      exact hg')
  have F3 : Far (fun k => k = p) w w3 := h.far.trans (Far.of_below (S := fun k => w.heap.size ≤ k) hb (fun k hk h2 => h2)) (fun k hk e => by omega)
  have pd := perm_del h.nd hx.1
  refine ⟨⟨?_, ?_, F3.trans (set_p _ _ _ _) (fun _ _ h => h), nd_del h.nd _, fun y hy => h.rg y (List.mem_filter.1 hy).1, fun l2 R hf => ?_, ?_⟩, X3⟩
  · have o3 : w3.ownsRow w.heap.size 3 1 o2 (l ++ [x.k]).length (il (l ++ [x.k])) := by simpa [il] using ho
    exact own_fars o3 (set_p w3 p k _) (fun j hj e => own_far o3 X3 (by decide) (by rw [hj, e]))
  · have := X3.del k
    rw [← hk] at this
    exact this
  · have := h.go (x.k :: l2) R ⟨x, _, rfl, hd, pd, hx, hf⟩
    simpa using this
  · have := pd.length_eq
    have := h.len
    simp at *; omega
set_option maxHeartbeats 8000000 in
set_option maxRecDepth 100000 in
theorem xfire (h : Xd w p L) (hn : (L.map Tm.k).Nodup) (hr : ∀ x ∈ L, 0 ≤ x.k ∧ x.k < 8 ∧ 0 ≤ x.d) (now : Int) : Calls Try.prog 20 #[.pointer (some ⟨p, 0, none⟩), .int .i64 now] w (XFire w p L now) := by
  obtain ⟨i3, hi3, hz0, hz1, hz2⟩ := info_parts info3
  have al := alen39
  have hL8 : L.length ≤ 8 := by
    have := pig 8 (L.map Tm.k) hn (fun x hx => by
      obtain ⟨y, hy, rfl⟩ := List.mem_map.1 hx
      have := hr y hy
      omega)
    rwa [List.length_map] at this
  have lt := h.lt
  have Z0 : XI w p L now (.slice none 0 0) w [] L := ⟨⟨rfl, .inl ⟨rfl, rfl⟩⟩, h, Far.refl _ _, hn, hr, fun _ _ h => h, by simp⟩
  clear h hn hr
  go_enter Try.func20, Try.ntmps20
  go_wp2_with fail
  go_loopw [5, 6] (fun jv iv wr => ∃ (i : Nat) (l : List Int) (S : List Tm), iv = .int .i64 (i : Int) ∧ i ≤ 8 ∧ l.length = i ∧ XI w p L now jv wr l S) (fun _ iv _ => 8 - (intOf iv).toNat)
  case atStart => exact ⟨0, [], L, rfl, by omega, rfl, Z0⟩
  case round =>
    clear Z0
    obtain ⟨i, l, S, rfl, hi, rfl, I⟩ := hrel
    obtain ⟨va, vc, rfl⟩ := own_slice I.own
    by_cases hlt : l.length < 8
    · have hlt' : (l.length : Int) < 8 := by omega
      have F := Lib.hid (xfirst I.x I.nd I.rg)
      have II := Lib.hid I
      clear I
      go_wp2_with fail
      refine F.out.mono ?_
      rintro e w1 ⟨⟨o, rfl, ho⟩, b1⟩
      rcases ho with ⟨rfl, rfl⟩ | ⟨x, hx, rfl⟩
      · have Z : Hid (XFire w p L now (.returned (.slice va l.length vc)) w1) := Lib.hid ⟨_, l, [], rfl, own_keep II.out.own b1, by have := II.out.go [] [] ⟨List.Perm.refl _, by simp⟩; simpa using this, II.out.x.keep b1, II.out.far.trans (Far.of_ext (S := fun k => k = p) b1) (fun _ _ h => h)⟩
        clear II F b1
        go_wp2
        go_ret
        exact Z.out
      · have hxr := II.out.rg x hx.1
        obtain ⟨k, hk⟩ : ∃ k : Nat, x.k = (k : Int) := ⟨x.k.toNat, by omega⟩
        have k8 : (k : Int) < 8 := by omega
        have k0 : ¬ (k : Int) < 0 := by omega
        have cc := (II.out.x.keep b1).at (k := k) (by omega)
        rw [← hk, dueL_of II.out.nd hx.1] at cc
        replace cc : w1.cell? ⟨p, k, none⟩ = some (.int .i64 x.d) := cc
        by_cases hd : now < x.d
        · have Z : Hid (XFire w p L now (.returned (.slice va l.length vc)) w1) := Lib.hid ⟨_, l, S, rfl, own_keep II.out.own b1, by
            have := II.out.go [] S ⟨List.Perm.refl _, fun y hy => by
              have h1 := hx.2 y hy
              have h2 := II.out.rg y hy
              unfold key at h1
              omega⟩
            simpa using this, II.out.x.keep b1, II.out.far.trans (Far.of_ext (S := fun k => k = p) b1) (fun _ _ h => h)⟩
          rw [hk]
          clear II F b1 hx hxr hk
          go_wp2
          go_ret
          exact Z.out
        · have hdf : x.d ≤ now := by omega
          have oA := Lib.hid (own_keep (own_keep II.out.own b1) (ext_alloc w1 (.cells #[.int .i64 x.k] 3)))
          have hnew : Hid (∀ j u, ([Value.int .i64 x.k] : List Value)[j]? = some u → (w1.alloc (.cells #[.int .i64 x.k] 3)).cell? ((⟨w1.heap.size, 0, none⟩ : Addr).add j) = some u) := Lib.hid (by
            intro j u hj
            have := cell_of_row _ w1.heap.size j _ 3 (0, 0) (heap_alloc_new w1 (.cells #[.int .i64 x.k] 3 (0, 0)))
            rw [add_off', Nat.zero_add, this, ← hj]
            simp)
          have NXT : Hid (∀ w3 o2, (w1.alloc (.cells #[.int .i64 x.k] 3)).grownBy w3 (Value.slice va l.length vc).ownBlock → w3.ownsRow w.heap.size 3 1 o2 (l.length + 1) (il l ++ [.int .i64 x.k]) → XI w p L now o2 (w3.setCell ⟨p, k, none⟩ (.int .i64 (-1))) (l ++ [x.k]) (delL S x.k) ∧ Xd w3 p S) := Lib.hid fun w3 o2 hg ho => II.out.next lt hx hk hdf (ext_trans b1 (ext_alloc w1 _)) hg ho
          have hsz : Hid (w.heap.size ≤ w1.heap.size) := Lib.hid (Nat.le_trans II.out.far.size b1.size)
          rw [hk] at oA hnew NXT
          rw [hk]
          clear II F hx hxr hk b1
          go_wp2_with (first
            | (at_builtin; go_must (refine wpList_append_own _ rfl (.tmp 27) (.tmp 29) 34 rfl w.heap.size 3 i3 (.int .i64 0) 1 8 Try.underlying34 hi3 hz0 hz1 hz2 rfl (by decide) (.slice va l.length vc) l.length (il l) rfl oA.out ⟨w1.heap.size, 0, none⟩ 1 1 [.int .i64 (k : Int)] rfl rfl hnew.out (by intro u hu; simp at hu; subst hu; rfl) (by unfold maxLen; omega) (by omega) (by have := hsz.out; simp; omega) ?_); intro v3 w3 o3 g3 _; obtain ⟨n1, n2⟩ := NXT.out w3 v3 g3 o3; have c3 := n2.at (k := k) (by omega); have f3 := n2.fz k; replace n1 := Lib.hid n1; clear n2 g3 o3))
          go_roundw
          case rel => exact ⟨l.length + 1, _, _, by simp, by omega, by simp, n1.out⟩
          case measure => simp [intOf]; omega
    · have hl8 : (l.length : Int) = 8 := by omega
      have hS : S = [] := by
        have := I.len
        exact List.eq_nil_of_length_eq_zero (by omega)
      subst hS
      have Z : Hid (XFire w p L now (.returned (.slice va l.length vc)) wr) := Lib.hid ⟨_, l, [], rfl, I.own, by have := I.go [] [] ⟨List.Perm.refl _, by simp⟩; simpa using this, I.x, I.far⟩
      clear I
      go_wp2_with fail
      go_ret
      exact Z.out
end
set_option maxHeartbeats 1000000 in
set_option maxRecDepth 100000 in
theorem xnew (w : World) : Calls Try.prog 13 #[] w fun e w' => e = .returned (.pointer (some ⟨w.heap.size, 0, none⟩)) ∧ Xd w' w.heap.size [] ∧ Below w.heap.size w w' := by
  have al := alen39
  have Z0 : ∃ xs : Array Value, (w.alloc (.cells #[.int .i64 0, .int .i64 0, .int .i64 0, .int .i64 0, .int .i64 0, .int .i64 0, .int .i64 0, .int .i64 0] 41)).heap[w.heap.size]? = some (.cells xs 41 (0, 0)) ∧ xs.size = 8 ∧ (∀ j, j < 0 → xs[j]? = some (.int .i64 (-1))) := ⟨_, heap_alloc_new w _, rfl, fun j hj => by omega⟩
  have B0 := Lib.hid (ext_alloc w (.cells #[.int .i64 0, .int .i64 0, .int .i64 0, .int .i64 0, .int .i64 0, .int .i64 0, .int .i64 0, .int .i64 0] 41))
  replace Z0 := Lib.hid Z0
  go_enter Try.func13, Try.ntmps13
  go_wp2_with fail
  generalize w.alloc (.cells #[.int .i64 0, .int .i64 0, .int .i64 0, .int .i64 0, .int .i64 0, .int .i64 0, .int .i64 0, .int .i64 0] 41) = W0 at *
  go_loopw [2] (fun iv wr => ∃ i : Nat, iv = .int .i64 (i : Int) ∧ i ≤ 8 ∧ (∃ xs : Array Value, wr.heap[w.heap.size]? = some (.cells xs 41 (0, 0)) ∧ xs.size = 8 ∧ ∀ j, j < i → xs[j]? = some (.int .i64 (-1))) ∧ Below w.heap.size w wr) (fun iv _ => 8 - (intOf iv).toNat)
  case atStart => exact ⟨0, rfl, by omega, Z0.out, B0.out⟩
  case round =>
    obtain ⟨i, rfl, hi, ⟨xs, hp, hs, hx⟩, hb⟩ := hrel
    clear Z0 B0
    by_cases hlt : i < 8
    · have hlt' : (i : Int) < 8 := by omega
      obtain ⟨u, hu⟩ : ∃ u, xs[i]? = some u := ⟨_, Array.getElem?_eq_getElem (by omega)⟩
      have cc : wr.cell? ⟨w.heap.size, i, none⟩ = some u := by rw [cell_of_row wr _ i _ 41 (0, 0) hp]; exact hu
      have fz : wr.frozen? ⟨w.heap.size, i, none⟩ = false := frozen_of_row wr _ i _ 41 hp
      have R : Hid (∃ ys : Array Value, (wr.setCell ⟨w.heap.size, i, none⟩ (.int .i64 (-1))).heap[w.heap.size]? = some (.cells ys 41 (0, 0)) ∧ ys.size = 8 ∧ ∀ j, j < i + 1 → ys[j]? = some (.int .i64 (-1))) := Lib.hid ⟨_, heap_setCell_same wr _ i _ 41 _ hp, by simpa using hs, fun j hj => by
        rw [Array.getElem?_setIfInBounds]
        by_cases e : i = j
        · rw [if_pos e, if_pos (by omega)]
        · rw [if_neg e]; exact hx j (by omega)⟩
      have HB := Lib.hid (hb.setCell (p := ⟨w.heap.size, i, none⟩) (Nat.le_refl _) (.int .i64 (-1)))
      clear hb hp hs hx hu
      go_wp2_with fail
      go_roundw
      case rel => exact ⟨i + 1, by simp, by omega, R.out, HB.out⟩
      case measure => simp [intOf]; omega
    · obtain rfl : i = 8 := by omega
      have X : Hid (Xd wr w.heap.size []) := Lib.hid (by
        have : xs = row8 ft [] := by
          apply Array.ext_getElem?
          intro j
          by_cases hj : j < 8
          · rw [hx j hj, row8_at ft [] hj]; rfl
          · rw [Array.getElem?_eq_none (by omega), Array.getElem?_eq_none (by rw [row8_size]; omega)]
        rw [this] at hp
        exact hp)
      replace hb := Lib.hid hb
      clear hp hs hx
      go_wp2_with fail
      go_ret
      exact ⟨rfl, X.out, hb.out⟩
end Go.Proofs.Ytcjoemejoeekiaa.Cl
