/-
  LAYER 21: Has, Give.
-/
import Derived.Test.YtceiipcdkonnlaaGreatIk
namespace Go.Proofs.YtceiipcdkonnlaaGreat.Ids
set_option linter.unusedSimpArgs false
set_option linter.unusedVariables false
open Go.RowKit Que Hp
section
variable {A : Nat → Prop} {w w' : World} {g most : Nat} {T : List Bool}
set_option maxHeartbeats 4000000 in
set_option maxRecDepth 100000 in
theorem has_in (h : Ds A w g most T) {k : Nat} (hk : k < T.length) : Calls Tryz.prog 86 #[.pointer (some ⟨g, 0, none⟩), .int .i64 ((k : Int) + 1)] w fun e w' => e = .returned (.bool (T.getD k false)) ∧ w = w' := by
  obtain ⟨tv, bv, H, i, G, av⟩ := h.ex
  have hle := h.le
  have hm4 := h.m4
  have N := Lib.hid (none_no i (by have := h.m1; omega))
  obtain ⟨gt, ct, hv⟩ := own_slice' i.tk (by omega)
  have kf := i.flag hv hk
  have k1 := i.c1
  rw [hv] at k1
  obtain ⟨y, hy⟩ : ∃ y, y = T.getD k false := ⟨_, rfl⟩
  rw [← hy] at kf ⊢
  have hk' : (k : Int) < (T.length : Int) := by omega
  have hk2 : (k : Int) + 1 ≤ (T.length : Int) := by omega
  have hT : (T.length : Int) ≤ 400 := by omega
  clear i G av h hv hy
  go_enter Tryz.func86, Tryz.ntmps86
  go_wp2_with fail
  refine N.out.mono ?_
  rintro e w1 ⟨rfl, rfl⟩
  go_wp2
  go_ret
  exact ⟨rfl, rfl⟩
theorem getD_tf {k : Nat} (hk : k < T.length) : T.getD k true = T.getD k false := by simp [List.getD_eq_getElem?_getD, hk]
set_option maxHeartbeats 4000000 in
set_option maxRecDepth 100000 in
theorem give_no (h : Ds A w g most T) {k : Nat} (hk : k < T.length) (hf : T.getD k false = false) : Calls Tryz.prog 82 #[.pointer (some ⟨g, 0, none⟩), .int .i64 ((k : Int) + 1)] w fun e w' => e = .returned (.int .i64 7) ∧ w = w' := by
  obtain ⟨tv, bv, H, i, G, av⟩ := h.ex
  have hle := h.le
  have hm4 := h.m4
  have N := Lib.hid (none_no i (by have := h.m1; omega))
  have HS := has_in h hk
  rw [hf] at HS
  replace HS := Lib.hid HS
  have c0 := i.c0
  have hk2 : (k : Int) + 1 ≤ (most : Int) := by omega
  have hT : (most : Int) ≤ 400 := by omega
  clear i G av h hf
  go_enter Tryz.func82, Tryz.ntmps82
  go_wp2_with fail
  refine N.out.mono ?_
  rintro e w1 ⟨rfl, rfl⟩
  go_wp2_with fail
  refine HS.out.mono ?_
  rintro e w1 ⟨rfl, rfl⟩
  go_wp2
  go_ret
  exact ⟨rfl, rfl⟩
set_option maxHeartbeats 8000000 in
set_option maxRecDepth 100000 in
theorem give_ok (h : Ds A w g most T) {k : Nat} (hk : k < T.length) (hf : T.getD k false = true) : Calls Tryz.prog 82 #[.pointer (some ⟨g, 0, none⟩), .int .i64 ((k : Int) + 1)] w fun e w' => e = .returned (.int .i64 0) ∧ Ds A w' g most (T.set k false) ∧ Kp A w w' := by
  obtain ⟨tv, bv, H, i, G, av⟩ := h.ex
  have hle := h.le
  have hm4 := h.m4
  have N := Lib.hid (none_no i (by have := h.m1; omega))
  have HS := has_in h hk
  rw [hf] at HS
  replace HS := Lib.hid HS
  have c0 := i.c0
  have k1 := i.c1
  have hk' : (k : Int) < (T.length : Int) := by omega
  have hk2 : (k : Int) + 1 ≤ (most : Int) := by omega
  have hT : (most : Int) ≤ 400 := by omega
  have hTl : (T.length : Int) ≤ 400 := by omega
  have hft : T.getD k true = true := by rw [getD_tf hk]; exact hf
  obtain ⟨hs1, hs2⟩ := trues_set_false hk hft
  obtain ⟨gt, ct, hv⟩ := own_slice' i.tk (by omega)
  have kf := i.flag hv hk
  rw [hf] at kf
  have kz : w.frozen? ⟨gt, k, none⟩ = false := by have := i.tk; rw [hv] at this; exact this.frozenAt _
  have M1 := i.mark hv (k := k) false
  have c3 := M1.c3
  have f3 := M1.fz 3
  have t0 : (0 : Int) < (trues T : Int) := by omega
  have t1 : (trues T : Int) ≤ 400 := by have := trues_le T; omega
  have M2 := M1.count ((trues T : Int) - 1)
  have F1 : Far (S3 g tv bv) w ((w.setCell ⟨gt, k, none⟩ (.bool false)).setCell ⟨g, 3, none⟩ (.int .i64 ((trues T : Int) - 1))) :=
    (⟨rfl, rfl, rfl, by simp [World.setCell], fun q _ hq => Below.heap_setCell _ _ _ _ (fun e => hq (by subst e; rw [hv]; exact .inr (.inl rfl)))⟩ : Far (S3 g tv bv) w (w.setCell ⟨gt, k, none⟩ (.bool false))).trans (Far.of_grown (S := S3 g tv bv) set_grownX (fun k _ e => .inl (by simpa using e.symm))) (fun _ _ h => h)
  have HP := Lib.hid (hpush_any M2 G.hp ((k : Int) + 1) (by have := G.len; omega) (Nat.zero_le _))
  have hdec : ((trues (T.set k false) : Nat) : Int) = (trues T : Int) - 1 := by omega
  have FIN : Hid (∀ w', HPush 0 ((w.setCell ⟨gt, k, none⟩ (.bool false)).setCell ⟨g, 3, none⟩ (.int .i64 ((trues T : Int) - 1))) g most tv (T.set k false) bv H ((trues T : Int) - 1) ((k : Int) + 1) w' → Ds A w' g most (T.set k false) ∧ Kp A w w') := Lib.hid (by
    rintro w' ⟨bv', G', p, hh, n⟩
    obtain ⟨av2, kp⟩ := ds_end av F1 (nb_refl _ _) n.nb (n.far.mono (fun k _ h => h.imp id .inr)) (Far.refl _ _)
    exact ⟨⟨⟨tv, bv', G', by rw [hdec]; exact n.i, G.given hk hft p hh, av2⟩, by simpa using hle, h.m1, h.m4⟩, kp⟩)
  rw [hv] at k1
  replace hs1 := Lib.hid hs1
  replace hdec := Lib.hid hdec
  clear i G av h hf M1 M2 F1 hv hft
  go_enter Tryz.func82, Tryz.ntmps82
  go_wp2_with fail
  refine N.out.mono ?_
  rintro e w1 ⟨rfl, rfl⟩
  go_wp2_with fail
  refine HS.out.mono ?_
  rintro e w1 ⟨rfl, rfl⟩
  go_wp2_with fail
  refine HP.out.mono ?_
  rintro e w1 ⟨rfl, hp⟩
  have Z := Lib.hid (FIN.out _ hp)
  clear hp
  go_wp2
  go_ret
  exact ⟨rfl, Z.out⟩
end
end Go.Proofs.YtceiipcdkonnlaaGreat.Ids

/-
  LAYER 21: All, New; awake.
-/
namespace Go.Proofs.YtceiipcdkonnlaaGreat.Ids
set_option linter.unusedSimpArgs false
set_option linter.unusedVariables false
open Go.RowKit Que Hp
def lstF (T : List Bool) (k : Nat) : List Int := ((List.range k).filter (fun j => T.getD j false)).map (fun j : Nat => (j : Int) + 1)
theorem lstF_yes {T : List Bool} {k : Nat} (h : T.getD k false = true) : lstF T (k + 1) = lstF T k ++ [(k : Int) + 1] := by
  have h' : T[k]?.getD false = true := by rw [← List.getD_eq_getElem?_getD]; exact h
  unfold lstF; rw [List.range_succ, List.filter_append, List.map_append]; simp [h']
theorem lstF_no {T : List Bool} {k : Nat} (h : T.getD k false = false) : lstF T (k + 1) = lstF T k := by
  have h' : T[k]?.getD false = false := by rw [← List.getD_eq_getElem?_getD]; exact h
  unfold lstF; rw [List.range_succ, List.filter_append, List.map_append]; simp [h']
theorem lstF_len (T : List Bool) (k : Nat) : (lstF T k).length ≤ k := by
  unfold lstF; rw [List.length_map]; have := List.length_filter_le (fun j => T.getD j false) (List.range k); simpa using this
section
variable {A : Nat → Prop} {w w' : World} {g most : Nat} {T : List Bool}
theorem new_ids (n : Nat) (w : World) (h1 : 1 ≤ n) (h4 : n ≤ 400) : Calls Tryz.prog 35 #[.int .i64 (n : Int)] w fun e w' => e = .returned (.tuple #[.pointer (some ⟨w.heap.size, 0, none⟩), .int .i64 0]) ∧ Ds (fun k => k < w.heap.size) w' w.heap.size n [] ∧ Below w.heap.size w w' := by
  have b1 : (1 : Int) ≤ (n : Int) := by omega
  have b2 : (n : Int) ≤ 400 := by omega
  go_enter Tryz.func35, Tryz.ntmps35
  go_wp2
  go_ret2
  exact ⟨rfl, ⟨⟨_, _, [], ⟨heap_alloc_new w _, World.ownsRow_nil _ _ _ _, World.ownsRow_nil _ _ _ _⟩, good_nil, fun k hk => ⟨by simp; omega, fun h => h.elim (fun e => by omega) (fun h => h.elim (fun e => by cases e) (fun e => by cases e))⟩⟩, by simp, h1, h4⟩, ext_alloc _ _⟩
def AllIds (T : List Bool) (w : World) (e : Ending) (w' : World) : Prop := ∃ v, e = .returned v ∧ w'.ownsRow w.heap.size 3 1 v (lstF T T.length).length (il (lstF T T.length)) ∧ Below w.heap.size w w'
theorem len_ds (h : Ds A w g most T) : Calls Tryz.prog 114 #[.pointer (some ⟨g, 0, none⟩)] w fun e w' => e = .returned (.int .i64 (trues T : Nat)) ∧ w = w' := by
  obtain ⟨tv, bv, H, i, G, av⟩ := h.ex
  exact len_ids i (by have := h.m1; omega)
end
end Go.Proofs.YtceiipcdkonnlaaGreat.Ids

/-
  LAYER 21: the first so many are taken: plain.
-/
namespace Go.Proofs.YtceiipcdkonnlaaGreat.Ids
set_option linter.unusedSimpArgs false
set_option linter.unusedVariables false
open Go.RowKit Que Hp
def U (K i : Nat) : List Bool := List.replicate i true ++ List.replicate (K - i) false
theorem U_len (K i : Nat) : (U K i).length = i + (K - i) := by simp [U]
theorem U_lo {K i j : Nat} (d : Bool) (h : j < i) : (U K i).getD j d = true := by
  simp [U, List.getD_eq_getElem?_getD, List.getElem?_append_left, h]
theorem U_hi {K i j : Nat} (d : Bool) (h : i ≤ j) (hj : j < K) : (U K i).getD j d = false := by
  unfold U
  rw [List.getD_eq_getElem?_getD, List.getElem?_append_right (by simpa using h)]
  rw [List.getElem?_replicate, if_pos (by simp; omega)]
  rfl
theorem nxt_U (K i : Nat) : nxt (U K i) = i := by
  by_cases h : i < K
  · exact nxt_eq (by rw [U_len]; omega) (U_hi _ (Nat.le_refl _) h) (fun j hj => U_lo _ hj)
  · rw [nxt_none (fun k hk => ?_), U_len]
    · omega
    · rw [U_len] at hk; exact U_lo _ (by omega)
theorem trues_U (K i : Nat) : trues (U K i) = i := by simp [trues, U, List.count_append, List.count_replicate]
theorem tk_U (K i : Nat) : tk (U K i) = U K (i + 1) := by
  unfold tk
  rw [nxt_U, U_len]
  by_cases h : i < K
  · rw [if_pos (by omega)]
    unfold U
    rw [show K - i = (K - (i + 1)) + 1 by omega, List.replicate_succ (n := K - (i + 1))]
    rw [List.set_append_right _ _ (by simp)]
    simp [List.replicate_succ', List.append_assoc]
  · rw [if_neg (by omega)]
    unfold U
    rw [show K - i = 0 by omega, show K - (i + 1) = 0 by omega]
    simp [List.replicate_succ']
theorem set_U {K i : Nat} (h : i < K) : (U K (i + 1)).set i false = U K i := by
  unfold U
  rw [show K - i = (K - (i + 1)) + 1 by omega, List.replicate_succ (n := K - (i + 1))]
  rw [List.set_append_left _ _ (by simp)]
  simp [List.replicate_succ', List.append_assoc]
theorem U_full (K : Nat) : U 0 K = U K K := by simp [U]
theorem lst_U (K : Nat) : lstF (U K K) (U K K).length = (List.range K).map (fun j : Nat => (j : Int) + 1) := by
  rw [U_len, Nat.sub_self, Nat.add_zero]
  unfold lstF
  rw [List.filter_eq_self.2 (fun j hj => U_lo _ (List.mem_range.1 hj))]
theorem il_range {i p : Nat} (h : p < i) : (il ((List.range i).map (fun j : Nat => (j : Int) + 1)))[p]? = some (.int .i64 ((p : Int) + 1)) := by
  rw [il, List.getElem?_map, List.getElem?_map, List.getElem?_range h]; rfl
section
variable {A : Nat → Prop} {w w' : World} {g most : Nat} {T : List Bool}
/-- A row that was made behind all of its own is to be kept too. -/
theorem Ds.row (h : Ds A w g most T) (hb : Below w.heap.size w w') {e n : Nat} {v : Value} {xs : List Value} (o : w'.ownsRow w.heap.size e 1 v n xs) : Ds (fun k => A k ∨ v.ownBlock = some k) w' g most T := by
  obtain ⟨tv, bv, H, i, G, av⟩ := h.ex
  refine ⟨⟨tv, bv, H, i.keep hb, G, ?_⟩, h.le, h.m1, h.m4⟩
  rintro k (hk | hk)
  · exact ⟨Nat.lt_of_lt_of_le (av k hk).1 hb.size, (av k hk).2⟩
  · obtain ⟨h1, h2⟩ := o.lt k hk
    refine ⟨h2, ?_⟩
    rintro (e | e | e)
    · have := i.lt; omega
    · have := (i.tk.lt k e).2; omega
    · have := (i.bk.lt k e).2; omega
theorem Kp.row (h : Kp A w w') {B e n : Nat} {v : Value} {xs : List Value} (o : w.ownsRow B e 1 v n xs) (hA : ∀ k, v.ownBlock = some k → A k) : w'.ownsRow B e 1 v n xs := own_fars o h (fun k hk hn => hn (hA k hk))
end
end Go.Proofs.YtceiipcdkonnlaaGreat.Ids

/-
  LAYER 21: the taken numbers as a list: those below the first that is free, those above: plain; Give of one that is not taken.
-/
namespace Go.Proofs.YtceiipcdkonnlaaGreat.Ids
set_option linter.unusedSimpArgs false
set_option linter.unusedVariables false
open Go.RowKit Que Hp
theorem lstF_trues (T : List Bool) : ∀ k, k ≤ T.length → (lstF T k).length = trues (T.take k)
  | 0, _ => by simp [lstF, trues]
  | k + 1, h => by
    have ih := lstF_trues T k (by omega)
    have hk : k < T.length := by omega
    have e : T.take (k + 1) = T.take k ++ [T.getD k false] := by
      rw [List.take_succ_eq_append_getElem hk]; simp [List.getD_eq_getElem?_getD, hk]
    cases hf : T.getD k false
    · rw [lstF_no hf, e, hf]; simp [trues, List.count_append] at ih ⊢; exact ih
    · rw [lstF_yes hf, e, hf]; simp [trues, List.count_append] at ih ⊢; exact ih
theorem lstF_len_trues (T : List Bool) : (lstF T T.length).length = trues T := by rw [lstF_trues T _ (Nat.le_refl _), List.take_length]
theorem nxt_lo {T : List Bool} {j : Nat} (h : j < nxt T) : T.getD j false = true := by
  have hl : nxt T ≤ T.length := List.findIdx_le_length
  have := List.not_of_lt_findIdx (xs := T) (p := fun b => !b) (i := j) h
  simp at this
  simp [List.getD_eq_getElem?_getD, show j < T.length by omega, this]
theorem nxt_hi (T : List Bool) : T.getD (nxt T) false = false := by
  by_cases h : nxt T < T.length
  · have := List.findIdx_getElem (xs := T) (p := fun b => !b) (w := h)
    simp at this
    rw [List.getD_eq_getElem?_getD, List.getElem?_eq_getElem h]
    exact this
  · rw [List.getD_eq_getElem?_getD, List.getElem?_eq_none (by omega)]; rfl
/-- The first ones are the numbers from 1 on; all behind them are greater than the first that is free. -/
theorem lstF_split (T : List Bool) : ∀ k, k ≤ T.length → ∃ R : List Int, lstF T k = (List.range (min k (nxt T))).map (fun j : Nat => (j : Int) + 1) ++ R ∧ ∀ x ∈ R, (nxt T : Int) + 1 < x
  | 0, _ => ⟨[], by simp [lstF], by simp⟩
  | k + 1, h => by
    obtain ⟨R, e, hR⟩ := lstF_split T k (by omega)
    by_cases hk : k < nxt T
    · rw [lstF_yes (nxt_lo hk), e]
      have hR0 : R = [] := by
        have h1 := lstF_len T k
        rw [e] at h1
        simp [Nat.min_eq_left (Nat.le_of_lt hk)] at h1
        exact List.eq_nil_of_length_eq_zero (by omega)
      subst hR0
      refine ⟨[], ?_, by simp⟩
      rw [Nat.min_eq_left (by omega), Nat.min_eq_left (by omega), List.range_succ]
      simp
    · cases hf : T.getD k false
      · rw [lstF_no hf, e]
        exact ⟨R, by rw [Nat.min_eq_right (by omega), Nat.min_eq_right (by omega)], hR⟩
      · rw [lstF_yes hf, e]
        have hne : k ≠ nxt T := fun h => by rw [h, nxt_hi] at hf; cases hf
        refine ⟨R ++ [(k : Int) + 1], by rw [Nat.min_eq_right (by omega), Nat.min_eq_right (by omega), List.append_assoc], fun x hx => ?_⟩
        rcases List.mem_append.1 hx with hx | hx
        · exact hR x hx
        · simp at hx; omega
theorem tk_get (T : List Bool) : nxt T < (tk T).length ∧ (tk T).getD (nxt T) false = true := by
  have hl : nxt T ≤ T.length := List.findIdx_le_length
  unfold tk
  by_cases h : nxt T < T.length
  · rw [if_pos h]
    refine ⟨by simpa using h, ?_⟩
    rw [List.getD_eq_getElem?_getD, List.getElem?_set_self h]; rfl
  · rw [if_neg h]
    have e : nxt T = T.length := by omega
    refine ⟨by simp; omega, ?_⟩
    rw [List.getD_eq_getElem?_getD, e, List.getElem?_append_right (Nat.le_refl _)]; simp
/-- The k-th of them. -/
theorem lst_at {T : List Bool} {L : List Int} (hL : L = lstF T T.length) {k : Nat} {x : Int} (hx : L[k]? = some x) : (k < nxt T → x = (k : Int) + 1) ∧ (nxt T ≤ k → (nxt T : Int) + 1 < x) := by
  obtain ⟨R, e, hR⟩ := lstF_split T T.length (Nat.le_refl _)
  have hl : nxt T ≤ T.length := List.findIdx_le_length
  rw [hL, e, Nat.min_eq_right hl] at hx
  refine ⟨fun h => ?_, fun h => ?_⟩
  · rw [List.getElem?_append_left (by simpa using h), List.getElem?_map, List.getElem?_range h] at hx
    simpa using hx.symm
  · rw [List.getElem?_append_right (by simpa using h)] at hx
    exact hR x (List.mem_of_getElem? hx)
theorem lst_ge (T : List Bool) : nxt T ≤ (lstF T T.length).length := by
  obtain ⟨R, e, hR⟩ := lstF_split T T.length (Nat.le_refl _)
  have hl : nxt T ≤ T.length := List.findIdx_le_length
  rw [e, Nat.min_eq_right hl]; simp
theorem Ds.weaken {A A' : Nat → Prop} {w : World} {g most : Nat} {T : List Bool} (h : Ds A' w g most T) (hA : ∀ k, A k → A' k) : Ds A w g most T := by
  obtain ⟨tv, bv, H, i, G, av⟩ := h.ex
  exact ⟨⟨tv, bv, H, i, G, fun k hk => av k (hA k hk)⟩, h.le, h.m1, h.m4⟩
section
variable {A : Nat → Prop} {w w' : World} {g most : Nat} {T : List Bool}
set_option maxHeartbeats 4000000 in
set_option maxRecDepth 100000 in
theorem has_out (h : Ds A w g most T) {k : Nat} (hk : T.length ≤ k) (hk4 : k ≤ 1000) : Calls Tryz.prog 86 #[.pointer (some ⟨g, 0, none⟩), .int .i64 ((k : Int) + 1)] w fun e w' => e = .returned (.bool false) ∧ w = w' := by
  obtain ⟨tv, bv, H, i, G, av⟩ := h.ex
  have N := Lib.hid (none_no i (by have := h.m1; omega))
  obtain ⟨at', ct, hv⟩ := own_slice i.tk
  have k1 := i.c1
  rw [hv] at k1
  have hk2 : ¬ (k : Int) + 1 ≤ (T.length : Int) := by omega
  have hk3 : (k : Int) ≤ 1000 := by omega
  clear i G av h hv
  go_enter Tryz.func86, Tryz.ntmps86
  go_wp2_with fail
  refine N.out.mono ?_
  rintro e w1 ⟨rfl, rfl⟩
  go_wp2
  go_ret
  exact ⟨rfl, rfl⟩
set_option maxHeartbeats 4000000 in
set_option maxRecDepth 100000 in
theorem give_out (h : Ds A w g most T) {k : Nat} (hk : T.length ≤ k) (hkm : k < most) : Calls Tryz.prog 82 #[.pointer (some ⟨g, 0, none⟩), .int .i64 ((k : Int) + 1)] w fun e w' => e = .returned (.int .i64 7) ∧ w = w' := by
  obtain ⟨tv, bv, H, i, G, av⟩ := h.ex
  have hm4 := h.m4
  have N := Lib.hid (none_no i (by have := h.m1; omega))
  have HS := Lib.hid (has_out h hk (by omega))
  have c0 := i.c0
  have hk2 : (k : Int) + 1 ≤ (most : Int) := by omega
  have hT : (most : Int) ≤ 400 := by omega
  clear i G av h
  go_enter Tryz.func82, Tryz.ntmps82
  go_wp2_with fail
  refine N.out.mono ?_
  rintro e w1 ⟨rfl, rfl⟩
  go_wp2_with fail
  refine HS.out.mono ?_
  rintro e w1 ⟨rfl, rfl⟩
  go_wp2
  go_ret
  exact ⟨rfl, rfl⟩
/-- Whatever is given back. -/
theorem give_any (h : Ds A w g most T) {k : Nat} (hkm : k < most) : Calls Tryz.prog 82 #[.pointer (some ⟨g, 0, none⟩), .int .i64 ((k : Int) + 1)] w fun e w' => ∃ c T', e = .returned (.int .i64 c) ∧ Ds A w' g most T' ∧ Kp A w w' := by
  by_cases hk : k < T.length
  · cases hf : T.getD k false
    · exact (give_no h hk hf).mono fun e w' ⟨he, hw⟩ => ⟨7, T, he, hw ▸ h, hw ▸ Far.refl _ _⟩
    · exact (give_ok h hk hf).mono fun e w' ⟨he, d, kp⟩ => ⟨0, _, he, d, kp⟩
  · exact (give_out h (by omega) hkm).mono fun e w' ⟨he, hw⟩ => ⟨7, T, he, hw ▸ h, hw ▸ Far.refl _ _⟩
end
end Go.Proofs.YtceiipcdkonnlaaGreat.Ids
