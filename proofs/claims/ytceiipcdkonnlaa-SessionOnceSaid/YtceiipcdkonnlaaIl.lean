/-
  LAYER 21: Has, Give.
-/
import Derived.Test.YtceiipcdkonnlaaIk
namespace Go.Proofs.Ytceiipcdkonnlaa.Ids
set_option linter.unusedSimpArgs false
set_option linter.unusedVariables false
open Go.RowKit Que Hp
section
variable {A : Nat → Prop} {w w' : World} {g most : Nat} {T : List Bool}
set_option maxHeartbeats 4000000 in
set_option maxRecDepth 100000 in
theorem has_in (h : Ds A w g most T) {k : Nat} (hk : k < T.length) : Calls Try.prog 81 #[.pointer (some ⟨g, 0, none⟩), .int .i64 ((k : Int) + 1)] w fun e w' => e = .returned (.bool (T.getD k false)) ∧ w = w' := by
  obtain ⟨tv, bv, H, i, G, av⟩ := h.ex
  have hle := h.le
  have hm4 := h.m4
  have N := Lib.hid (none_no i (by have := h.m1; omega))
  obtain ⟨gt, ct, hv⟩ := own_slice' i.tk (by omega)
  have kf := i.flag hv hk
  have k1 := i.c1
  rw [hv] at k1
  obtain ⟨y, hy⟩ : ∃ y, y = T.getD k false := ⟨_, rfl⟩
  rw [← hy] at kf ⊢
  have hk' : (k : Int) < (T.length : Int) := by omega
  have hk2 : (k : Int) + 1 ≤ (T.length : Int) := by omega
  have hT : (T.length : Int) ≤ 400 := by omega
  clear i G av h hv hy
  go_enter Try.func81, Try.ntmps81
  go_wp2_with fail
  refine N.out.mono ?_
  rintro e w1 ⟨rfl, rfl⟩
  go_wp2
  go_ret
  exact ⟨rfl, rfl⟩
theorem getD_tf {k : Nat} (hk : k < T.length) : T.getD k true = T.getD k false := by simp [List.getD_eq_getElem?_getD, hk]
set_option maxHeartbeats 4000000 in
set_option maxRecDepth 100000 in
theorem give_no (h : Ds A w g most T) {k : Nat} (hk : k < T.length) (hf : T.getD k false = false) : Calls Try.prog 73 #[.pointer (some ⟨g, 0, none⟩), .int .i64 ((k : Int) + 1)] w fun e w' => e = .returned (.int .i64 7) ∧ w = w' := by
  obtain ⟨tv, bv, H, i, G, av⟩ := h.ex
  have hle := h.le
  have hm4 := h.m4
  have N := Lib.hid (none_no i (by have := h.m1; omega))
  have HS := has_in h hk
  rw [hf] at HS
  replace HS := Lib.hid HS
  have c0 := i.c0
  have hk2 : (k : Int) + 1 ≤ (most : Int) := by omega
  have hT : (most : Int) ≤ 400 := by omega
  clear i G av h hf
  go_enter Try.func73, Try.ntmps73
  go_wp2_with fail
  refine N.out.mono ?_
  rintro e w1 ⟨rfl, rfl⟩
  go_wp2_with fail
  refine HS.out.mono ?_
  rintro e w1 ⟨rfl, rfl⟩
  go_wp2
  go_ret
  exact ⟨rfl, rfl⟩
set_option maxHeartbeats 8000000 in
set_option maxRecDepth 100000 in
theorem give_ok (h : Ds A w g most T) {k : Nat} (hk : k < T.length) (hf : T.getD k false = true) : Calls Try.prog 73 #[.pointer (some ⟨g, 0, none⟩), .int .i64 ((k : Int) + 1)] w fun e w' => e = .returned (.int .i64 0) ∧ Ds A w' g most (T.set k false) ∧ Kp A w w' := by
  obtain ⟨tv, bv, H, i, G, av⟩ := h.ex
  have hle := h.le
  have hm4 := h.m4
  have N := Lib.hid (none_no i (by have := h.m1; omega))
  have HS := has_in h hk
  rw [hf] at HS
  replace HS := Lib.hid HS
  have c0 := i.c0
  have k1 := i.c1
  have hk' : (k : Int) < (T.length : Int) := by omega
  have hk2 : (k : Int) + 1 ≤ (most : Int) := by omega
  have hT : (most : Int) ≤ 400 := by omega
  have hTl : (T.length : Int) ≤ 400 := by omega
  have hft : T.getD k true = true := by rw [getD_tf hk]; exact hf
  obtain ⟨hs1, hs2⟩ := trues_set_false hk hft
  obtain ⟨gt, ct, hv⟩ := own_slice' i.tk (by omega)
  have kf := i.flag hv hk
  rw [hf] at kf
  have kz : w.frozen? ⟨gt, k, none⟩ = false := by have := i.tk; rw [hv] at this; exact this.frozenAt _
  have M1 := i.mark hv (k := k) false
  have c3 := M1.c3
  have f3 := M1.fz 3
  have t0 : (0 : Int) < (trues T : Int) := by omega
  have t1 : (trues T : Int) ≤ 400 := by have := trues_le T; omega
  have M2 := M1.count ((trues T : Int) - 1)
  have F1 : Far (S3 g tv bv) w ((w.setCell ⟨gt, k, none⟩ (.bool false)).setCell ⟨g, 3, none⟩ (.int .i64 ((trues T : Int) - 1))) :=
    (⟨rfl, rfl, rfl, by simp [World.setCell], fun q _ hq => Below.heap_setCell _ _ _ _ (fun e => hq (by subst e; rw [hv]; exact .inr (.inl rfl)))⟩ : Far (S3 g tv bv) w (w.setCell ⟨gt, k, none⟩ (.bool false))).trans (Far.of_grown (S := S3 g tv bv) set_grownX (fun k _ e => .inl (by simpa using e.symm))) (fun _ _ h => h)
  have HP := Lib.hid (hpush_any M2 G.hp ((k : Int) + 1) (by have := G.len; omega) (Nat.zero_le _))
  have hdec : ((trues (T.set k false) : Nat) : Int) = (trues T : Int) - 1 := by omega
  have FIN : Hid (∀ w', HPush 0 ((w.setCell ⟨gt, k, none⟩ (.bool false)).setCell ⟨g, 3, none⟩ (.int .i64 ((trues T : Int) - 1))) g most tv (T.set k false) bv H ((trues T : Int) - 1) ((k : Int) + 1) w' → Ds A w' g most (T.set k false) ∧ Kp A w w') := Lib.hid (by
    rintro w' ⟨bv', G', p, hh, n⟩
    obtain ⟨av2, kp⟩ := ds_end av F1 (nb_refl _ _) n.nb (n.far.mono (fun k _ h => h.imp id .inr)) (Far.refl _ _)
    exact ⟨⟨⟨tv, bv', G', by rw [hdec]; exact n.i, G.given hk hft p hh, av2⟩, by simpa using hle, h.m1, h.m4⟩, kp⟩)
  rw [hv] at k1
  replace hs1 := Lib.hid hs1
  replace hdec := Lib.hid hdec
  clear i G av h hf M1 M2 F1 hv hft
  go_enter Try.func73, Try.ntmps73
  go_wp2_with fail
  refine N.out.mono ?_
  rintro e w1 ⟨rfl, rfl⟩
  go_wp2_with fail
  refine HS.out.mono ?_
  rintro e w1 ⟨rfl, rfl⟩
  go_wp2_with fail
  refine HP.out.mono ?_
  rintro e w1 ⟨rfl, hp⟩
  have Z := Lib.hid (FIN.out _ hp)
  clear hp
  go_wp2
  go_ret
  exact ⟨rfl, Z.out⟩
end
end Go.Proofs.Ytceiipcdkonnlaa.Ids
