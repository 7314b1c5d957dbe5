/-
  LAYER 21: Take, Has, Give over the numbers that are taken.
-/
import Derived.Test.YtceiipcdkonnlaaIj
namespace Go.Proofs.Ytceiipcdkonnlaa.Ids
set_option linter.unusedSimpArgs false
set_option linter.unusedVariables false
open Go.RowKit Que Hp
/-- What A names has not changed. -/
def Kp (A : Nat → Prop) (w w' : World) : Prop := Far (fun k => ¬ A k) w w'
theorem Kp.trans {A : Nat → Prop} {a b c : World} (h : Kp A a b) (k : Kp A b c) : Kp A a c := Far.trans h k (fun _ _ h => h)
theorem Kp.below {A : Nat → Prop} {a b : World} {B : Nat} (h : Kp A a b) (hB : B ≤ a.heap.size) (hA : ∀ k, k < B → A k) : Below B a b :=
  Far.below h hB (fun k hk => Nat.le_of_not_lt (fun e => hk (hA k e)))
theorem Kp.of_ext {A : Nat → Prop} {a b : World} (h : Below a.heap.size a b) : Kp A a b := Far.of_ext h
structure Ds (A : Nat → Prop) (w : World) (g most : Nat) (T : List Bool) : Prop where
  ex : ∃ tv bv H, Id 0 w g most tv T bv H (trues T : Nat) ∧ Good T H ∧ ∀ k, A k → k < w.heap.size ∧ ¬ S3 g tv bv k
  le : T.length ≤ most
  m1 : 1 ≤ most
  m4 : most ≤ 400
section
variable {A : Nat → Prop} {w w' : World} {g most : Nat} {T : List Bool}
theorem Ds.ext (h : Ds A w g most T) (hb : Below w.heap.size w w') : Ds A w' g most T := by
  obtain ⟨tv, bv, H, i, G, av⟩ := h.ex
  exact ⟨⟨tv, bv, H, i.keep hb, G, fun k hk => ⟨Nat.lt_of_lt_of_le (av k hk).1 hb.size, (av k hk).2⟩⟩, h.le, h.m1, h.m4⟩
/-- One more block is to be kept: one that was made behind all of its own. -/
theorem Ds.more (h : Ds A w g most T) (hb : Below w.heap.size w w') {r : Nat} (h1 : w.heap.size ≤ r) (h2 : r < w'.heap.size) : Ds (fun k => A k ∨ k = r) w' g most T := by
  obtain ⟨tv, bv, H, i, G, av⟩ := h.ex
  refine ⟨⟨tv, bv, H, i.keep hb, G, ?_⟩, h.le, h.m1, h.m4⟩
  rintro k (hk | rfl)
  · exact ⟨Nat.lt_of_lt_of_le (av k hk).1 hb.size, (av k hk).2⟩
  · refine ⟨h2, ?_⟩
    rintro (e | e | e)
    · have := i.lt; omega
    · have := (i.tk.lt k e).2; omega
    · have := (i.bk.lt k e).2; omega
theorem ds_end {tv bv tv2 bv2 : Value} {W0 w2 w3 : World} (av : ∀ k, A k → k < w.heap.size ∧ ¬ S3 g tv bv k) (F1 : Far (S3 g tv bv) w W0) (n1 : NB W0 tv tv2) (n2 : NB W0 bv bv2) (F2 : Far (S3 g tv bv) W0 w2) (F3 : Far (SB tv2) w2 w3) : (∀ k, A k → k < w3.heap.size ∧ ¬ S3 g tv2 bv2 k) ∧ Kp A w w3 := by
  have s1 := F1.size
  have s2 := F2.size
  have s3 := F3.size
  refine ⟨fun k hk => ⟨by have := (av k hk).1; omega, ?_⟩, ?_⟩
  · rintro (e | e | e)
    · exact (av k hk).2 (.inl e)
    · rcases n1 k e with h | h
      · exact (av k hk).2 (.inr (.inl h))
      · have := (av k hk).1; omega
    · rcases n2 k e with h | h
      · exact (av k hk).2 (.inr (.inr h))
      · have := (av k hk).1; omega
  · have F : Far (S3 g tv bv) w w3 := (F1.trans F2 (fun _ _ h => h)).trans F3 (fun k hk e => by
      rcases n1 k e with h | h
      · exact .inr (.inl h)
      · omega)
    exact F.mono (fun k hk h hA => (av k hA).2 h)
def Freed (g most : Nat) (T : List Bool) (c : Int) (tv bv : Value) (W : World) (e : Ending) (W' : World) : Prop :=
  e = .returned (.int .i64 ((nxt T : Int) + 1)) ∧ ∃ tv' bv' T1 H, Id 0 W' g most tv' T1 bv' H c ∧ T1.set (nxt T) true = tk T ∧ nxt T < T1.length ∧ T1.length ≤ T.length + 1 ∧ Good (tk T) H ∧ NB W tv tv' ∧ NB W bv bv' ∧ Far (S3 g tv bv) W W'
theorem free_any {tv bv : Value} {H : List Int} {c : Int} (h : Id 0 w g most tv T bv H c) (G : Good T H) (hT : T.length ≤ 400) :
    Calls Try.prog 78 #[.pointer (some ⟨g, 0, none⟩), .iface 120 (.pointer (some ⟨g, 2, none⟩))] w (Freed g most T c tv bv w) := by
  have hl := G.len
  cases hH : H.length with
  | zero =>
    obtain rfl : H = [] := List.eq_nil_of_length_eq_zero hH
    have hn := nxt_none G.none
    have ht : tk T = T ++ [true] := by unfold tk; rw [if_neg (by omega)]
    refine (free_new h (by omega) (Nat.zero_le _)).mono ?_
    rintro e w2 ⟨he, tv', i, nb, F⟩
    exact ⟨by rw [he, hn], tv', bv, T ++ [false], [], i, by rw [ht, hn]; simp, by simp; omega, by simp, by rw [ht]; exact G.more, nb, nb_refl _ _, F⟩
  | succ n =>
    obtain ⟨h0, h1, h2⟩ := G.least (by omega)
    have ht : tk T = T.set (nxt T) true := by unfold tk; rw [if_pos h1]
    refine (free_old h G.hp hH (by omega)).mono ?_
    rintro e w2 ⟨he, bv', R, p, hh, i, nb, F⟩
    exact ⟨by rw [he, h0], tv, bv', T, R, i, ht.symm, h1, by omega, by rw [ht]; exact G.taken (by omega) p hh, nb_refl _ _, nb, F⟩
theorem trues_tk {H : List Int} (G : Good T H) : trues (tk T) = trues T + 1 := by
  cases hH : H.length with
  | zero =>
    obtain rfl : H = [] := List.eq_nil_of_length_eq_zero hH
    have hn := nxt_none G.none
    unfold tk; rw [if_neg (by omega)]
    exact trues_more T
  | succ n =>
    obtain ⟨-, h1, h2⟩ := G.least (by omega)
    unfold tk; rw [if_pos h1]
    exact trues_set_true h1 h2
theorem tk_len {H : List Int} (G : Good T H) (hlt : trues T < most) (hle : T.length ≤ most) : (tk T).length ≤ most := by
  cases hH : H.length with
  | zero =>
    obtain rfl : H = [] := List.eq_nil_of_length_eq_zero hH
    have hn := nxt_none G.none
    have := G.ln
    simp at this
    unfold tk; rw [if_neg (by omega)]
    simp; omega
  | succ n =>
    obtain ⟨-, h1, -⟩ := G.least (by omega)
    unfold tk; rw [if_pos h1]
    simpa using hle
set_option maxHeartbeats 4000000 in
set_option maxRecDepth 100000 in
theorem take_full (h : Ds A w g most T) (hf : trues T = most) : Calls Try.prog 69 #[.pointer (some ⟨g, 0, none⟩)] w fun e w' => ∃ k, e = .returned (.tuple #[.int .i64 0, .int .i64 6]) ∧ w.drewN k = w' := by
  obtain ⟨tv, bv, H, i, G, av⟩ := h.ex
  have hm := h.m1
  have N := Lib.hid (none_no i (by omega))
  have c0 := i.c0
  have c3 := i.c3
  rw [hf] at c3
  clear i G av h hf
  go_enter Try.func69, Try.ntmps69
  go_wp2_with fail
  refine N.out.mono ?_
  rintro e w1 ⟨rfl, rfl⟩
  go_wp2_with fail
  go_quiet (fail)
  go_wp2_with fail
  go_ret2
  exact ⟨_, rfl, rfl⟩
set_option maxHeartbeats 4000000 in
set_option maxRecDepth 100000 in
theorem take_ok (h : Ds A w g most T) (hf : trues T < most) : Calls Try.prog 69 #[.pointer (some ⟨g, 0, none⟩)] w fun e w' => e = .returned (.tuple #[.int .i64 ((nxt T : Int) + 1), .int .i64 0]) ∧ Ds A w' g most (tk T) ∧ Kp A w w' := by
  obtain ⟨tv, bv, H, i, G, av⟩ := h.ex
  have hm := h.m1
  have hm4 := h.m4
  have N := Lib.hid (none_no i (by omega))
  have c0 := i.c0
  have c3 := i.c3
  have f3 := i.fz 3
  have hne : ((trues T : Int) == (most : Int)) = false := by simp; omega
  have ht0 : (0 : Int) ≤ (trues T : Int) := by omega
  have ht1 : (trues T : Int) ≤ 400 := by omega
  have FR : Hid (∀ n, Calls Try.prog 78 #[.pointer (some ⟨g, 0, none⟩), .iface 120 (.pointer (some ⟨g, 2, none⟩))] ((w.drewN n).setCell ⟨g, 3, none⟩ (.int .i64 ((trues T : Int) + 1))) (Freed g most T ((trues T : Int) + 1) tv bv ((w.drewN n).setCell ⟨g, 3, none⟩ (.int .i64 ((trues T : Int) + 1))))) := Lib.hid fun n => free_any ((i.drewN n).count _) G (by have := h.le; omega)
  have F1 : Hid (∀ n, Far (S3 g tv bv) w ((w.drewN n).setCell ⟨g, 3, none⟩ (.int .i64 ((trues T : Int) + 1)))) := Lib.hid fun n => (Far.of_ext (S := S3 g tv bv) (ext_drewN w n)).trans (Far.of_grown (S := S3 g tv bv) set_grownX (fun k _ e => .inl (by simpa using e.symm))) (fun _ _ h => h)
  replace av := Lib.hid av
  have e1 := Lib.hid (trues_tk G)
  have e2 := Lib.hid (tk_len G hf h.le)
  have HD := Lib.hid h
  clear i G h
  go_enter Try.func69, Try.ntmps69
  go_wp2_with fail
  refine N.out.mono ?_
  rintro e w1 ⟨rfl, rfl⟩
  go_wp2_with fail
  go_quiet (fail)
  go_wp2_with fail
  refine (FR.out _).mono ?_
  rintro e w2 ⟨rfl, tv2, bv2, T1, H1, i2, hs, hlt, hle, G2, n1, n2, F2⟩
  have k1 := i2.c1
  obtain ⟨gt, ct, hv⟩ := own_slice' i2.tk (by omega)
  have kf := i2.flag hv hlt
  have kz : w2.frozen? ⟨gt, nxt T, none⟩ = false := by have := i2.tk; rw [hv] at this; exact this.frozenAt _
  have M2 := i2.mark hv (k := nxt T) true
  rw [hs] at M2
  have F3 : Far (SB tv2) w2 (w2.setCell ⟨gt, nxt T, none⟩ (.bool true)) := ⟨rfl, rfl, rfl, by simp [World.setCell], fun q _ hq => Below.heap_setCell _ _ _ _ (fun e => hq (by subst e; rw [hv]; rfl))⟩
  obtain ⟨av2, kp2⟩ := ds_end av.out (F1.out _) n1 n2 F2 F3
  have D2 : Hid (Ds A (w2.setCell ⟨gt, nxt T, none⟩ (.bool true)) g most (tk T)) := Lib.hid ⟨⟨_, _, _, by rw [e1.out]; exact M2, G2, av2⟩, e2.out, hm, hm4⟩
  have B2 := Lib.hid kp2
  rw [hv] at k1
  have hlt' : (nxt T : Int) < (T1.length : Int) := by omega
  have hT1 : (T1.length : Int) ≤ 500 := by have := HD.out.le; omega
  generalize T1.getD (nxt T) false = yy at *
  clear i2 hs G2 M2 FR N hv hle F2 F3 n1 n2 av2 kp2
  go_wp2_with fail
  go_ret2
  exact ⟨rfl, D2.out, B2.out⟩
end
end Go.Proofs.Ytceiipcdkonnlaa.Ids
