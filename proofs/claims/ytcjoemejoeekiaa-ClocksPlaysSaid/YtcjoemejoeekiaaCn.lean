/-
  LAYER 26: Next, Len, Fire over the clocks as one fact.
-/
import Derived.Test.YtcjoemejoeekiaaCm
namespace Go.Proofs.Ytcjoemejoeekiaa.Cl
open Go.RowKit Go.Maps Que Hp Hg
/-- The one that comes due first. -/
def IsMin (x : Tm) (L : List Tm) : Prop := x ∈ L ∧ ∀ y ∈ L, key x ≤ key y
/-- What fires at a time, in turn, and what stays. -/
def Fired (now : Int) : List Int → List Tm → List Tm → Prop
  | [], L, R => R.Perm L ∧ ∀ x ∈ L, now < x.d
  | k :: l, L, R => ∃ (x : Tm) (S : List Tm), x.k = k ∧ x.d ≤ now ∧ L.Perm (x :: S) ∧ IsMin x L ∧ Fired now l S R
section
variable {w w' : World} {c t m n : Nat} {v : Value} {L : List Tm}
theorem min_of {L' : List Tm} (p : List.Perm L' L) (hp : HeapP (L'.map key) L'.length) {x : Tm} (hx : L'[0]? = some x) : IsMin x L := by
  refine ⟨p.mem_iff.1 (List.mem_of_getElem? hx), fun y hy => ?_⟩
  obtain ⟨i, hi⟩ := List.mem_iff_getElem?.1 (p.mem_iff.2 hy)
  have := hp.min i (List.getElem?_eq_some_iff.1 hi).1
  rw [key_at hx, key_at hi] at this
  exact this
theorem cnext_nil (h : Cr w c t m n v []) : Calls Try.prog 21 #[.pointer (some ⟨c, 0, none⟩)] w fun e w' => e = .returned (.tuple #[.int .i64 0, .bool false]) ∧ w = w' := by
  obtain ⟨L', a, p, hp⟩ := h.ex
  obtain rfl : L' = [] := by simpa using p.length_eq
  exact next_none h.at a
theorem cnext_any (h : Cr w c t m n v L) (hL : L ≠ []) : ∃ x, IsMin x L ∧ Calls Try.prog 21 #[.pointer (some ⟨c, 0, none⟩)] w fun e w' => e = .returned (.tuple #[.int .i64 x.d, .bool true]) ∧ w = w' := by
  obtain ⟨L', a, p, hp⟩ := h.ex
  cases hx : L'[0]? with
  | none =>
    have : L' = [] := by simpa using hx
    subst this
    exact absurd (by simpa using p.symm.length_eq) hL
  | some x => exact ⟨x, min_of p hp hx, next_any h.at a hx⟩
theorem clen_any (h : Cr w c t m n v L) : Calls Try.prog 24 #[.pointer (some ⟨c, 0, none⟩)] w fun e w' => e = .returned (.int .i64 (L.length : Nat)) ∧ w = w' := by
  obtain ⟨L', a, p, hp⟩ := h.ex
  rw [← p.length_eq]
  exact len_any h.at a
theorem cfirst_any (h : Cr w c t m n v L) (hn : n ≤ 80000) (hL : L ≠ []) : ∃ x, IsMin x L ∧ Calls Try.prog 21 #[.pointer (some ⟨c, 0, none⟩)] w (fun e w' => e = .returned (.tuple #[.int .i64 x.d, .bool true]) ∧ w = w') ∧
    Calls Try.prog 44 #[.pointer (some ⟨t, 0, none⟩)] w fun e w' => e = .returned (.agg #[.int .i64 x.d, .int .i64 x.k]) ∧ ∃ v' S, L.Perm (x :: S) ∧ Cx w w' c t m n v S v' := by
  obtain ⟨L', a, p, hp⟩ := h.ex
  cases hx : L'[0]? with
  | none =>
    have : L' = [] := by simpa using hx
    subst this
    exact absurd (by simpa using p.symm.length_eq) hL
  | some x =>
    refine ⟨x, min_of p hp hx, next_any h.at a hx, ?_⟩
    refine (first_any a hp hx (by have := a.le8; omega) (by omega)).mono ?_
    rintro e w' ⟨rfl, v', R, pR, hR, nR⟩
    exact ⟨rfl, v', R, (p.symm.trans pR.symm).trans (List.perm_append_comm (l₁ := R) (l₂ := [x])), h.step nR (List.Perm.refl _) hR⟩
theorem Cx.then {L2 : List Tm} {v1 v2 : Value} {w1 : World} {n1 n2 : Nat} (h : Cx w w1 c t m n1 v L v1) (g : Cx w1 w' c t m n2 v1 L2 v2) : Cx w w' c t m n2 v L2 v2 :=
  ⟨g.r, h.far.trans g.far (fun k hk e => by
    rcases e with e | e | e
    · exact .inl e
    · exact .inr (.inl e)
    · rcases h.nb k e with e | e
      · exact .inr (.inr e)
      · omega), fun k hk => by
    rcases g.nb k hk with e | e
    · exact h.nb k e
    · exact .inr (Nat.le_trans h.far.size e)⟩
/-- A list of numbers is none of the clocks' blocks. -/
theorem Cr.not_own {q : Nat} {o : Value} {xs : List Value} {b : Nat} (h : Cr w c t m n v L) (ho : w.ownsRow b 3 1 o q xs) : ∀ k, o.ownBlock = some k → ¬ SI t m v k ∧ k ≠ c := by
  intro k hk
  obtain ⟨L', a, -, -⟩ := h.ex
  rcases ho.2 with ⟨rfl, -⟩ | ⟨g', cap, cur, rfl, _, hcur, _⟩
  · simp [Value.ownBlock] at hk
  · obtain rfl : g' = k := by simpa [Value.ownBlock] using hk
    refine ⟨?_, ?_⟩
    · rintro (e | e | e)
      · subst e; rw [a.row] at hcur; simp at hcur
      · exact map_ne a.mp.choose_spec.1 hcur e.symm
      · exact own_far a.its hcur (by decide) e.symm
    · rintro rfl
      rw [h.row] at hcur; simp at hcur
theorem Cr.grown {r : Option Nat} (h : Cr w c t m n v L) (hg : w.grownBy w' r) (hr : ∀ k, r = some k → ¬ SI t m v k ∧ k ≠ c) : Cr w' c t m n v L := by
  obtain ⟨L', a, p, hp⟩ := h.ex
  have F : Far (fun k => r = some k) w w' := Far.of_grown hg (fun k _ e => e)
  exact ⟨(hg.block c h.lt (fun e => (hr c e.symm).2 rfl)).trans h.row, L', a.fars F (fun e => (hr t e).1 (.inl rfl)) (fun e => (hr m e).1 (.inr (.inl rfl))) (fun k hk e => (hr k e).1 (.inr (.inr hk))), p, hp⟩
def FireP (w : World) (c t m n : Nat) (v : Value) (L : List Tm) (now : Int) (e : Ending) (w' : World) : Prop :=
  ∃ (o : Value) (l : List Int) (R : List Tm) (v' : Value), e = .returned o ∧ w'.ownsRow w.heap.size 3 1 o l.length (il l) ∧ Fired now l L R ∧ Cx w w' c t m n v R v'
def slen : Value → Nat
  | .slice _ q _ => q
  | _ => 0
/-- In the middle of Fire. -/
structure FireI (w : World) (c t m n : Nat) (v : Value) (L : List Tm) (now : Int) (o : Value) (w' : World) (l : List Int) (S : List Tm) (v' : Value) : Prop where
  own : w'.ownsRow w.heap.size 3 1 o l.length (il l)
  cx : Cx w w' c t m n v S v'
  le : l.length + S.length ≤ 8
  go : ∀ l2 R, Fired now l2 S R → Fired now (l ++ l2) L R
theorem FireI.next {w1 w2 : World} {now : Int} {o o2 : Value} {l : List Int} {S S2 : List Tm} {v1 v2 : Value} {x : Tm} {W : World} (h : FireI w c t m n v L now o w1 l S v1) (hx : IsMin x S) (hd : x.d ≤ now) (hp : S.Perm (x :: S2)) (g : Cx w1 w2 c t m n v1 S2 v2)
    (hW : Below w2.heap.size w2 W) (hg : W.grownBy w' o.ownBlock) (ho : w'.ownsRow w.heap.size 3 1 o2 (l.length + 1) (il l ++ [.int .i64 x.k])) : FireI w c t m n v L now o2 w' (l ++ [x.k]) S2 v2 := by
  have no := h.cx.r.not_own h.own
  have o2' : w2.ownsRow w.heap.size 3 1 o l.length (il l) := own_fars h.own g.far (fun k hk => (no k hk).1)
  have no2 := g.r.not_own o2'
  have hle := hp.length_eq
  simp only [List.length_cons] at hle
  have C2 := h.cx.then g
  refine ⟨by simpa [il] using ho, ⟨(C2.r.keep hW |>.grown hg (fun k hk => no2 k hk)), ?_, fun k hk => C2.nb k hk⟩, by have := h.le; simp; omega, fun l2 R hf => ?_⟩
  · have hb : Below w.heap.size w2 w' := Below.grown (hW.mono C2.far.size) hg (Nat.le_trans C2.far.size hW.size) (fun k hk => by
      rcases h.own.2 with ⟨rfl, -⟩ | ⟨g', cap, cur, rfl, hg', _⟩
      · simp [Value.ownBlock] at hk
      · obtain rfl : g' = k := by simpa [Value.ownBlock] using hk
        exact hg')
    exact C2.far.trans (Far.of_below (S := fun k => w.heap.size ≤ k) hb (fun k hk h2 => h2)) (fun k hk e => by omega)
  · have := h.go (x.k :: l2) R ⟨x, S2, rfl, hd, hp, hx, hf⟩
    simpa using this
theorem fld95 (a b : Value) (W : World) : (Instr.field 95 (.agg #[a, b]) 1).run Try.prog W = .ok b W := by kernel_rfl
set_option maxHeartbeats 8000000 in
set_option maxRecDepth 100000 in
theorem fire_any (h : Cr w c t m n v L) (hn : n ≤ 80000) (now : Int) : Calls Try.prog 19 #[.pointer (some ⟨c, 0, none⟩), .int .i64 now] w (FireP w c t m n v L now) := by
  obtain ⟨i3, hi3, hz0, hz1, hz2⟩ := info_parts info3
  have kf := fld95
  have Z0 : FireI w c t m n v L now (.slice none 0 0) w [] L v := ⟨⟨rfl, .inl ⟨rfl, rfl⟩⟩, h.same, by simpa using h.le8, fun _ _ h => h⟩
  clear h
  go_enter Try.func19, Try.ntmps19
  go_wp2_with fail
  go_loopw [5] (fun jv wr => ∃ l S v', FireI w c t m n v L now jv wr l S v') (fun jv _ => 100 - slen jv)
  case atStart => exact ⟨_, _, _, Z0⟩
  case round =>
    clear Z0
    obtain ⟨l, S, v', I⟩ := hrel
    obtain ⟨va, vc, rfl⟩ := own_slice I.own
    by_cases hS : S = []
    · subst hS
      have NX := Lib.hid (cnext_nil I.cx.r)
      have Z : Hid (FireP w c t m n v L now (.returned (.slice va l.length vc)) wr) := Lib.hid ⟨_, l, [], v', rfl, I.own, by have := I.go [] [] ⟨List.Perm.refl _, by simp⟩; simpa using this, I.cx⟩
      clear I
      go_wp2_with fail
      refine NX.out.mono ?_
      rintro e w1 ⟨rfl, rfl⟩
      go_wp2
      go_ret
      exact Z.out
    · obtain ⟨x, hx, nx, fx⟩ := cfirst_any I.cx.r hn hS
      have hxr := I.cx.r.rg x hx.1
      by_cases hd : now < x.d
      · have NX := Lib.hid nx
        have Z : Hid (FireP w c t m n v L now (.returned (.slice va l.length vc)) wr) := Lib.hid ⟨_, l, S, v', rfl, I.own, by
          have := I.go [] S ⟨List.Perm.refl _, fun y hy => by
            have h1 := hx.2 y hy
            have h2 := I.cx.r.rg y hy
            unfold key at h1
            omega⟩
          simpa using this, I.cx⟩
        clear I nx fx hx
        go_wp2_with fail
        refine NX.out.mono ?_
        rintro e w1 ⟨rfl, rfl⟩
        go_wp2
        go_ret
        exact Z.out
      · have hdf : x.d ≤ now := by omega
        have NX := Lib.hid nx
        have FX := Lib.hid fx
        have II := Lib.hid I
        have cc := I.cx.r.at
        have hl8 := I.le
        have hl : (l.length : Int) ≤ 8 := by omega
        replace hx := Lib.hid hx
        clear I nx fx
        go_wp2_with fail
        refine NX.out.mono ?_
        rintro e w1 ⟨rfl, rfl⟩
        go_wp2_with fail
        refine FX.out.mono ?_
        rintro e w2 ⟨rfl, v2, S2, pS, g2⟩
        have no := II.out.cx.r.not_own II.out.own
        have ow : w2.ownsRow w.heap.size 3 1 (.slice va l.length vc) l.length (il l) := own_fars II.out.own g2.far (fun k hk => (no k hk).1)
        have oA := Lib.hid (own_keep ow (ext_alloc w2 (.cells #[.int .i64 x.k] 3)))
        have hnew : Hid (∀ j u, ([Value.int .i64 x.k] : List Value)[j]? = some u → (w2.alloc (.cells #[.int .i64 x.k] 3)).cell? ((⟨w2.heap.size, 0, none⟩ : Addr).add j) = some u) := Lib.hid (by
          intro j u hj
          have := cell_of_row _ w2.heap.size j _ 3 (0, 0) (heap_alloc_new w2 (.cells #[.int .i64 x.k] 3 (0, 0)))
          rw [add_off', Nat.zero_add, this, ← hj]
          simp)
        have hsz : Hid (w.heap.size ≤ w2.heap.size) := Lib.hid (II.out.cx.then g2).far.size
        have G2 := Lib.hid g2
        replace pS := Lib.hid pS
        clear no ow g2 FX NX
        go_wp2_with (first
          | (at_builtin; go_must (refine wpList_append_own _ rfl (.tmp 21) (.tmp 28) 34 rfl w.heap.size 3 i3 (.int .i64 0) 1 8 Try.underlying34 hi3 hz0 hz1 hz2 rfl (by decide) (.slice va l.length vc) l.length (il l) rfl oA.out ⟨w2.heap.size, 0, none⟩ 1 1 [.int .i64 x.k] rfl rfl hnew.out (by intro u hu; simp at hu; subst hu; rfl) (by unfold maxLen; omega) (by omega) (by have := hsz.out; simp; omega) ?_); intro v3 w3 o3 g3 _))
        go_roundw
        case rel => exact ⟨l ++ [x.k], S2, v2, II.out.next hx.out hdf pS.out G2.out (ext_alloc w2 _) g3 o3⟩
        case measure =>
          obtain ⟨a3, c3, rfl⟩ := own_slice o3
          simp [slen]; omega
end
end Go.Proofs.Ytcjoemejoeekiaa.Cl
