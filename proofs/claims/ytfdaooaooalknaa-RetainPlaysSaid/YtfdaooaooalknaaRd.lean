/-
  LAYER 27: a store of any messages: Keep, Get, Len, New.
-/
import Derived.Test.YtfdaooaooalknaaRc
import Derived.Test.YtfdaooaooalknaaNa
namespace Go.Proofs.Ytfdaooaooalknaa
set_option linter.unusedSimpArgs false
set_option linter.unusedVariables false
open Go.RowKit Go.Maps Go.WideMaps

/-- A value of the map reads as itself. -/
def RV (v : Value) : Option (DataW Value × List MemPlace) := some (.held v, [])
def kS (t : ByteArray) : Lit := .string t.data.toList
theorem kS_key (t : ByteArray) : WideAt.IsKeyLit (kS t) := trivial
theorem kS_ne {t t' : ByteArray} (h : t ≠ t') : kS t ≠ kS t' := fun e => h (ba_ext (by simpa [kS] using e))
theorem key_s {t : ByteArray} (h : t.size ≤ 140737488351232) : keyOf Try.prog 9 (.string t) = some (kS t) := keyOf_string_mk Try.underlying9 (by unfold maxLen; omega)
def tE : ByteArray := ⟨#[]⟩
/-- Each key's value is a message. -/
def Vals (D : DataW Value) : Prop := ∀ k, has D k = true → ∃ t x q r, ∀ z, D.atKey k z = .held (mV t x q r)
structure Sv (w : World) (p g n : Nat) (D : DataW Value) : Prop where
  cell : w.cell? ⟨p, 0, none⟩ = some (.map (some g))
  own : w.ownsMap Try.prog 9 RV g n D
  ne : p ≠ g
  vals : Vals D
theorem Sv.lt {w : World} {p g n : Nat} {D : DataW Value} (h : Sv w p g n D) : p < w.heap.size ∧ g < w.heap.size := by
  have := World.block_lt_of_cell? w _ h.cell
  obtain ⟨es, cl, h1, -⟩ := h.own
  exact ⟨by simpa using this, (Array.getElem?_eq_some_iff.1 h1).1⟩
theorem Sv.keepB {w w' : World} {p g n B : Nat} {D : DataW Value} (h : Sv w p g n D) (hb : Below B w w') (hp : p < B) (hg : g < B) : Sv w' p g n D := by
  refine ⟨(hb.cell (by simpa using hp)).trans h.cell, ?_, h.ne, h.vals⟩
  obtain ⟨es, cl, h1, h2⟩ := h.own
  exact ⟨es, cl, by rw [hb.block _ hg]; exact h1, h2⟩
theorem Sv.keep {w w' : World} {p g n : Nat} {D : DataW Value} (h : Sv w p g n D) (hb : Below w.heap.size w w') : Sv w' p g n D := h.keepB hb h.lt.1 h.lt.2
theorem Sv.turned {w w' : World} {p g n m : Nat} {D D' : DataW Value} (h : Sv w p g n D) (hg : w.grownBy w' (some g)) (ho : w'.ownsMap Try.prog 9 RV g m D') (hv : Vals D') : Sv w' p g m D' := by
  refine ⟨?_, ho, h.ne, hv⟩
  have hl := h.lt
  have := hg.block p hl.1 (by simpa using h.ne)
  have hc := h.cell
  unfold World.cell? at hc ⊢
  simp only [this]
  exact hc
/-- What a look-up hands back. -/
theorem lookV {W : World} {g n : Nat} {D : DataW Value} (h : W.ownsMap Try.prog 9 RV g n D) (hv : Vals D) {t : ByteArray} (ht : t.size ≤ 140737488351232) :
    ∃ a b c d, (Instr.lookup 46 (.map (some g)) (.string t) true).run Try.prog W = .ok (.tuple #[mV a b c d, .bool (has D (kS t))]) W ∧ D.atKey (kS t) (.held zM) = .held (mV a b c d) := by
  obtain ⟨u, ps, hrun, hu⟩ := h.look_ok law9 Try.underlying46 (zero30 W) (zd := .held zM) (zp := []) rfl (key_s ht)
  have hu' : D.atKey (kS t) (.held zM) = .held u := by
    simp only [RV, Option.some.injEq, Prod.mk.injEq] at hu
    exact hu.1.symm
  by_cases hh : has D (kS t) = true
  · obtain ⟨a, b, c, d, he⟩ := hv _ hh
    rw [he] at hu'
    have : u = mV a b c d := by simpa using hu'.symm
    subst this
    exact ⟨a, b, c, d, hrun, he _⟩
  · have hz := atKey_of_not_has (by simpa using hh) (.held zM : DataW Value)
    rw [hz] at hu'
    have : u = zM := by simpa using hu'.symm
    subst this
    exact ⟨_, _, _, _, hrun, hz⟩
theorem Vals.put {D : DataW Value} (h : Vals D) (hm : IsMap D) (s t x : ByteArray) (q : Int) (r : Bool) : Vals (D.put (kS s) (.held (mV t x q r))) := by
  intro k hk
  by_cases e : k = kS s
  · subst e
    exact ⟨t, x, q, r, fun z => atKey_put_same hm (kS_key s) _ z⟩
  · rw [has_put_other e] at hk
    obtain ⟨a, b, c, d, he⟩ := h k hk
    exact ⟨a, b, c, d, fun z => by rw [atKey_put_other e]; exact he z⟩
theorem Vals.del {D : DataW Value} (h : Vals D) (s : ByteArray) : Vals (D.del (kS s)) := by
  intro k hk
  by_cases e : k = kS s
  · subst e
    rw [has_del_same] at hk; cases hk
  · rw [has_del_other e] at hk
    obtain ⟨a, b, c, d, he⟩ := h k hk
    exact ⟨a, b, c, d, fun z => by rw [atKey_del_other e]; exact he z⟩

def kD (D : DataW Value) (t x : ByteArray) (q : Int) : DataW Value :=
  if nameB t = false then D else if x.size = 0 then D.del (kS t) else if has D (kS t) = false ∧ 32 ≤ size D then D else D.put (kS t) (.held (mV t x q true))
def kE (D : DataW Value) (t x : ByteArray) : Int :=
  if nameB t = false then 13 else if x.size = 0 then 0 else if has D (kS t) = false ∧ 32 ≤ size D then 6 else 0
def kH (D : DataW Value) (t x : ByteArray) : Bool :=
  if nameB t = false then false else if x.size = 0 then has D (kS t) else if has D (kS t) = false ∧ 32 ≤ size D then false else has D (kS t)
/-- All but one block stays. -/
def Els (w w' : World) (g : Nat) : Prop := ∀ b, b < w.heap.size → b ≠ g → w'.heap[b]? = w.heap[b]?
theorem els_of {w w' : World} {g : Nat} (h : Below w.heap.size w w') : Els w w' g := fun b hb _ => h.block b hb
theorem els_turn {w w4 w' : World} {g : Nat} (h : Below w.heap.size w w4) (hg : w4.grownBy w' (some g)) : Els w w' g := fun b hb hn => (hg.block b (Nat.lt_of_lt_of_le hb h.size) (by simpa using hn)).trans (h.block b hb)
theorem Els.trans {a b c : World} {g : Nat} (h : Els a b g) (k : Els b c g) (hs : a.heap.size ≤ b.heap.size) : Els a c g := fun x hx hn => (k x (by omega) hn).trans (h x hx hn)
def KeepIs (w : World) (p g B n : Nat) (D : DataW Value) (t x : ByteArray) (q : Int) (e : Ending) (w' : World) : Prop :=
  e = .returned (.tuple #[.bool (kH D t x), .int .i64 (kE D t x)]) ∧ Sv w' p g (n + 1) (kD D t x q) ∧ Below B w w' ∧ Els w w' g

set_option maxHeartbeats 2000000 in
set_option maxRecDepth 100000 in
theorem keep_any (w : World) (p g B n : Nat) (D : DataW Value) (t x : ByteArray) (q : Int) (r : Bool) (h : Sv w p g n D) (hp : B ≤ p) (hg : B ≤ g) (hn : n ≤ 1000) (ht : t.size ≤ 140737488351232) :
    Calls Try.prog 6 #[.pointer (some ⟨p, 0, none⟩), .agg #[.string t, .string x, .int .i64 q, .bool r]] w (KeepIs w p g B n D t x q) := by
  have lp := h.lt.1
  have lg := h.lt.2
  have k0 := ext_alloc w (.cells #[.string t, .string x, .int .i64 q, .bool r] 33)
  have st0 := h.keep k0
  have m0 : MsgAt (w.alloc (.cells #[.string t, .string x, .int .i64 q, .bool r] 33)) w.heap.size t x q r := heap_alloc_new w _
  have NO := Lib.hid (none_ok _ p g st0.cell)
  replace k0 := Lib.hid k0
  replace m0 := Lib.hid m0
  replace st0 := Lib.hid st0
  have z0 : (w.alloc (.cells #[.string t, .string x, .int .i64 q, .bool r] 33)).heap.size = w.heap.size + 1 := by simp
  replace z0 := Lib.hid z0
  replace h := Lib.hid h
  have HT := Lib.hid ht
  have NM := Lib.hid (fun w => nam_far t w ht)
  have Hn := Lib.hid hn
  have HB := Lib.hid hp
  have HG := Lib.hid hg
  clear hn hp hg ht
  go_enter Try.func6, Try.ntmps6
  go_wp2_with fail
  refine NO.out.mono ?_
  rintro e w1 ⟨rfl, rfl⟩
  obtain ⟨c0, c1, c2, c3, f3⟩ := m0.out.cells
  go_wp2_with fail
  refine (NM.out _).mono ?_
  rintro e w1 ⟨rfl, b1⟩
  have st1 := st0.out.keep b1
  have m1 := m0.out.keep b1 (by rw [z0.out]; omega)
  have lw : w.heap.size < w1.heap.size := by have := b1.size; rw [z0.out] at this; omega
  have b1' := Lib.hid (ext_trans k0.out b1)
  clear c0 c1 c2 c3 f3 b1 st0 m0 k0 NO z0
  by_cases hnb : nameB t = false
  · rw [hnb]
    replace st1 := Lib.hid st1
    replace hnb := Lib.hid hnb
    clear m1
    go_wp2_with fail
    go_ret2
    refine ⟨by unfold kH kE; rw [if_pos hnb.out, if_pos hnb.out] <;> rfl, by unfold kD; rw [if_pos hnb.out]; exact ⟨st1.out.cell, st1.out.own.mono (by omega), st1.out.ne, st1.out.vals⟩, b1'.out.mono (by have := HB.out; omega), els_of b1'.out⟩
  have hnb' : nameB t = true := by simpa using hnb
  rw [hnb']
  replace hnb := Lib.hid hnb
  clear hnb'
  obtain ⟨c0, c1, c2, c3, f3⟩ := m1.cells
  have e0 := st1.cell
  obtain ⟨la, lb, lc, ld, hlk, hat⟩ := lookV st1.own st1.vals HT.out
  have HL : ∀ W, Below w1.heap.size w1 W → (Instr.lookup 46 (.map (some g)) (.string t) true).run Try.prog W = .ok (.tuple #[mV la lb lc ld, .bool (has D (kS t))]) W := fun W hb => by
    obtain ⟨a', b', c', d', hlk', hat'⟩ := lookV (st1.keep hb).own st1.vals HT.out
    rw [hat] at hat'
    have e : mV la lb lc ld = mV a' b' c' d' := by simpa using hat'
    rw [e]; exact hlk'
  unfold mV at HL
  clear hlk hat
  replace HL := Lib.hid HL
  replace st1 := Lib.hid st1
  replace m1 := Lib.hid m1
  go_wp2_with fail
  have KO := Lib.hid (fun W (hb : Below w1.heap.size w1 W) => (show W.cell? ⟨p, 0, none⟩ = some (.map (some g)) ∧ W.cell? ⟨w.heap.size, 0, none⟩ = some (.string t) ∧ (Instr.lookup 46 (.map (some g)) (.string t) true).run Try.prog W = .ok (.tuple #[.agg #[.string la, .string lb, .int .i64 lc, .bool ld], .bool (has D (kS t))]) W ∧ Below w1.heap.size w1 W from ⟨(st1.out.keep hb).cell, (m1.out.keep hb lw).cells.1, HL.out W hb, hb⟩))
  go_region_held3 (fun W => W.cell? ⟨p, 0, none⟩ = some (.map (some g)) ∧ W.cell? ⟨w.heap.size, 0, none⟩ = some (.string t) ∧ (Instr.lookup 46 (.map (some g)) (.string t) true).run Try.prog W = .ok (.tuple #[.agg #[.string la, .string lb, .int .i64 lc, .bool ld], .bool (has D (kS t))]) W ∧ Below w1.heap.size w1 W)
    (exact KO.out _ (by repeat (first | exact Below.refl _ _ | refine Below.drew ?_ | refine Below.alloc ?_ (by simp) _ | refine Below.setCell ?_ (by simp) _)))
    (fail)
  all_goals
    rename_i hH
    have b2 := hH.2.2.2
    clear hH
    first
      | generalize (w1.alloc (.cells #[.string la, .string lb, .int .i64 lc, .bool ld] 33)).drew = w2 at *
      | generalize (w1.drew.alloc (.cells #[.string la, .string lb, .int .i64 lc, .bool ld] 33)) = w2 at *
    have st2 := st1.out.keep b2
    have m2 := m1.out.keep b2 lw
    have B2 := Lib.hid (ext_trans b1'.out b2)
    have lw2 : w.heap.size < w2.heap.size := by have := b2.size; omega
    clear c0 c1 c2 c3 f3 e0 b2 KO st1 m1 b1' HL NM
    obtain ⟨c0, c1, c2, c3, f3⟩ := m2.cells
    have e0 := st2.cell
    have ow := Lib.hid st2.own
    replace st2 := Lib.hid st2
    replace m2 := Lib.hid m2
    by_cases hx0 : x.size = 0
    · obtain rfl := size0 hx0
      replace hx0 := Lib.hid hx0
      go_wp2_with fail
      go_still_tail 6, (by kernel_rfl)
      repeat still_step
      try refine wpStill_nil ?_
      have st4 : Sv w2.drew p g n D := st2.out.keep (ext_drew w2)
      have B4 := Lib.hid (B2.out.drew)
      change wpList _ _ _ _ _ w2.drew
      clear c0 c1 c2 c3 f3 e0 ow B2 st2 m2
      generalize w2.drew = w4 at *
      have lt4 := st4.lt
      go_wp2_with (at_delete; go_must (refine wpList_delete_own _ rfl _ _ 46 9 rfl 33 law9 Try.underlying46 _ g n D rfl st4.own _ _ rfl (key_s HT.out) ?_); intro w5 own5 gr5)
      go_ret2
      refine ⟨?_, ?_, (B4.out.mono (by have := HB.out; omega)).trans (below_turned gr5.grown HG.out (by have := HB.out; omega)), els_turn B4.out gr5.grown⟩
      · unfold kH kE; rw [if_neg hnb.out, if_neg hnb.out, if_pos hx0.out, if_pos hx0.out] <;> rfl
      · unfold kD; rw [if_neg hnb.out, if_pos hx0.out]
        exact st4.turned gr5.grown (own5.mono (by omega)) (st4.vals.del t)
    · have hne := size1 hx0
      replace hx0 := Lib.hid hx0
      have hlen := st2.out.own.len Try.underlying46 3
      have hszn := st2.out.own.size_le
      generalize hhas : has D (kS t) = hv at *
      generalize hsz : size D = sz at *
      have hsz1 : sz ≤ 1000 := by have := Hn.out; omega
      clear hszn
      replace hhas := Lib.hid hhas
      replace hsz := Lib.hid hsz
      cases hv with
      | true =>
        have k3 : Below w.heap.size w2 (w2.setCell ⟨w.heap.size, 3, none⟩ (.bool true)) := (Below.refl w.heap.size w2).setCell (p := ⟨w.heap.size, 3, none⟩) (Nat.le_refl _) _
        have st3 := Lib.hid (st2.out.keepB k3 lp lg)
        have m3 := Lib.hid (m2.out.set3 true)
        have B3 := Lib.hid (B2.out.trans k3)
        have lw3 : w.heap.size < (w2.setCell ⟨w.heap.size, 3, none⟩ (.bool true)).heap.size := by have := k3.size; omega
        clear k3
        go_wp2_with fail
        clear c0 c1 c2 c3 f3 e0 hlen ow B2 st2 m2 lw2
        generalize w2.setCell ⟨w.heap.size, 3, none⟩ (.bool true) = w3 at *
        obtain ⟨c0, c1, c2, c3, f3⟩ := m3.out.cells
        have e0 := st3.out.cell
        go_still_tail 7, (by kernel_rfl)
        repeat still_step
        try refine wpStill_nil ?_
        have st4 : Sv w3.drew p g n D := st3.out.keep (ext_drew w3)
        have B4 := Lib.hid (B3.out.drew)
        change wpList _ _ _ _ _ w3.drew
        generalize w3.drew = w4 at *
        have lt4 := st4.lt
        go_wp2_with (at_mapUpdate; go_must (refine wpList_mapUpdate_own _ rfl _ _ _ 46 rfl 9 33 law9 Try.underlying46 _ g n D rfl st4.own (by have := Hn.out; unfold maxLen; omega) _ _ _ rfl rfl (key_s HT.out) (.held (mV t x q true)) [] rfl ?_); intro w5 own5 gr5)
        go_ret2
        refine ⟨?_, ?_, (B4.out.mono (by have := HB.out; omega)).trans (below_turned gr5 HG.out (by have := HB.out; omega)), els_turn B4.out gr5⟩
        · unfold kH kE; rw [hhas.out, if_neg hnb.out, if_neg hnb.out, if_neg hx0.out, if_neg hx0.out, if_neg (by simp), if_neg (by simp)] <;> rfl
        · unfold kD; rw [hhas.out, if_neg hnb.out, if_neg hx0.out, if_neg (by simp)]
          exact st4.turned gr5 own5 (st4.vals.put st4.own.isMap t t x q true)
      | false =>
        by_cases hf : 32 ≤ sz
        · have hf' : ¬ ((sz : Int) < 32) := by omega
          have hf2 : (32 : Int) ≤ sz := by omega
          replace hf := Lib.hid hf
          go_wp2_with fail
          go_ret2
          refine ⟨?_, ?_, B2.out.mono (by have := HB.out; omega), els_of B2.out⟩
          · unfold kH kE; rw [hhas.out, hsz.out, if_neg hnb.out, if_neg hnb.out, if_neg hx0.out, if_neg hx0.out, if_pos ⟨rfl, hf.out⟩, if_pos ⟨rfl, hf.out⟩] <;> rfl
          · unfold kD; rw [hhas.out, hsz.out, if_neg hnb.out, if_neg hx0.out, if_pos ⟨rfl, hf.out⟩]
            exact ⟨st2.out.cell, st2.out.own.mono (by omega), st2.out.ne, st2.out.vals⟩
        · have hf' : (sz : Int) < 32 := by omega
          have hf2 : ¬ (32 : Int) ≤ sz := by omega
          replace hf := Lib.hid hf
          have k3 : Below w.heap.size w2 (w2.setCell ⟨w.heap.size, 3, none⟩ (.bool true)) := (Below.refl w.heap.size w2).setCell (p := ⟨w.heap.size, 3, none⟩) (Nat.le_refl _) _
          have st3 := Lib.hid (st2.out.keepB k3 lp lg)
          have m3 := Lib.hid (m2.out.set3 true)
          have B3 := Lib.hid (B2.out.trans k3)
          have lw3 : w.heap.size < (w2.setCell ⟨w.heap.size, 3, none⟩ (.bool true)).heap.size := by have := k3.size; omega
          clear k3
          go_wp2_with fail
          clear c0 c1 c2 c3 f3 e0 hlen ow B2 st2 m2 lw2
          generalize w2.setCell ⟨w.heap.size, 3, none⟩ (.bool true) = w3 at *
          obtain ⟨c0, c1, c2, c3, f3⟩ := m3.out.cells
          have e0 := st3.out.cell
          go_still_tail 7, (by kernel_rfl)
          repeat still_step
          try refine wpStill_nil ?_
          have st4 : Sv w3.drew p g n D := st3.out.keep (ext_drew w3)
          have B4 := Lib.hid (B3.out.drew)
          change wpList _ _ _ _ _ w3.drew
          generalize w3.drew = w4 at *
          have lt4 := st4.lt
          go_wp2_with (at_mapUpdate; go_must (refine wpList_mapUpdate_own _ rfl _ _ _ 46 rfl 9 33 law9 Try.underlying46 _ g n D rfl st4.own (by have := Hn.out; unfold maxLen; omega) _ _ _ rfl rfl (key_s HT.out) (.held (mV t x q true)) [] rfl ?_); intro w5 own5 gr5)
          go_ret2
          refine ⟨?_, ?_, (B4.out.mono (by have := HB.out; omega)).trans (below_turned gr5 HG.out (by have := HB.out; omega)), els_turn B4.out gr5⟩
          · unfold kH kE; rw [hhas.out, hsz.out, if_neg hnb.out, if_neg hnb.out, if_neg hx0.out, if_neg hx0.out, if_neg (by simp; exact Nat.not_le.1 hf.out), if_neg (by simp; exact Nat.not_le.1 hf.out)] <;> rfl
          · unfold kD; rw [hhas.out, hsz.out, if_neg hnb.out, if_neg hx0.out, if_neg (by simp; exact Nat.not_le.1 hf.out)]
            exact st4.turned gr5 own5 (st4.vals.put st4.own.isMap t t x q true)
set_option maxHeartbeats 2000000 in
set_option maxRecDepth 100000 in
theorem get_any (w : World) (p g n : Nat) (D : DataW Value) (t : ByteArray) (h : Sv w p g n D) (ht : t.size ≤ 140737488351232) : ∃ a b c d, D.atKey (kS t) (.held zM) = .held (mV a b c d) ∧ Calls Try.prog 9 #[.pointer (some ⟨p, 0, none⟩), .string t] w (Ret (.tuple #[mV a b c d, .bool (has D (kS t))]) w) := by
  have st0 := h.keep (ext_alloc w (.cells #[.string ⟨#[]⟩, .string ⟨#[]⟩, .int .i64 0, .bool false] 33))
  have NO := Lib.hid (none_ok _ p g st0.cell)
  have c0 := h.cell
  have lp := h.lt.1
  have lp' : p ≠ w.heap.size := by omega
  obtain ⟨a, b, c, d, hl, hat⟩ := lookV st0.own st0.vals ht
  refine ⟨a, b, c, d, hat, ?_⟩
  clear hat
  unfold mV at hl ⊢
  generalize has D (kS t) = hb at *
  replace h := Lib.hid h
  replace st0 := Lib.hid st0
  replace ht := Lib.hid ht
  go_enter Try.func9, Try.ntmps9
  go_wp2_with fail
  refine NO.out.mono ?_
  rintro e w1 ⟨rfl, rfl⟩
  go_wp2_with fail
  exact bodyPost_ret (v := .tuple #[.agg #[.string a, .string b, .int .i64 c, .bool d], .bool hb]) (by simp [results, Try.results9, go_sem]) rfl ⟨rfl, by repeat (first | exact ext_alloc _ _ | refine Below.alloc ?_ (by simp) _ | refine Below.setCell ?_ (by simp) _)⟩
theorem len_any (w : World) (p g n : Nat) (D : DataW Value) (h : Sv w p g n D) (hn : n ≤ 1000) : Calls Try.prog 8 #[.pointer (some ⟨p, 0, none⟩)] w (Ret (.int .i64 (size D)) w) := by
  have NO := Lib.hid (none_ok w p g h.cell)
  have c0 := h.cell
  have hlen := h.own.len Try.underlying46 3
  have hs := h.own.size_le
  generalize size D = sz at *
  replace h := Lib.hid h
  go_enter Try.func8, Try.ntmps8
  go_wp2_with fail
  refine NO.out.mono ?_
  rintro e w1 ⟨rfl, rfl⟩
  go_wp2_with fail
  go_ret
  exact ⟨rfl, Below.refl _ _⟩
theorem new_sv (w : World) : Sv ((w.alloc (.map #[] 0)).alloc (.cells #[.map (some w.heap.size)] 48)) (w.heap.size + 1) w.heap.size 0 (.map []) := by
  refine ⟨?_, ?_, by omega, fun k hk => by simp [has] at hk⟩
  · have := heap_alloc_new (w.alloc (.map #[] 0)) (.cells #[.map (some w.heap.size)] 48)
    rw [cell_of_row _ (w.heap.size + 1) 0 #[.map (some w.heap.size)] 48 (0, 0) (by simpa using this)]; rfl
  · have h0 : (w.alloc (.map #[] 0)).ownsMap Try.prog 9 RV w.heap.size 0 (.map []) := World.ownsMap_made _ _ _ _
    exact h0.alloc _
end Go.Proofs.Ytfdaooaooalknaa
