/-
  LAYER 28: stands says true.
-/
import Derived.Test.YtdcfenkllpfbaaaCd
import Derived.Deep.RegionHeld3
namespace Go.Proofs.Ytdcfenkllpfbaaa.Sns
set_option linter.unusedVariables false
set_option linter.unusedSimpArgs false
open Go.Proofs.Ytdcfenkllpfbaaa
open Go.RowKit Que
variable {w0 w w' : World} {t x : Nat} {n : Int} {L : List (Option Ze)} {D : List (Option De)}
def tkV : List (Option Vw) → Nat → List Nat
  | [], _ => []
  | none :: V, n => tkV V (n + 1)
  | some _ :: V, n => n :: tkV V (n + 1)
def ixs (l : List Nat) : List Value := l.map fun (i : Nat) => .int .i64 (i : Int)
theorem tk_Z : ∀ (L : List (Option Ze)) (n : Nat), slS (tkS (spS L) n) = ixs (tkV (vwZ L) n)
  | [], n => rfl
  | none :: L, n => tk_Z L (n + 1)
  | some z :: L, n => by
    show Value.int .i64 (n : Int) :: slS (tkS (spS L) (n + 1)) = _
    rw [tk_Z L (n + 1)]
    rfl
theorem tk_len (L : List (Option Ze)) : (tkS (spS L) 0).length = (tkV (vwZ L) 0).length := by
  have := congrArg List.length (tk_Z L 0)
  simpa [slS, ixs] using this
theorem tkV_snoc : ∀ (V : List (Option Vw)) (n : Nat) (y : Option Vw), tkV (V ++ [y]) n = tkV V n ++ (if y.isSome then [n + V.length] else [])
  | [], n, none => rfl
  | [], n, some c => rfl
  | none :: V, n, y => by
    show tkV (V ++ [y]) (n + 1) = tkV V (n + 1) ++ _
    rw [tkV_snoc V (n + 1) y, List.length_cons, show n + 1 + V.length = n + (V.length + 1) by omega]
  | some c :: V, n, y => by
    show n :: tkV (V ++ [y]) (n + 1) = n :: tkV V (n + 1) ++ _
    rw [tkV_snoc V (n + 1) y, List.length_cons, show n + 1 + V.length = n + (V.length + 1) by omega]
    rfl
theorem tkV_next {V : List (Option Vw)} {i : Nat} {y : Option Vw} (h : V[i]? = some y) : tkV (V.take (i + 1)) 0 = tkV (V.take i) 0 ++ (if y.isSome then [i] else []) := by
  have hl := (List.getElem?_eq_some_iff.1 h).1
  rw [List.take_add_one, h, Option.toList_some, tkV_snoc, List.length_take, Nat.min_eq_left (by omega), Nat.zero_add]
theorem tkV_len : ∀ (V : List (Option Vw)) (n : Nat), (tkV V n).length ≤ V.length
  | [], _ => by simp [tkV]
  | none :: V, n => by have := tkV_len V (n + 1); simp [tkV]; omega
  | some s :: V, n => by have := tkV_len V (n + 1); simp [tkV]; omega
/-- A row of numbers is none of theirs. -/
theorem Both.offrow {S : Nat → Prop} (h : Both w0 t x n L D w) (F : Far S w w') (hS : ∀ k, S k → w0.heap.size ≤ k ∧ ∃ cs, w.heap[k]? = some (.cells cs 3 (0, 0))) : Both w0 t x n L D w' :=
  ⟨h.p.off F (fun k hk => by obtain ⟨-, cs, hc⟩ := hS k hk; exact ⟨cs, 3, hc, by decide, by decide, by decide, by decide, by decide⟩),
   h.d.off F (fun k hk cs ty e => by
    obtain ⟨-, cs', hc⟩ := hS k hk
    rw [hc] at e
    simp only [Option.some.injEq, Obj.cells.injEq] at e
    obtain ⟨-, rfl, -⟩ := e
    decide),
   h.bw.trans (F.below h.bw.size (fun k hk => (hS k hk).1)), h.tt, h.old⟩
/-- The cells of a document's session. -/
def CellsD (x i : Nat) (z : De) (W : World) : Prop :=
  W.cell? ⟨x, i, none⟩ = some (.pointer (some ⟨z.d, 0, none⟩)) ∧ W.cell? ⟨z.d, 0, none⟩ = some (.string z.cl) ∧ W.cell? ⟨z.d, 1, none⟩ = some (.bool z.cn) ∧ W.cell? ⟨z.d, 3, none⟩ = some (.pointer (some ⟨z.q, 0, none⟩)) ∧ W.cell? ⟨z.q, 0, none⟩ = some z.v
theorem Both.cells (h : Both w0 t x n L D w) {i : Nat} {z : De} (hi : D[i]? = some (some z)) : CellsD x i z w := by
  have hz := h.d.at_ i z hi
  exact ⟨h.d.cell hi, hz.c0, hz.c1, hz.c3, hz.xq.c0⟩
theorem both_queue (h : Both w0 t x n L D w) {i : Nat} {z : Ze} (hi : L[i]? = some (some z)) {B m : Nat} {v : Value} {xs : List Value} (o : w.ownsRow B 3 1 v m xs) :
    Calls Try.prog 16 #[.pointer (some ⟨z.s, 0, none⟩)] w fun e w' => (∃ a c, e = .returned (.slice a z.l.length c)) ∧ Both w0 t x n L D w' ∧ w'.ownsRow B 3 1 v m xs ∧ w.heap.size ≤ w'.heap.size := by
  refine (st_queue h.p hi).mono ?_
  rintro e w' ⟨⟨a, c, rfl⟩, hL, F⟩
  obtain ⟨d1, b1⟩ := h.far_q hi F
  refine ⟨⟨a, c, rfl⟩, ⟨hL, d1, b1, h.tt, h.old⟩, own_fars o F (fun k hk e => ?_), F.size⟩
  obtain ⟨-, cs, hc⟩ := own_row o hk
  have := noD_q h.p hi k e
  have hz := h.p.at_ i z hi
  obtain ⟨s1, r1, hc1⟩ := hz.qu.ch
  rcases e with rfl | rfl
  · exact ne_ty hc hz.qu.row (by decide) rfl
  · exact ne_ch hc hc1 (by intros; simp) rfl
set_option maxHeartbeats 16000000 in
set_option maxRecDepth 100000 in
theorem stands_any (h : Both w0 t x n L D w) (he : vwZ L = vwD D) (hn : n ≤ 1000) : Calls Try.prog 23 #[.pointer (some ⟨t, 0, none⟩), .pointer (some ⟨x, 0, none⟩)] w fun e w' => e = .returned (.bool true) ∧ Both w0 t x n L D w' := by
  obtain ⟨i3, hi3, hz0, hz1, hz2⟩ := info_parts info3
  replace hi3 := Lib.hid hi3
  replace hz0 := Lib.hid hz0
  replace hz1 := Lib.hid hz1
  replace hz2 := Lib.hid hz2
  have hlL := h.p.len
  have hlD := h.d.len
  obtain ⟨V, hV⟩ : ∃ V, V = vwZ L := ⟨_, rfl⟩
  have hVl : V.length = 8 := by rw [hV, vwZ, List.length_map, hlL]
  have hT8 : ∀ i, (tkV (V.take i) 0).length ≤ 8 := fun i => by have := tkV_len (V.take i) 0; have := List.length_take_le' i V; omega
  replace hT8 := Lib.hid hT8
  replace he := Lib.hid he
  replace h := Lib.hid h
  replace hV := Lib.hid hV
  have hB0 : Hid (w0.heap.size ≤ w.heap.size) := Lib.hid h.out.bw.size
  go_enter Try.func23, Try.ntmps23
  go_wp2_with fail
  go_loopw [5, 6] (fun wv iv wr => ∃ i : Nat, iv = .int .i64 (i : Int) ∧ i ≤ 8 ∧ Both w0 t x n L D wr ∧ wr.ownsRow w.heap.size 3 1 wv (tkV (V.take i) 0).length (ixs (tkV (V.take i) 0)) ∧ w.heap.size ≤ wr.heap.size) (fun _ iv _ => 8 - (intOf iv).toNat)
  case atStart => exact ⟨0, rfl, by omega, h.out, (by simpa [tkV, ixs] using World.ownsRow_nil w w.heap.size 3 1), Nat.le_refl _⟩
  case round =>
    obtain ⟨i, rfl, hi, hb, o, hsz⟩ := hrel
    by_cases h8 : i < 8
    · have h8' : (i : Int) < 8 := by omega
      obtain ⟨y, hy⟩ : ∃ y, V[i]? = some y := ⟨_, List.getElem?_eq_getElem (by omega)⟩
      have hn2 := tkV_next hy
      have hyZ : (vwZ L)[i]? = some y := by rw [← hV.out]; exact hy
      have hyD : (vwD D)[i]? = some y := by rw [← he.out]; exact hyZ
      cases y with
      | none =>
        have hZ := getZ0 hyZ
        have hD := getD0 hyD
        have AT := st_at hb.p (i : Int)
        rw [plS_in hZ, show ptrZ none = none from rfl] at AT
        replace AT := Lib.hid AT
        have c0 := hb.d.cell hD
        simp only [cellD] at c0
        rw [show (if (none : Option Vw).isSome then [i] else []) = [] from rfl, List.append_nil] at hn2
        rw [← hn2] at o
        replace o := Lib.hid o
        replace hb := Lib.hid hb
        replace hn2 := Lib.hid hn2
        clear hyZ hyD hZ hD hy
        go_wp2_with fail
        refine AT.out.mono ?_
        rintro e w2 ⟨rfl, rfl⟩
        go_wp2_with fail
        go_roundw
        case rel => exact ⟨i + 1, by simp, by omega, hb.out, o.out, hsz⟩
        case measure => simp [intOf]; omega
      | some c =>
        obtain ⟨z, hZ, hc1⟩ := getZ hyZ
        obtain ⟨u, hD, hc2⟩ := getD' hyD
        have hzu : (z.cl, z.cn, z.l.length) = (u.cl, u.cn, u.l.length) := hc1.symm.trans hc2
        simp only [Prod.mk.injEq] at hzu
        obtain ⟨ecl, ecn, elen⟩ := hzu
        have AT := st_at hb.p (i : Int)
        rw [plS_in hZ, show ptrZ (some z) = some ⟨z.s, 0, none⟩ from rfl] at AT
        replace AT := Lib.hid AT
        have c0 := hb.d.cell hD
        simp only [cellD] at c0
        rw [show (if (some c : Option Vw).isSome then [i] else []) = [i] from rfl] at hn2
        obtain ⟨ua, uc, huv⟩ := own_slice (hb.d.at_ i u hD).xq.its
        obtain ⟨l0, hl0⟩ : ∃ l0, l0 = tkV (V.take i) 0 := ⟨_, rfl⟩
        have hm8 : l0.length ≤ 8 := by rw [hl0]; exact hT8.out i
        rw [← hl0] at o hn2
        obtain ⟨va, vc, rfl⟩ := own_slice o
        have hnew : Hid (∀ j u', ([.int .i64 (i : Int)] : List Value)[j]? = some u' → (wr.alloc (.cells #[.int .i64 (i : Int)] 3)).cell? ((⟨wr.heap.size, 0, none⟩ : Addr).add j) = some u') := Lib.hid (by
          intro j u' hj
          rw [add_off', Nat.zero_add, cell_of_row _ _ j _ 3 (0, 0) (heap_alloc_new wr _)]
          simpa using hj)
        have oA := Lib.hid (own_keep o (ext_alloc wr (.cells #[.int .i64 (i : Int)] 3)))
        have bA := Lib.hid (hb.ext (ext_alloc wr (.cells #[.int .i64 (i : Int)] 3)))
        have szA : Hid (w.heap.size ≤ (wr.alloc (.cells #[.int .i64 (i : Int)] 3)).heap.size) := Lib.hid (by simp; omega)
        replace hn2 := Lib.hid hn2
        replace hl0 := Lib.hid hl0
        replace ecl := Lib.hid ecl
        replace ecn := Lib.hid ecn
        replace elen := Lib.hid elen
        replace huv := Lib.hid huv
        clear hyZ hyD hy o hb hc1 hc2
        go_wp2_with fail
        refine AT.out.mono ?_
        rintro e w2 ⟨rfl, rfl⟩
        go_wp2_with (first
          | (at_builtin; go_must (refine wpList_append_own_at _ rfl (.tmp 34) (.tmp 36) 36 rfl w.heap.size 3 i3 (.int .i64 0) 1 8 Try.underlying36 hi3.out hz0.out hz1.out hz2.out rfl (by decide) (.slice va l0.length vc) l0.length (ixs l0) rfl oA.out ⟨wr.heap.size, 0, none⟩ 1 1 [.int .i64 (i : Int)] rfl rfl hnew.out (by intro u hu; simp at hu; subst hu; rfl) (by unfold maxLen; omega) (by omega) szA.out ?_; intro v2 w2 o2 g2 _ hat; have B2 := Lib.hid (bA.out.offrow (S := fun k => (Value.slice va l0.length vc).ownBlock = some k) (Far.of_grown g2 (fun k _ e => e)) (fun k hk => by obtain ⟨h1, cs, h2⟩ := own_row oA.out hk; exact ⟨Nat.le_trans hB0.out h1, cs, h2⟩)); have sz2 : Hid (w.heap.size ≤ w2.heap.size) := Lib.hid (Nat.le_trans szA.out g2.size); obtain ⟨va2, vc2, rfl⟩ := own_slice o2; have O2 : Hid (w2.ownsRow w.heap.size 3 1 (.slice va2 (l0.length + 1) vc2) (tkV (V.take (i + 1)) 0).length (ixs (tkV (V.take (i + 1)) 0))) := Lib.hid (by rw [hn2.out]; simpa [ixs] using o2); have CL := Lib.hid (fun W (hW : Below w2.heap.size w2 W) => s_client ((B2.out.ext hW).p.at_ i z hZ).sn); have CN := Lib.hid (fun W (hW : Below w2.heap.size w2 W) => s_clean ((B2.out.ext hW).p.at_ i z hZ).sn); have QU := Lib.hid (fun W (hW : Below w2.heap.size w2 W) => both_queue (B2.out.ext hW) hZ (own_keep O2.out hW)); have KO := Lib.hid (fun W (hW : Below w2.heap.size w2 W) => (B2.out.ext hW).cells hD); clear o2 g2 hat)))
        all_goals
          rw [elen.out] at QU
          rw [ecl.out] at CL
          rw [ecn.out] at CN
          unfold CellsD at KO
          rw [huv.out] at KO
          clear c0 AT hnew oA bA szA
          go_region_held3 (fun W => W.cell? ⟨x, i, none⟩ = some (.pointer (some ⟨u.d, 0, none⟩)) ∧ W.cell? ⟨u.d, 0, none⟩ = some (.string u.cl) ∧ W.cell? ⟨u.d, 1, none⟩ = some (.bool u.cn) ∧ W.cell? ⟨u.d, 3, none⟩ = some (.pointer (some ⟨u.q, 0, none⟩)) ∧ W.cell? ⟨u.q, 0, none⟩ = some (.slice ua u.l.length uc))
            (first | exact KO.out _ (by first | exact Below.refl _ _ | exact ext_drew _ | assumption) | exact KA.out)
            (first
              | (go_at_call 18; refine (CL.out _ (by first | exact Below.refl _ _ | exact ext_drew _ | assumption)).mono ?_; rintro e w6 ⟨rfl, rfl⟩)
              | (go_at_call 17; refine (CN.out _ (by first | exact Below.refl _ _ | exact ext_drew _ | assumption)).mono ?_; rintro e w6 ⟨rfl, rfl⟩)
              | (go_at_call 16; refine (QU.out _ (by first | exact Below.refl _ _ | exact ext_drew _ | assumption)).mono ?_; rintro e w6 ⟨⟨qa, qc, rfl⟩, b6, o6, s6⟩; have KA := Lib.hid (b6.cells hD); unfold CellsD at KA; rw [huv.out] at KA; have B6 := Lib.hid b6; have O6 := Lib.hid o6; have sz6 : Hid (w.heap.size ≤ w6.heap.size) := Lib.hid (Nat.le_trans sz2.out (Nat.le_trans (by first | exact Nat.le_refl _ | exact (ext_drew _).size) s6)); clear b6 o6 s6))
          all_goals
            clear KA CL CN QU KO B2 O2 sz2
            go_wp2_with fail
            go_roundw
            case rel => exact ⟨i + 1, by simp, by omega, B6.out, (by have := O6.out; have e := hn2.out; have hl := congrArg List.length e; rw [List.length_append, List.length_singleton] at hl; rw [hl] at this ⊢; exact this), sz6.out⟩
            case measure => simp [intOf]; omega
    · have h8' : ¬ (i : Int) < 8 := by omega
      have ei : i = 8 := by omega
      rw [ei, List.take_of_length_le (by omega)] at o
      have hT := hT8.out 8
      rw [List.take_of_length_le (by omega)] at hT
      obtain ⟨T, eT⟩ : ∃ T, T = tkV V 0 := ⟨_, rfl⟩
      rw [← eT] at o hT
      have AL : Hid (Calls Try.prog 11 #[.pointer (some ⟨t, 0, none⟩)] wr fun e w' => ∃ v, e = .returned v ∧ w'.ownsRow wr.heap.size 3 1 v T.length (ixs T) ∧ Below wr.heap.size wr w') := Lib.hid (by
        have := st_all hb.p
        unfold AllIs at this
        rw [tk_Z, tk_len, ← hV.out, ← eT] at this
        exact this)
      have LN : Hid (∀ W, Below wr.heap.size wr W → Calls Try.prog 12 #[.pointer (some ⟨t, 0, none⟩)] W fun e w' => e = .returned (.int .i64 (T.length : Int)) ∧ Below W.heap.size W w') := Lib.hid (fun W hW => by
        have := st_len (hb.ext hW).p
        rw [tk_len, ← hV.out, ← eT] at this
        exact this)
      obtain ⟨va, vc, rfl⟩ := own_slice o
      have hTi : (T.length : Int) ≤ 8 := by omega
      have O1 := Lib.hid o
      have B1 := Lib.hid hb
      clear o hb ei eT
      go_wp2_with fail
      refine AL.out.mono ?_
      rintro e w2 ⟨v2, rfl, o2, b2⟩
      obtain ⟨va2, vc2, rfl⟩ := own_slice o2
      have O2 := Lib.hid o2
      have L2 := Lib.hid (LN.out w2 b2)
      replace b2 := Lib.hid b2
      clear o2 AL LN
      go_wp2_with fail
      refine L2.out.mono ?_
      rintro e w3 ⟨rfl, b3⟩
      have O13 := Lib.hid (own_keep (own_keep O1.out b2.out) b3)
      have O23 := Lib.hid (own_keep O2.out b3)
      have B3 := Lib.hid ((B1.out.ext b2.out).ext b3)
      clear O1 O2 B1 b2 b3 L2
      go_wp2_with fail
      go_loopw [9] (fun iv W => ∃ k : Nat, iv = .int .i64 (k : Int) ∧ k ≤ T.length ∧ Below w3.heap.size w3 W) (fun iv _ => T.length - (intOf iv).toNat)
      case atStart => exact ⟨0, rfl, by omega, Below.refl _ _⟩
      case round =>
        obtain ⟨k, rfl, hk, bk⟩ := hrel
        by_cases hkl : k < T.length
        · have hkl' : (k : Int) < (T.length : Int) := by omega
          obtain ⟨g1, c1', e1⟩ := own_slice' O13.out (by omega)
          obtain ⟨g2, c2', e2⟩ := own_slice' O23.out (by omega)
          simp only [Value.slice.injEq] at e1 e2
          obtain ⟨rfl, -, rfl⟩ := e1
          obtain ⟨rfl, -, rfl⟩ := e2
          have hx : (ixs T)[k]? = some (.int .i64 ((T[k]'hkl : Nat) : Int)) := by simp [ixs, hkl]
          have d1 := own_get (own_keep O13.out (ext_trans bk (ext_drew _))) hx
          have d2 := own_get (own_keep O23.out (ext_trans bk (ext_drew _))) hx
          have f1 := own_get (own_keep O13.out bk) hx
          have f2 := own_get (own_keep O23.out bk) hx
          have bk' := Lib.hid bk
          generalize ((T[k]'hkl : Nat) : Int) = q at *
          clear bk hx d1 d2
          go_wp2_with fail
          go_quiet (fail)
          go_wp2_with fail
          go_roundw
          case rel => exact ⟨k + 1, by simp, by omega, ext_trans bk'.out (ext_drewN _ _)⟩
          case measure => simp [intOf]; omega
        · have hkl' : ¬ (k : Int) < (T.length : Int) := by omega
          have B4 := Lib.hid (B3.out.ext bk)
          clear bk
          go_wp2_with fail
          go_ret
          exact ⟨rfl, B4.out⟩
end Go.Proofs.Ytdcfenkllpfbaaa.Sns
