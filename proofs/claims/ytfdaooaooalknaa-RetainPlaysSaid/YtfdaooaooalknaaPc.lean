/-
  LAYER 27: pick: a range over the map, then the sort.
-/
import Derived.Test.YtfdaooaooalknaaPb
import Derived.Maps.RangeWalk
import Derived.Laws.AppendOwnNone
import Derived.Laws.OwnMore
namespace Go.Proofs.Ytfdaooaooalknaa
set_option linter.unusedVariables false
set_option linter.unusedSimpArgs false
open Go.RowKit Go.Maps Go.WideMaps
theorem info33x : (Try.prog.info? 33).map (fun i => (i.zero, i.size, i.bytes)) = some (some zM, 4, 48) := by kernel_rfl
theorem ms_cells {w : World} {b o : Nat} {L : List Mg} (h : ∀ i f, L[i]? = some f → ∀ j u, f.cells[j]? = some u → w.cell? ⟨b, o + i * 4 + j, none⟩ = some u) : ∀ j u, (msAtC L)[j]? = some u → w.cell? ((⟨b, o, none⟩ : Addr).add j) = some u := by
  intro j u hj
  have hlt : j < L.length * 4 := by
    have := (List.getElem?_eq_some_iff.1 hj).1
    rwa [msAtC_length] at this
  have hf : L[j / 4]? = some (L[j / 4]'(by omega)) := List.getElem?_eq_getElem (by omega)
  have hg := msAtC_get L (j / 4) _ hf (j % 4) (Nat.mod_lt _ (by decide))
  rw [show j / 4 * 4 + j % 4 = j by omega, hj] at hg
  have hr := h (j / 4) _ hf (j % 4) u hg.symm
  rw [add_off', show o + j = o + j / 4 * 4 + j % 4 by omega]
  exact hr
theorem run_append_owned_nil {w : World} {P : Program} (base : Nat) (t ty e : TypeId) (i : TypeInfo) (size : Nat) (ht : P.underlying t = some (.slice e)) (hi : P.info? e = some i)
    (v : Value) (n c : Nat) (xs : List Value) (hown : w.ownsRow base e size v n xs) :
    (Builtin.append_ #[t, t] ty #[v, .slice none 0 c]).run P w = .ok v w := by
  rcases hown.2 with ⟨rfl, rfl⟩ | ⟨g, cap, cur, rfl, _, _, hnc, _⟩
  · simp [Builtin.append_, run_underlying ht, sizeOf, typeInfo, hi, Builtin.lenOf, Builtin.firstCells]
  · simp [Builtin.append_, run_underlying ht, sizeOf, typeInfo, hi, Builtin.lenOf, Builtin.firstCells, hnc, storeCells]
theorem wpList_append_ms (w : World) {ops : Array Oper} {rest : List Oper} {o : Oper} {a : Act} {Q : Exit → Act → World → Prop} (hgd : o.guard = none) (s x : Operand)
    (ho : o.op = .call { callee := .builtin .append, args := #[s, x], argTypes := #[22, 22] })
    (base : Nat) (v : Value) (n : Nat) (xs : List Value) (l : List Mg) (hs : a.eval s = v) (hown : w.ownsRow base 33 4 v n xs) (hx : MsAt w (a.eval x) l) (hbase : base ≤ w.heap.size) (hn : n + l.length ≤ 1000000)
    (h : ∀ v' w', w'.ownsRow base 33 4 v' (n + l.length) (xs ++ msAtC l) → w.grownBy w' v.ownBlock → wpList Try.prog ops Q rest (a.put o.dst v') w') : wpList Try.prog ops Q (o :: rest) a w := by
  obtain ⟨i, hi, hz, hsz, hby⟩ := info_parts info33x
  obtain ⟨ad, cap, hv, hm, hcase⟩ := hx
  cases ad with
  | none =>
    have hl : l = [] := by
      rcases hcase with h0 | ⟨b, o, h0, _⟩
      · exact h0
      · cases h0
    subst hl
    refine wpList_plain hgd fun K hK => ?_
    have hrun := run_append_owned_nil (P := Try.prog) (w := w) base 22 o.type 33 i 4 Try.underlying22 hi v n cap xs hown
    have hk := hK _ _ (h v w (by simpa [msAtC] using hown) ⟨rfl, rfl, rfl, Nat.le_refl _, fun _ _ _ => rfl⟩)
    unfold Oper.wp
    simp [execOp, ho, resolve, invoke, builtin, hs, hv, hrun, Result.andThen]
    exact hk
  | some ad =>
    have hcell : ∀ j u, (msAtC l)[j]? = some u → w.cell? (ad.add j) = some u := by
      rcases hcase with h | ⟨b, o, h, hlt, hcell⟩
      · subst h; intro j u hj; simp [msAtC] at hj
      · simp only [Option.some.injEq] at h
        subst h
        exact ms_cells hcell
    refine wpList_append_own w hgd s x 22 ho base 33 i zM 4 48 Try.underlying22 hi hz hsz hby rfl (by decide) v n xs hs hown ad l.length cap (msAtC l) hv (msAtC_length l) hcell (msAtC_one l) (by unfold maxLen; omega) (by omega) hbase ?_
    intro v' w' h1 h2 _
    exact h v' w' h1 h2
theorem ins_nil (fv : Value) (w : World) : Calls Try.prog 59 #[.slice none 0 0, .int .i64 0, .int .i64 0, fv] w fun e w' => e = .returned (.tuple #[]) ∧ w' = w := by
  go_enter Try.func59, Try.ntmps59
  go_wp2
  refine wp_loop_rounds 1 ?_
  rw [rounds_succ]
  go_wp2
  go_end0
  exact ⟨rfl, rfl⟩
theorem pdq_nil (lim : Int) (fv : Value) (w : World) : Calls Try.prog 46 #[.slice none 0 0, .int .i64 0, .int .i64 0, .int .i64 lim, fv] w fun e w' => e = .returned (.tuple #[]) ∧ w' = w := by
  have I := Lib.hid (fun W => ins_nil fv W)
  go_enter Try.func46, Try.ntmps46
  go_wp2
  refine wp_loop_rounds 1 ?_
  rw [rounds_succ]
  go_wp2_with fail
  refine (I.out _).mono ?_
  rintro e w1 ⟨rfl, rfl⟩
  go_wp2_with fail
  (try simp only [Exit.inBlock, Exit.then])
  refine bodyPost_ret (results_none rfl _ _ _) rfl ?_
  exact ⟨rfl, rfl⟩
theorem sort_nil (fv : Value) (w : World) : Calls Try.prog 31 #[.slice none 0 0, fv] w fun e w' => e = .returned (.tuple #[]) ∧ w' = w := by
  have I := Lib.hid (fun lim W => pdq_nil lim fv W)
  have B := Lib.hid (fun W => Try.bits_Len 0 W (by decide) (by decide))
  go_enter Try.func31, Try.ntmps31
  go_wp2_with fail
  refine (B.out _).mono ?_
  rintro e w1 ⟨rfl, rfl⟩
  go_wp2_with fail
  refine (I.out _ _).mono ?_
  rintro e w1 ⟨rfl, rfl⟩
  go_wp2_with fail
  go_end0
  exact ⟨rfl, rfl⟩
theorem key_inv {x t : ByteArray} (h : keyOf Try.prog 9 (.string x) = some (kS t)) : x = t := by
  obtain ⟨y, hy, e, -⟩ := Maps.keyOf_str Try.underlying9 h
  have h1 : x = ⟨y.toArray⟩ := by
    have : Value.string x = Value.string ⟨y.toArray⟩ := hy
    simpa using this
  have h2 : t.data.toList = y := by
    have : Lit.string t.data.toList = Lit.string y := e
    simpa using this
  subst h2
  rw [h1]
theorem own_ne {w : World} {B e size n g : Nat} {v : Value} {xs : List Value} (h : w.ownsRow B e size v n xs) (hg : g < B) : some g ≠ v.ownBlock := fun e => by
  have := (h.lt g e.symm).1
  omega
theorem none_of {w w' : World} (h : Below w.heap.size w w') : w.grownBy w' none := ⟨h.os, h.tape, h.output, h.size, fun i hi _ => h.block i hi⟩
theorem mg_one {w : World} {f : Mg} : MsAt (w.alloc (.cells #[.string f.a0, .string f.a1, .int .i64 f.a2, .bool f.a3] 33)) (.slice (some ⟨w.heap.size, 0, none⟩) 1 1) [f] := by
  refine ⟨_, 1, rfl, by simp, .inr ⟨w.heap.size, 0, rfl, by simp, fun i x hi j u hu => ?_⟩⟩
  have hi0 : i = 0 := by
    have := (List.getElem?_eq_some_iff.1 hi).1
    simp at this; exact this
  subst hi0
  simp at hi
  subst hi
  have := cell_of_row (w.alloc (.cells #[.string f.a0, .string f.a1, .int .i64 f.a2, .bool f.a3] 33)) w.heap.size j _ 33 (0, 0) (heap_alloc_new w _)
  rw [show 0 + 0 * 4 + j = j by omega, this]
  simpa [Mg.cells] using hu
theorem rv_inv : ∀ (v : Value) (y : DataW Value × List MemPlace), RV v = some y → ∃ c : Value, v = id c := fun v _ _ => ⟨v, rfl⟩
theorem rk_inv : ∀ (key : Value) (kl : Lit), keyOf Try.prog 9 key = some kl → ∃ x : ByteArray, key = .string x := fun key kl h => by
  obtain ⟨x, hx, -⟩ := Maps.keyOf_str Try.underlying9 h
  exact ⟨_, hx⟩
def PickIs (w : World) (D : DataW Value) (P : ByteArray → Bool) (e : Ending) (w' : World) : Prop :=
  ∃ v L, e = .returned v ∧ MsAt w' v L ∧ Lst D P L ∧ Below w.heap.size w w'
set_option maxHeartbeats 8000000 in
set_option maxRecDepth 100000 in
theorem pick_any (w : World) (p g n : Nat) (D : DataW Value) (P : ByteArray → Bool) (f : FuncId) (cap : Array Value) (h : Sv w p g n D) (hg : Good D) (hcase : (f = 24 ∧ cap = #[]) ∨ ∃ bx : Nat, f = 22 ∧ cap = #[.pointer (some ⟨bx, 0, none⟩)])
    (hP : ∀ W, Below w.heap.size w W → ∀ t : ByteArray, t.size ≤ 96 → Calls Try.prog f (#[.string t] ++ cap) W (BoolIs (P t) W)) :
    Calls Try.prog 21 #[.pointer (some ⟨p, 0, none⟩), .func (.func f) #[] cap] w (PickIs w D P) := by
  have NO := Lib.hid (none_ok w p g h.cell)
  have c0 := h.cell
  have hown := h.own
  have lp := h.lt
  have hle := hg.le
  replace h := Lib.hid h
  replace hg := Lib.hid hg
  rcases hcase with ⟨rfl, rfl⟩ | ⟨bx, rfl, rfl⟩
  all_goals
    simp only [Array.append_empty, List.append_toArray, List.cons_append, List.nil_append] at hP
    replace hP := Lib.hid hP
    go_enter Try.func21, Try.ntmps21
    go_wp2_with fail
    refine NO.out.mono ?_
    rintro e w1 ⟨rfl, rfl⟩
    go_wp2_with (first
      | (at_range; refine wpList_range_own _ rfl _ 46 rfl 9 33 law9 Try.underlying46 _ g n _ rfl hown ?_; intro w0 hrg0 hg0 hs0)
      | go_in)
    go_frame
    go_loopw [5] (fun c5 wr => ∃ (left : Lit → Bool) (cnt : Nat) (L : List Mg), wr.ranges Try.prog 9 RV g w1.heap.size n D left cnt ∧ Col D P left cnt L ∧ wr.ownsRow (w1.heap.size + 1) 33 4 c5 L.length (msAtC L) ∧ (L = [] → c5 = .slice none 0 0) ∧ Below w1.heap.size w1 wr ∧ w1.heap.size + 1 ≤ wr.heap.size) (fun _ wr => wr.rangeLeft g w1.heap.size)
    case atStart => exact ⟨_, _, [], hrg0, col_start D P, by simpa [msAtC] using World.ownsRow_nil _ _ _ _, fun _ => rfl, (Below.refl _ _).grown hg0 (Nat.le_refl _) (fun j hj => by cases hj), by omega⟩
    case round =>
      obtain ⟨left, cnt, L, hrg, hC, hO, hnil, hbw, hsz⟩ := hrel
      replace hC := Lib.hid hC
      replace hO := Lib.hid hO
      replace hnil := Lib.hid hnil
      replace hbw := Lib.hid hbw
      clear hrg0 hg0 hs0
      go_wp2_with (first
        | (at_next; refine wpList_next_ranges _ rfl _ rfl 9 law9 RV Value.string id rk_inv rv_inv g w1.heap.size n _ _ _ rfl hrg ?_ ?_)
        | go_in)
      · intro hc0 hl0
        by_cases hL : L = []
        · subst hL
          have e5 := hnil.out rfl
          subst e5
          have B := hbw
          clear hrg hO hnil hbw
          go_wp2_with fail
          refine (sort_nil _ _).mono ?_
          rintro e w3 ⟨rfl, rfl⟩
          go_wp2_with fail
          go_ret
          exact ⟨_, [], rfl, msAt_nil _, Lst.of hC.out hl0 (List.Perm.refl _) List.Pairwise.nil, B.out⟩
        · have hlen := hC.out.len
          have hb5 : w1.heap.size ≤ w1.heap.size + 1 := Nat.le_succ _
          obtain ⟨ho1, ho2⟩ := hO.out
          rcases ho2 with ⟨-, hn0⟩ | ⟨blk, cap5, cur, rfl, hblk, hrow, hnc, hcm, hcs, htk⟩
          · exact absurd (List.eq_nil_of_length_eq_zero hn0) hL
          have ST := msort w1.heap.size blk cap5 L wr (by omega) (Array.getElem?_eq_some_iff.1 hrow).1 (by omega) (fun i y hi j u hj => by
            have hjn : j < 4 := (List.getElem?_eq_some_iff.1 hj).1
            rw [cell_of_row wr blk _ cur 33 (0, 0) hrow]
            have hx := msAtC_get L i y hi j hjn
            rw [hj, ← htk, List.getElem?_take] at hx
            split at hx
            · rw [← hx]; simp
            · cases hx) (fun j => frozen_of_row wr blk j cur 33 hrow)
          have hlt5 : blk < wr.heap.size := (Array.getElem?_eq_some_iff.1 hrow).1
          replace ST := Lib.hid ST
          have hll : L.length ≤ 1000 := by omega
          clear hrg hO hnil ho1 hcs htk hnc hcm hrow
          go_wp2_with fail
          refine ST.out.mono ?_
          rintro e w3 ⟨rfl, b3, L2, hp2, hr2, hc2⟩
          have BB := Lib.hid (hbw.out.trans b3)
          have LL := Lib.hid (Lst.of hC.out hl0 hp2 hr2)
          have e2 := hp2.length_eq
          have MM : MsAt w3 (.slice (some ⟨blk, 0, none⟩) L.length cap5) L2 := ⟨_, cap5, by rw [e2], by rw [e2]; omega, .inr ⟨blk, 0, rfl, Nat.lt_of_lt_of_le hlt5 b3.size, fun i y hi j u hu => by rw [Nat.zero_add]; exact hc2 i y hi j u hu⟩⟩
          replace MM := Lib.hid MM
          clear hc2 b3 ST
          go_wp2_with fail
          go_ret
          exact ⟨_, L2, rfl, MM.out, LL.out, BB.out⟩
      · intro x c kl yd yp w2 cnt2 hkey hlk hv hat hrg2 hlt hg2 hs2 hen
        obtain ⟨t, tx, q, rfl, nb, nx, hat'⟩ := hg.out.ent kl (has_true_of_atKey hat)
        have ec : c = mV t tx q true := by
          have e1 : yd = .held c := by
            have : (DataW.held c, ([] : List MemPlace)) = (yd, yp) := by simpa [RV] using hv
            exact (congrArg Prod.fst this).symm
          have e2 := (hat .nil).symm.trans (hat' .nil)
          rw [e1] at e2
          simpa using e2
        subst ec
        obtain rfl := key_inv hkey
        have hI : InD D ⟨x, tx, q, true⟩ := ⟨nx, rfl, nb, hat'⟩
        have hx9 := name_small nb
        have O2 := hO.out.kept hg2 (.inr (own_ne hO.out (Nat.lt_succ_self _)).symm)
        have B2 := hbw.out.grown hg2 hbw.out.size (fun j hj => by cases hj; exact Nat.le_refl _)
        have z2 : w1.heap.size + 1 ≤ w2.heap.size := by omega
        have B2a := B2.alloc (Nat.le_of_succ_le z2) (.cells #[.string x, .string tx, .int .i64 q, .bool true] 33)
        have PT := Lib.hid (hP.out _ B2a x hx9)
        have M2 : MsgAt (w2.alloc (.cells #[.string x, .string tx, .int .i64 q, .bool true] 33)) w2.heap.size x tx q true := heap_alloc_new w2 _
        have hlk' := Lib.hid hlk
        replace hI := Lib.hid hI
        replace hrg2 := Lib.hid hrg2
        replace O2 := Lib.hid O2
        replace B2a := Lib.hid B2a
        replace M2 := Lib.hid M2
        have mz : wr.rangeLeft g w1.heap.size = cnt := hrg.left_eq
        unfold mV at hen
        clear hs2 hO hbw hrg hkey hv hat hat' nb nx hlk B2 hg2 c0 hown
        go_wp2_with fail
        refine PT.out.mono ?_
        rintro e w3 ⟨rfl, b3⟩
        have M3 := M2.out.keep b3 (by simp)
        obtain ⟨c0, c1, c2, c3, -⟩ := M3.cells
        have G3 := (World.grownBy_alloc w2 (.cells #[.string x, .string tx, .int .i64 q, .bool true] 33) none)
        have R3 := (hrg2.out.alloc (.cells #[.string x, .string tx, .int .i64 q, .bool true] 33)).kept (none_of b3) (by simp) (by simp)
        have O3 := (O2.out.alloc (.cells #[.string x, .string tx, .int .i64 q, .bool true] 33)).kept (none_of b3) (by cases hv : u5.ownBlock <;> simp)
        have B3 := B2a.out.trans (b3.mono B2a.out.size)
        have z3 : w1.heap.size + 1 ≤ w3.heap.size := by have := b3.size; simp at this; omega
        clear PT M2 M3 hrg2 O2 b3 G3
        cases hPx : P x with
        | false =>
          have CC := Lib.hid (hC.out.no hlt hPx)
          replace R3 := Lib.hid R3
          replace O3 := Lib.hid O3
          replace B3 := Lib.hid B3
          clear c0 c1 c2 c3 B2a
          go_wp2_with fail
          go_roundw
          case rel => exact ⟨_, cnt2, L, R3.out, CC.out, O3.out, hnil.out, B3.out, z3⟩
          case measure => rw [R3.out.left_eq, mz]; exact hlt
        | true =>
          have CC := Lib.hid (hC.out.yes (f := ⟨x, tx, q, true⟩) hlk'.out hlt hPx hI.out)
          have hl32 : L.length ≤ 1000 := by have := hC.out.len; omega
          have O3a := Lib.hid (O3.alloc (.cells #[.string x, .string tx, .int .i64 q, .bool true] 33))
          have M3a : MsAt (w3.alloc (.cells #[.string x, .string tx, .int .i64 q, .bool true] 33)) (.slice (some ⟨w3.heap.size, 0, none⟩) 1 1) [(⟨x, tx, q, true⟩ : Mg)] := mg_one
          replace M3a := Lib.hid M3a
          have R3a := Lib.hid (R3.alloc (.cells #[.string x, .string tx, .int .i64 q, .bool true] 33))
          have B3a := Lib.hid (B3.alloc (Nat.le_of_succ_le z3) (.cells #[.string x, .string tx, .int .i64 q, .bool true] 33))
          have z3a : w1.heap.size + 1 ≤ (w3.alloc (.cells #[.string x, .string tx, .int .i64 q, .bool true] 33)).heap.size := by simp; omega
          replace z3a := Lib.hid z3a
          clear R3 O3 B3 B2a
          go_wp2_with (at_builtin; go_must (refine wpList_append_ms _ rfl (.tmp 23) (.tmp 25) rfl (w1.heap.size + 1) _ L.length (msAtC L) [(⟨x, tx, q, true⟩ : Mg)] rfl O3a.out M3a.out z3a.out (by simp; omega) ?_); intro v4 w4 o4 g4; go_frame)
          go_roundw
          case rel =>
            refine ⟨_, cnt2, L ++ [⟨x, tx, q, true⟩], R3a.out.kept g4 (own_ne O3a.out (by omega)) (own_ne O3a.out (Nat.lt_succ_self _)), CC.out, ?_, fun e => by simp at e, B3a.out.grown g4 B3a.out.size (fun j hj => by have := (O3a.out.lt j hj).1; omega), Nat.le_trans z3a.out g4.size⟩
            rw [List.length_append, msAtC_append]
            exact o4
          case measure => rw [(R3a.out.kept g4 (own_ne O3a.out (by omega)) (own_ne O3a.out (Nat.lt_succ_self _))).left_eq, mz]; exact hlt
end Go.Proofs.Ytfdaooaooalknaa
