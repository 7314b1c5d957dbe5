/-
  LAYER 15: the filter at a place, read by the program.
-/
import Derived.Test.YtmpklaokgogigaaDoorSk
import Derived.ControlIn
import Derived.Scope
import Derived.RangeFuncBox
import Derived.RangeFuncNested
import Derived.RangeFuncBound
import Derived.RangeFuncCalls
import Derived.RangeFuncLeaves
import Derived.Shelf.Abstract
import Derived.Shelf.RegionOpen
import Derived.OwnWalkIn
import Derived.TacticsInMore
import Derived.LoopNIn
import Derived.LoopIn
namespace Go.Proofs.YtmpklaokgogigaaDoor
set_option linter.unusedSimpArgs false
set_option linter.unusedVariables false
open Go.RowKit

def FilP (r : Fi × Nat × Int) (w : World) (e : Ending) (w' : World) : Prop :=
  e = .returned (.tuple #[.agg #[.string r.1.t, .int .i64 r.1.q], .int .i64 (r.2.1 : Nat), .int .i64 r.2.2]) ∧ Below w.heap.size w w'
theorem byte_at {w w' : World} {b o n c k : Nat} {l : List Nat} (h : BytesAt w (.slice (some ⟨b, o, none⟩) n c) l) (hk : k < l.length) (hb : Below w.heap.size w w') : w'.cell? ⟨b, o + k, none⟩ = some (.int .u8 ((l.getD k 0 : Nat) : Int)) := by
  obtain ⟨a, cap, hv, -, h⟩ := h
  simp only [Value.slice.injEq] at hv
  obtain ⟨rfl, -, -⟩ := hv
  rcases h with rfl | ⟨b', o', ha, hlt, hc⟩
  · simp at hk
  · simp only [Option.some.injEq, Addr.mk.injEq, and_true] at ha
    obtain ⟨rfl, rfl⟩ := ha
    rw [hb.cell (by simpa using hlt)]
    exact hc k hk
set_option maxHeartbeats 4000000 in
set_option maxRecDepth 100000 in
theorem filter_any (v : Value) (l : List Nat) (k : Nat) (ends : Bool) (w : World) (hb : BytesAt w v l) (h256 : ∀ x ∈ l, x < 256) (hl : l.length ≤ 140737488351232) (hk : k ≤ l.length) :
    Calls Tryd.prog 90 #[v, .int .i64 (k : Int), .bool ends] w (FilP (filtV l k ends) w) := by
  have hB := Lib.hid hb
  have G := Lib.hid (get_any v l k (w.alloc (.cells #[.string ⟨#[]⟩, .int .i64 0] 56)) (hb.keep (ext_alloc _ _) (Nat.le_refl _)) h256 (by omega) (by omega))
  have EN := @getV_end l k
  have hbyte : ∀ j, l.getD j 0 < 256 := fun j => by
    rw [List.getD_eq_getElem?_getD]
    cases e : l[j]? with
    | none => simp
    | some x => exact h256 x (List.mem_of_getElem? e)
  obtain ⟨a, cap, rfl, -, hcs⟩ := hb
  have row0 := heap_alloc_new w (.cells #[.string ⟨#[]⟩, .int .i64 0] 56)
  have b0 := Lib.hid (ext_alloc w (.cells #[.string ⟨#[]⟩, .int .i64 0] 56))
  have sz0 : w.heap.size < (w.alloc (.cells #[.string ⟨#[]⟩, .int .i64 0] 56)).heap.size := by simp
  have CELLS : ∀ w2 : World, Below (w.alloc (.cells #[.string ⟨#[]⟩, .int .i64 0] 56)).heap.size (w.alloc (.cells #[.string ⟨#[]⟩, .int .i64 0] 56)) w2 →
      w2.cell? ⟨w.heap.size, 0, none⟩ = some (.string ⟨#[]⟩) ∧ w2.cell? ⟨w.heap.size, 1, none⟩ = some (.int .i64 0) ∧ w2.frozen? ⟨w.heap.size, 0, none⟩ = false ∧ w2.frozen? ⟨w.heap.size, 1, none⟩ = false := by
    intro w2 b2
    have row2 := (b2.block _ sz0).trans row0
    have c0 := cell_of_row w2 w.heap.size 0 _ 56 (0, 0) row2
    have c1 := cell_of_row w2 w.heap.size 1 _ 56 (0, 0) row2
    exact ⟨by simpa using c0, by simpa using c1, frozen_of_row w2 w.heap.size 0 _ 56 row2, frozen_of_row w2 w.heap.size 1 _ 56 row2⟩
  replace CELLS := Lib.hid CELLS
  have hm : (l.length : Int) ≤ 140737488351232 := by omega
  unfold filtV
  generalize getV l k = r at *
  obtain ⟨S, y, x⟩ := r
  unfold GetPost at G
  simp only at G EN ⊢
  clear row0
  by_cases hx : x = 0
  · obtain ⟨m, rfl, hm1, hm2⟩ := EN hx h256
    subst hx
    rw [if_neg (by simp)]
    have hm3 : (m : Int) ≤ l.length := by omega
    cases ends
    · by_cases he : m = l.length
      · have eV : (if (false : Bool) = true then ((⟨S, 0⟩ : Fi), (m : Int).toNat, (0 : Int)) else if (m : Int).toNat = l.length then (noF, 0, 2) else if 2 < l.getD (m : Int).toNat 0 then (noF, 0, 5) else (⟨S, (l.getD (m : Int).toNat 0 : Nat)⟩, (m : Int).toNat + 1, 0)) = (noF, 0, 2) := by
          rw [if_neg (by simp), Int.toNat_natCast, if_pos he]
        rw [eV]
        have hd : ((m : Int) == (l.length : Int)) = true := by simp; omega
        clear eV EN hcs
        replace he := Lib.hid he
        replace h256 := Lib.hid h256
        replace hbyte := Lib.hid hbyte
        go_enter Tryd.func90, Tryd.ntmps90
        go_wp2_with fail
        refine G.out.mono ?_
        rintro e w2 ⟨rfl, b2⟩
        obtain ⟨c0, c1, f0, f1⟩ := CELLS.out _ b2
        have B2 := Lib.hid (ext_trans b0.out b2)
        clear b2
        go_wp2_with fail
        exact bodyPost_ret (v := .tuple #[.agg #[.string ⟨#[]⟩, .int .i64 0], .int .i64 0, .int .i64 2]) (by simp [results, Tryd.results90, go_sem, c0, c1]) rfl ⟨rfl, (B2.out.setCell (Nat.le_refl _) _).setCell (Nat.le_refl _) _⟩
      · have hlt : m < l.length := by omega
        have hlt' : (m : Int) < l.length := by omega
        have hd : ((m : Int) == (l.length : Int)) = false := by rw [beq_eq_false_iff_ne]; omega
        obtain ⟨b, o, rfl, hbl⟩ : ∃ b o, a = some ⟨b, o, none⟩ ∧ b < w.heap.size := by
          rcases hcs with rfl | ⟨b, o, rfl, hbl, -⟩
          · simp at hlt
          · exact ⟨b, o, rfl, hbl⟩
        have BY := Lib.hid fun w2 (h2 : Below w.heap.size w w2) => byte_at hB.out hlt h2
        have hc := hbyte m
        have eV : (if (false : Bool) = true then ((⟨S, 0⟩ : Fi), (m : Int).toNat, (0 : Int)) else if (m : Int).toNat = l.length then (noF, 0, 2) else if 2 < l.getD (m : Int).toNat 0 then (noF, 0, 5) else (⟨S, (l.getD (m : Int).toNat 0 : Nat)⟩, (m : Int).toNat + 1, 0)) = if 2 < l.getD m 0 then (noF, 0, 5) else (⟨S, (l.getD m 0 : Nat)⟩, m + 1, 0) := by
          rw [if_neg (by simp), Int.toNat_natCast, if_neg he]
        rw [eV]
        clear eV EN hcs
        replace he := Lib.hid he
        replace h256 := Lib.hid h256
        replace hbyte := Lib.hid hbyte
        generalize l.getD m 0 = c at *
        have hc' : (c : Int) < 256 := by omega
        by_cases h2 : 2 < c
        · rw [if_pos h2]
          have h2' : 2 < (c : Int) := by omega
          go_enter Tryd.func90, Tryd.ntmps90
          go_wp2_with fail
          refine G.out.mono ?_
          rintro e w2 ⟨rfl, b2⟩
          obtain ⟨c0, c1, f0, f1⟩ := CELLS.out _ b2
          have by0 := BY.out _ (ext_trans b0.out b2)
          have B2 := Lib.hid (ext_trans b0.out b2)
          clear b2
          go_wp2_with fail
          exact bodyPost_ret (v := .tuple #[.agg #[.string ⟨#[]⟩, .int .i64 0], .int .i64 0, .int .i64 5]) (by simp [results, Tryd.results90, go_sem, c0, c1]) rfl ⟨rfl, (B2.out.setCell (Nat.le_refl _) _).setCell (Nat.le_refl _) _⟩
        · rw [if_neg h2]
          have h2' : (c : Int) ≤ 2 := by omega
          go_enter Tryd.func90, Tryd.ntmps90
          go_wp2_with fail
          refine G.out.mono ?_
          rintro e w2 ⟨rfl, b2⟩
          obtain ⟨c0, c1, f0, f1⟩ := CELLS.out _ b2
          have by0 := BY.out _ (ext_trans b0.out b2)
          have B2 := Lib.hid (ext_trans b0.out b2)
          clear b2
          go_wp2_with fail
          exact bodyPost_ret (v := .tuple #[.agg #[.string S, .int .i64 (c : Int)], .int .i64 ((m : Int) + 1), .int .i64 0]) (by simp [results, Tryd.results90, go_sem, c0, c1]) rfl ⟨by simp, (B2.out.setCell (Nat.le_refl _) _).setCell (Nat.le_refl _) _⟩
    · rw [if_pos rfl]
      clear EN hcs
      replace h256 := Lib.hid h256
      replace hbyte := Lib.hid hbyte
      go_enter Tryd.func90, Tryd.ntmps90
      go_wp2_with fail
      refine G.out.mono ?_
      rintro e w2 ⟨rfl, b2⟩
      obtain ⟨c0, c1, f0, f1⟩ := CELLS.out _ b2
      have B2 := Lib.hid (ext_trans b0.out b2)
      clear b2
      go_wp2_with fail
      exact bodyPost_ret (v := .tuple #[.agg #[.string S, .int .i64 0], .int .i64 (m : Int), .int .i64 0]) (by simp [results, Tryd.results90, go_sem, c0, c1]) rfl ⟨by simp, (B2.out.setCell (Nat.le_refl _) _).setCell (Nat.le_refl _) _⟩
  · rw [if_pos hx]
    have hd : (x != 0) = true := by simpa using hx
    clear EN hcs
    replace hx := Lib.hid hx
    replace h256 := Lib.hid h256
    replace hbyte := Lib.hid hbyte
    go_enter Tryd.func90, Tryd.ntmps90
    go_wp2_with fail
    refine G.out.mono ?_
    rintro e w2 ⟨rfl, b2⟩
    obtain ⟨c0, c1, f0, f1⟩ := CELLS.out _ b2
    have B2 := Lib.hid (ext_trans b0.out b2)
    clear b2
    go_wp2_with fail
    exact bodyPost_ret (v := .tuple #[.agg #[.string ⟨#[]⟩, .int .i64 0], .int .i64 0, .int .i64 x]) (by simp [results, Tryd.results90, go_sem, c0, c1]) rfl ⟨rfl, (B2.out.setCell (Nat.le_refl _) _).setCell (Nat.le_refl _) _⟩
end Go.Proofs.YtmpklaokgogigaaDoor

/-
  A SCOPE WITHIN A FENCE, through which the run goes without a goto.
-/
namespace Go.Proofs.YtmpklaokgogigaaDoor
set_option linter.unusedSimpArgs false
set_option linter.unusedVariables false
open Go

section
variable {F : Fence} {n : Nat} {P : Program} {b : Frame} {a : Act} {k : List Item} {cs : List Frame} {w : World} {Q : Exit → Act → World → Prop}

theorem stepR_scope {c : Code} : step P (lone (b.atR a (.code (.scope c) :: k)) cs w) = .next (lone (b.atR a (.code c :: .inScope c :: k)) cs w) :=
  step_lone_go (by simp [stepG, stepG.exec, Frame.atR])
theorem stepR_inScope {c : Code} : step P (lone (b.atR a (.inScope c :: k)) cs w) = .next (lone (b.atR a k) cs w) :=
  step_lone_go (by simp [stepG, stepG.exec, Frame.atR])

theorem wpIn_scope_straight {c : Code} (h : c.wpIn F n P (Exit.noGoto Q) a w) : (Code.scope c).wpIn F n P Q a w := by
  intro b k cs hro hb hr
  have h0 : (lone (b.atR a (.code (.scope c) :: k)) cs w).fenced P F := fenced_calm hb hr rfl
  obtain ⟨e, a₁, w₁, hq, harr⟩ := h b (.inScope c :: k) cs hro hb hr
  cases e with
  | normal => exact ⟨.normal, a₁, w₁, hq, .head h0 stepR_scope (StepsIn.trans harr (.one (fenced_calm hb hr rfl) stepR_inScope))⟩
  | exit id =>
    have hx : exitTo id (.inScope c :: k) = exitTo id k := by simp [exitTo]
    exact ⟨.exit id, a₁, w₁, hq, fun k' hk => .head h0 stepR_scope (harr.1 k' (by rw [hx]; exact hk)),
      fun hr' hk => let ⟨k₁, h1, h2⟩ := harr.2 hr' (by rw [hx]; exact hk); ⟨k₁, h1, .head h0 stepR_scope h2⟩⟩
  | goto l => exact hq.elim
  | ret => exact ⟨_, a₁, w₁, hq, .of_steps (.one h0 stepR_scope) harr⟩
  | panic ch => exact ⟨_, a₁, w₁, hq, .of_steps (.one h0 stepR_scope) harr⟩
  | outgrown => exact ⟨_, a₁, w₁, hq, .of_steps (.one h0 stepR_scope) harr⟩
end
end Go.Proofs.YtmpklaokgogigaaDoor

/-
  LAYER 15: the filters behind the number, handed one by one (an iterator's contract).
-/
namespace Go.Proofs.YtmpklaokgogigaaDoor
set_option linter.unusedSimpArgs false
set_option linter.unusedVariables false
open Go.RowKit Go.Shelf

attribute [local go_sem] Oper.semAt_some

abbrev encs (x : Fi × Int) : Array Value := #[.agg #[.string x.1.t, .int .i64 x.1.q], .int .i64 x.2]
/-- What the body keeps, for the iterator. -/
def KpF (n₀ Bb Ba : Nat) (A B : World) : Prop := Below n₀ A B ∧ B.heap[Bb]? = A.heap[Bb]? ∧ B.heap[Ba]? = A.heap[Ba]?
theorem kpF_t {n₀ Bb Ba : Nat} {A B C : World} (h : KpF n₀ Bb Ba A B) (k : KpF n₀ Bb Ba B C) : KpF n₀ Bb Ba A C := ⟨h.1.trans k.1, k.2.1.trans h.2.1, k.2.2.trans h.2.2⟩
theorem kpF_b {n₀ Bb Ba : Nat} {w : World} (hn : n₀ ≤ w.heap.size) (hb : Bb < w.heap.size) (ha : Ba < w.heap.size) (W : World) (l : Nat) (o o' : Obj) (hl : w.heap.size ≤ l) (h : W.heap[l]? = some o) (h1 : o.isCells = false) (h2 : o.isWalk = false) : KpF n₀ Bb Ba W (W.putObj l o') :=
  ⟨belowK_b hn W l o o' hl h h1 h2, World.putObj_heap_other (by omega), World.putObj_heap_other (by omega)⟩

set_option maxRecDepth 100000 in
set_option maxHeartbeats 4000000 in
theorem filters1_in (n : Nat) (hn : 1 ≤ n) (l0 Bb Ba n₀ : Nat) (a : Option Addr) (cap : Nat) (l : List Nat) (ends : Bool) (h256 : ∀ x ∈ l, x < 256) (hl : l.length ≤ 140737488351232) (S : List (Fi × Int)) (hS : S = seqL l ends (l.length + 1) 2) (J Jx : List (Fi × Int) → World → Prop)
    (hJ : ∀ pre W W', J pre W → Below W.heap.size W W' → J pre W')
    (hY : ∀ pre x W, J pre W → pre.length < S.length → YieldAt Fence.wide (n - 1) Tryd.prog l0 (encs x) W fun e W' =>
      (e = .returned (.bool true) ∧ J (pre ++ [x]) W' ∧ KpF n₀ Bb Ba W W') ∨ (e = .returned (.bool false) ∧ Jx (pre ++ [x]) W'))
    (w0 W : World) (hB : BytesAt w0 (.slice a l.length cap) l) (h00 : w0.heap.size ≤ n₀) (hw0 : Below n₀ w0 W) (hnW : n₀ ≤ W.heap.size) (x0 : Boxed W Bb 48 (.slice a l.length cap)) (x1 : Boxed W Ba 4 (.bool ends)) (h0 : J [] W) :
    CallsIn Fence.wide n Tryd.prog 89 #[.func (.yield l0) #[] #[], .pointer (some ⟨Bb, 0, none⟩), .pointer (some ⟨Ba, 0, none⟩)] W fun e W' => (∃ v, e = .returned v) ∧
      ((∃ ys, ys = S ∧ J ys W') ∨ (∃ pre, (∃ t, S = pre ++ t) ∧ Jx pre W')) := by
  refine callsIn_of_wp Tryd.func89 rfl trivial ?_ rfl
  simp only [Tryd.ntmps89, List.size_toArray, List.length_cons, List.length_nil, Nat.reduceAdd, Nat.reduceSub, Array.replicate_succ, Array.replicate_zero, List.push_toArray, List.append_toArray, List.nil_append, List.cons_append]
  have HY := Lib.hid hY
  have HJ := Lib.hid hJ
  have HB := Lib.hid hB
  replace hS := Lib.hid hS
  have hm : (l.length : Int) ≤ 140737488351232 := by omega
  clear hY hJ hB
  have hf54 : Fence.wide.fn 90 := trivial
  gi_wp2
  gi_loopw [4] (fun i wr => ∃ (k f : Nat) (pre : List (Fi × Int)), i = .int .i64 (k : Int) ∧ S = pre ++ seqL l ends f k ∧ l.length - k ≤ f ∧ J pre wr ∧ Below n₀ W wr ∧ Boxed wr Bb 48 (.slice a l.length cap) ∧ Boxed wr Ba 4 (.bool ends))
    (fun i _ => l.length - (intOf i).toNat)
  case atStart => exact ⟨2, l.length + 1, [], rfl, by rw [hS.out]; rfl, by omega, h0, Below.refl _ _, x0, x1⟩
  case round =>
    obtain ⟨k, f, pre, rfl, hSp, hf, hJp, hbw, y0, y1⟩ := hrel
    have c0 := y0.cell
    have c1 := y1.cell
    replace hbw := Lib.hid hbw
    by_cases hlt : k < l.length
    · have hlt' : (k : Int) < l.length := by omega
      obtain ⟨f', rfl, hst⟩ := seqL_step (ends := ends) hlt hf
      rw [hst] at hSp
      have EN := @filtV_end l k ends
      have FI := Lib.hid (filter_any (.slice a l.length cap) l k ends wr (HB.out.keep (hw0.trans hbw.out) h00) h256 hl (by omega))
      generalize filtV l k ends = r at *
      obtain ⟨⟨t, q⟩, m, e⟩ := r
      unfold FilP at FI
      simp only at FI EN hSp
      have hlen : pre.length < S.length := by rw [hSp]; simp
      replace hst := Lib.hid hst
      replace EN := Lib.hid EN
      replace hSp := Lib.hid hSp
      replace h256' := Lib.hid h256
      clear h256
      replace y0 := Lib.hid y0
      replace y1 := Lib.hid y1
      gi_wp2_with (gi_at_call 90; refine (callsIn_wide.2 FI.out).mono ?_; rintro e2 w2 ⟨rfl, b2⟩; have b3 := Lib.hid (b2.trans (Below.refl _ _)); have B3 := Lib.hid (((Below.refl _ _).trans b2).alloc b2.size (.cells #[.string t, .int .i64 q] 56)); clear b2; obtain ⟨fn, tmps, assign, body, hy, hR⟩ := HY.out _ ((⟨t, q⟩, e) : Fi × Int) _ (HJ.out _ _ _ hJp B3.out) hlen)
      refine hR.mono ?_
      have hnr : n₀ ≤ wr.heap.size := Nat.le_trans hnW hbw.out.size
      clear hR hy hJp
      rintro e3 W3 (⟨rfl, hJ3, hk3⟩ | ⟨rfl, hJx3⟩)
      · by_cases he : e = 0
        · subst he
          obtain ⟨hm1, hm2⟩ := EN.out rfl h256'.out
          have hS2 := hSp.out
          rw [if_neg (by simp), List.append_cons] at hS2
          replace hS2 := Lib.hid hS2
          have z0 : Boxed W3 Bb 48 (.slice a l.length cap) := (hk3.2.1.trans (B3.out.block _ y0.out.lt)).trans y0.out
          have z1 : Boxed W3 Ba 4 (.bool ends) := (hk3.2.2.trans (B3.out.block _ y1.out.lt)).trans y1.out
          have hb3 := Lib.hid (hbw.out.trans ((B3.out.mono hnr).trans hk3.1))
          replace z0 := Lib.hid z0
          replace z1 := Lib.hid z1
          replace hJ3 := Lib.hid hJ3
          clear hk3 c0 c1
          gi_wp2
          go_roundw
          case rel => exact ⟨m, f', _, rfl, hS2.out, by omega, hJ3.out, hb3.out, z0.out, z1.out⟩
          case measure => simp [intOf]; omega
        · have hd : (e != 0) = true := by simpa using he
          have hS2 := hSp.out
          rw [if_pos he] at hS2
          replace hS2 := Lib.hid hS2
          replace he := Lib.hid he
          replace hJ3 := Lib.hid hJ3
          clear hk3 c0 c1
          gi_wp2
          refine bodyPost_ret (results_none rfl _ _ _) rfl ?_
          exact ⟨⟨_, rfl⟩, .inl ⟨_, hS2.out.symm, hJ3.out⟩⟩
      · have hS2 := hSp.out
        rw [List.append_cons] at hS2
        replace hS2 := Lib.hid hS2
        replace hJx3 := Lib.hid hJx3
        clear c0 c1
        gi_wp2
        refine bodyPost_ret (results_none rfl _ _ _) rfl ?_
        exact ⟨⟨_, rfl⟩, .inr ⟨_, ⟨_, hS2.out⟩, hJx3.out⟩⟩
    · have hge : (l.length : Int) ≤ k := by omega
      rw [seqL_end (by omega), List.append_nil] at hSp
      replace hSp := Lib.hid hSp
      replace hJp := Lib.hid hJp
      gi_wp2
      go_end0
      exact ⟨⟨_, rfl⟩, .inl ⟨_, hSp.out.symm, hJp.out⟩⟩
theorem filters_stops (n : Nat) (hn : 1 ≤ n) (Bb Ba n₀ : Nat) (a : Option Addr) (cap : Nat) (l : List Nat) (ends : Bool) (h256 : ∀ x ∈ l, x < 256) (hl : l.length ≤ 140737488351232) (w0 w : World)
    (hB : BytesAt w0 (.slice a l.length cap) l) (h00 : w0.heap.size ≤ n₀) (hw0 : Below n₀ w0 w) (hnW : n₀ ≤ w.heap.size) (x0 : Boxed w Bb 48 (.slice a l.length cap)) (x1 : Boxed w Ba 4 (.bool ends)) :
    SeqStopsK Fence.wide n Tryd.prog 89 #[.pointer (some ⟨Bb, 0, none⟩), .pointer (some ⟨Ba, 0, none⟩)] encs (KpF n₀ Bb Ba) (fun ys => ys = seqL l ends (l.length + 1) 2) (fun pre => ∃ t, seqL l ends (l.length + 1) 2 = pre ++ t) (seqL l ends (l.length + 1) 2).length w :=
  fun l0 J Jx W hW hJ _ hY h0 =>
    filters1_in n hn l0 Bb Ba n₀ a cap l ends h256 hl _ rfl J Jx (fun pre W W' h hb => hJ pre W W' none h ⟨hb.os, hb.tape, hb.output, hb.size, fun k hk _ => hb.block k hk⟩ (fun r e => by cases e)) hY w0 W hB h00 (hw0.trans (hW.mono hnW)) (Nat.le_trans hnW hW.size) ((hW.block _ x0.lt).trans x0) ((hW.block _ x1.lt).trans x1) h0
end Go.Proofs.YtmpklaokgogigaaDoor
