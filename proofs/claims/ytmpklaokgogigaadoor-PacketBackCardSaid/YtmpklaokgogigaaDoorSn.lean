/-
  LAYER 15: the filter at a place, read by the program.
-/
import Derived.Test.YtmpklaokgogigaaDoorSk
import Derived.ControlIn
import Derived.Scope
import Derived.RangeFuncBox
import Derived.RangeFuncNested
import Derived.RangeFuncBound
import Derived.RangeFuncCalls
import Derived.RangeFuncLeaves
import Derived.Shelf.Abstract
import Derived.Shelf.RegionOpen
import Derived.OwnWalkIn
import Derived.TacticsInMore
import Derived.LoopNIn
import Derived.LoopIn
import Derived.Outline
import Derived.Maps.OwnIn
import Derived.Deep.QuietTactic
import Derived.BigQuiet
namespace Go.Proofs.YtmpklaokgogigaaDoor
set_option linter.unusedSimpArgs false
set_option linter.unusedVariables false
open Go.RowKit

def FilP (r : Fi × Nat × Int) (w : World) (e : Ending) (w' : World) : Prop :=
  e = .returned (.tuple #[.agg #[.string r.1.t, .int .i64 r.1.q], .int .i64 (r.2.1 : Nat), .int .i64 r.2.2]) ∧ Below w.heap.size w w'
theorem byte_at {w w' : World} {b o n c k : Nat} {l : List Nat} (h : BytesAt w (.slice (some ⟨b, o, none⟩) n c) l) (hk : k < l.length) (hb : Below w.heap.size w w') : w'.cell? ⟨b, o + k, none⟩ = some (.int .u8 ((l.getD k 0 : Nat) : Int)) := by
  obtain ⟨a, cap, hv, -, h⟩ := h
  simp only [Value.slice.injEq] at hv
  obtain ⟨rfl, -, -⟩ := hv
  rcases h with rfl | ⟨b', o', ha, hlt, hc⟩
  · simp at hk
  · simp only [Option.some.injEq, Addr.mk.injEq, and_true] at ha
    obtain ⟨rfl, rfl⟩ := ha
    rw [hb.cell (by simpa using hlt)]
    exact hc k hk
set_option maxHeartbeats 4000000 in
set_option maxRecDepth 100000 in
theorem filter_any (v : Value) (l : List Nat) (k : Nat) (ends : Bool) (w : World) (hb : BytesAt w v l) (h256 : ∀ x ∈ l, x < 256) (hl : l.length ≤ 140737488351232) (hk : k ≤ l.length) :
    Calls Tryd.prog 90 #[v, .int .i64 (k : Int), .bool ends] w (FilP (filtV l k ends) w) := by
  have hB := Lib.hid hb
  have G := Lib.hid (get_any v l k (w.alloc (.cells #[.string ⟨#[]⟩, .int .i64 0] 56)) (hb.keep (ext_alloc _ _) (Nat.le_refl _)) h256 (by omega) (by omega))
  have EN := @getV_end l k
  have hbyte : ∀ j, l.getD j 0 < 256 := fun j => by
    rw [List.getD_eq_getElem?_getD]
    cases e : l[j]? with
    | none => simp
    | some x => exact h256 x (List.mem_of_getElem? e)
  obtain ⟨a, cap, rfl, -, hcs⟩ := hb
  have row0 := heap_alloc_new w (.cells #[.string ⟨#[]⟩, .int .i64 0] 56)
  have b0 := Lib.hid (ext_alloc w (.cells #[.string ⟨#[]⟩, .int .i64 0] 56))
  have sz0 : w.heap.size < (w.alloc (.cells #[.string ⟨#[]⟩, .int .i64 0] 56)).heap.size := by simp
  have CELLS : ∀ w2 : World, Below (w.alloc (.cells #[.string ⟨#[]⟩, .int .i64 0] 56)).heap.size (w.alloc (.cells #[.string ⟨#[]⟩, .int .i64 0] 56)) w2 →
      w2.cell? ⟨w.heap.size, 0, none⟩ = some (.string ⟨#[]⟩) ∧ w2.cell? ⟨w.heap.size, 1, none⟩ = some (.int .i64 0) ∧ w2.frozen? ⟨w.heap.size, 0, none⟩ = false ∧ w2.frozen? ⟨w.heap.size, 1, none⟩ = false := by
    intro w2 b2
    have row2 := (b2.block _ sz0).trans row0
    have c0 := cell_of_row w2 w.heap.size 0 _ 56 (0, 0) row2
    have c1 := cell_of_row w2 w.heap.size 1 _ 56 (0, 0) row2
    exact ⟨by simpa using c0, by simpa using c1, frozen_of_row w2 w.heap.size 0 _ 56 row2, frozen_of_row w2 w.heap.size 1 _ 56 row2⟩
  replace CELLS := Lib.hid CELLS
  have hm : (l.length : Int) ≤ 140737488351232 := by omega
  unfold filtV
  generalize getV l k = r at *
  obtain ⟨S, y, x⟩ := r
  unfold GetPost at G
  simp only at G EN ⊢
  clear row0
  by_cases hx : x = 0
  · obtain ⟨m, rfl, hm1, hm2⟩ := EN hx h256
    subst hx
    rw [if_neg (by simp)]
    have hm3 : (m : Int) ≤ l.length := by omega
    cases ends
    · by_cases he : m = l.length
      · have eV : (if (false : Bool) = true then ((⟨S, 0⟩ : Fi), (m : Int).toNat, (0 : Int)) else if (m : Int).toNat = l.length then (noF, 0, 2) else if 2 < l.getD (m : Int).toNat 0 then (noF, 0, 5) else (⟨S, (l.getD (m : Int).toNat 0 : Nat)⟩, (m : Int).toNat + 1, 0)) = (noF, 0, 2) := by
          rw [if_neg (by simp), Int.toNat_natCast, if_pos he]
        rw [eV]
        have hd : ((m : Int) == (l.length : Int)) = true := by simp; omega
        clear eV EN hcs
        replace he := Lib.hid he
        replace h256 := Lib.hid h256
        replace hbyte := Lib.hid hbyte
        go_enter Tryd.func90, Tryd.ntmps90
        go_wp2_with fail
        refine G.out.mono ?_
        rintro e w2 ⟨rfl, b2⟩
        obtain ⟨c0, c1, f0, f1⟩ := CELLS.out _ b2
        have B2 := Lib.hid (ext_trans b0.out b2)
        clear b2
        go_wp2_with fail
        exact bodyPost_ret (v := .tuple #[.agg #[.string ⟨#[]⟩, .int .i64 0], .int .i64 0, .int .i64 2]) (by simp [results, Tryd.results90, go_sem, c0, c1]) rfl ⟨rfl, (B2.out.setCell (Nat.le_refl _) _).setCell (Nat.le_refl _) _⟩
      · have hlt : m < l.length := by omega
        have hlt' : (m : Int) < l.length := by omega
        have hd : ((m : Int) == (l.length : Int)) = false := by rw [beq_eq_false_iff_ne]; omega
        obtain ⟨b, o, rfl, hbl⟩ : ∃ b o, a = some ⟨b, o, none⟩ ∧ b < w.heap.size := by
          rcases hcs with rfl | ⟨b, o, rfl, hbl, -⟩
          · simp at hlt
          · exact ⟨b, o, rfl, hbl⟩
        have BY := Lib.hid fun w2 (h2 : Below w.heap.size w w2) => byte_at hB.out hlt h2
        have hc := hbyte m
        have eV : (if (false : Bool) = true then ((⟨S, 0⟩ : Fi), (m : Int).toNat, (0 : Int)) else if (m : Int).toNat = l.length then (noF, 0, 2) else if 2 < l.getD (m : Int).toNat 0 then (noF, 0, 5) else (⟨S, (l.getD (m : Int).toNat 0 : Nat)⟩, (m : Int).toNat + 1, 0)) = if 2 < l.getD m 0 then (noF, 0, 5) else (⟨S, (l.getD m 0 : Nat)⟩, m + 1, 0) := by
          rw [if_neg (by simp), Int.toNat_natCast, if_neg he]
        rw [eV]
        clear eV EN hcs
        replace he := Lib.hid he
        replace h256 := Lib.hid h256
        replace hbyte := Lib.hid hbyte
        generalize l.getD m 0 = c at *
        have hc' : (c : Int) < 256 := by omega
        by_cases h2 : 2 < c
        · rw [if_pos h2]
          have h2' : 2 < (c : Int) := by omega
          go_enter Tryd.func90, Tryd.ntmps90
          go_wp2_with fail
          refine G.out.mono ?_
          rintro e w2 ⟨rfl, b2⟩
          obtain ⟨c0, c1, f0, f1⟩ := CELLS.out _ b2
          have by0 := BY.out _ (ext_trans b0.out b2)
          have B2 := Lib.hid (ext_trans b0.out b2)
          clear b2
          go_wp2_with fail
          exact bodyPost_ret (v := .tuple #[.agg #[.string ⟨#[]⟩, .int .i64 0], .int .i64 0, .int .i64 5]) (by simp [results, Tryd.results90, go_sem, c0, c1]) rfl ⟨rfl, (B2.out.setCell (Nat.le_refl _) _).setCell (Nat.le_refl _) _⟩
        · rw [if_neg h2]
          have h2' : (c : Int) ≤ 2 := by omega
          go_enter Tryd.func90, Tryd.ntmps90
          go_wp2_with fail
          refine G.out.mono ?_
          rintro e w2 ⟨rfl, b2⟩
          obtain ⟨c0, c1, f0, f1⟩ := CELLS.out _ b2
          have by0 := BY.out _ (ext_trans b0.out b2)
          have B2 := Lib.hid (ext_trans b0.out b2)
          clear b2
          go_wp2_with fail
          exact bodyPost_ret (v := .tuple #[.agg #[.string S, .int .i64 (c : Int)], .int .i64 ((m : Int) + 1), .int .i64 0]) (by simp [results, Tryd.results90, go_sem, c0, c1]) rfl ⟨by simp, (B2.out.setCell (Nat.le_refl _) _).setCell (Nat.le_refl _) _⟩
    · rw [if_pos rfl]
      clear EN hcs
      replace h256 := Lib.hid h256
      replace hbyte := Lib.hid hbyte
      go_enter Tryd.func90, Tryd.ntmps90
      go_wp2_with fail
      refine G.out.mono ?_
      rintro e w2 ⟨rfl, b2⟩
      obtain ⟨c0, c1, f0, f1⟩ := CELLS.out _ b2
      have B2 := Lib.hid (ext_trans b0.out b2)
      clear b2
      go_wp2_with fail
      exact bodyPost_ret (v := .tuple #[.agg #[.string S, .int .i64 0], .int .i64 (m : Int), .int .i64 0]) (by simp [results, Tryd.results90, go_sem, c0, c1]) rfl ⟨by simp, (B2.out.setCell (Nat.le_refl _) _).setCell (Nat.le_refl _) _⟩
  · rw [if_pos hx]
    have hd : (x != 0) = true := by simpa using hx
    clear EN hcs
    replace hx := Lib.hid hx
    replace h256 := Lib.hid h256
    replace hbyte := Lib.hid hbyte
    go_enter Tryd.func90, Tryd.ntmps90
    go_wp2_with fail
    refine G.out.mono ?_
    rintro e w2 ⟨rfl, b2⟩
    obtain ⟨c0, c1, f0, f1⟩ := CELLS.out _ b2
    have B2 := Lib.hid (ext_trans b0.out b2)
    clear b2
    go_wp2_with fail
    exact bodyPost_ret (v := .tuple #[.agg #[.string ⟨#[]⟩, .int .i64 0], .int .i64 0, .int .i64 x]) (by simp [results, Tryd.results90, go_sem, c0, c1]) rfl ⟨rfl, (B2.out.setCell (Nat.le_refl _) _).setCell (Nat.le_refl _) _⟩
end Go.Proofs.YtmpklaokgogigaaDoor

/-
  A SCOPE WITHIN A FENCE, through which the run goes without a goto.
-/
namespace Go.Proofs.YtmpklaokgogigaaDoor
set_option linter.unusedSimpArgs false
set_option linter.unusedVariables false
open Go

section
variable {F : Fence} {n : Nat} {P : Program} {b : Frame} {a : Act} {k : List Item} {cs : List Frame} {w : World} {Q : Exit → Act → World → Prop}

theorem stepR_scope {c : Code} : step P (lone (b.atR a (.code (.scope c) :: k)) cs w) = .next (lone (b.atR a (.code c :: .inScope c :: k)) cs w) :=
  step_lone_go (by simp [stepG, stepG.exec, Frame.atR])
theorem stepR_inScope {c : Code} : step P (lone (b.atR a (.inScope c :: k)) cs w) = .next (lone (b.atR a k) cs w) :=
  step_lone_go (by simp [stepG, stepG.exec, Frame.atR])

theorem wpIn_scope_straight {c : Code} (h : c.wpIn F n P (Exit.noGoto Q) a w) : (Code.scope c).wpIn F n P Q a w := by
  intro b k cs hro hb hr
  have h0 : (lone (b.atR a (.code (.scope c) :: k)) cs w).fenced P F := fenced_calm hb hr rfl
  obtain ⟨e, a₁, w₁, hq, harr⟩ := h b (.inScope c :: k) cs hro hb hr
  cases e with
  | normal => exact ⟨.normal, a₁, w₁, hq, .head h0 stepR_scope (StepsIn.trans harr (.one (fenced_calm hb hr rfl) stepR_inScope))⟩
  | exit id =>
    have hx : exitTo id (.inScope c :: k) = exitTo id k := by simp [exitTo]
    exact ⟨.exit id, a₁, w₁, hq, fun k' hk => .head h0 stepR_scope (harr.1 k' (by rw [hx]; exact hk)),
      fun hr' hk => let ⟨k₁, h1, h2⟩ := harr.2 hr' (by rw [hx]; exact hk); ⟨k₁, h1, .head h0 stepR_scope h2⟩⟩
  | goto l => exact hq.elim
  | ret => exact ⟨_, a₁, w₁, hq, .of_steps (.one h0 stepR_scope) harr⟩
  | panic ch => exact ⟨_, a₁, w₁, hq, .of_steps (.one h0 stepR_scope) harr⟩
  | outgrown => exact ⟨_, a₁, w₁, hq, .of_steps (.one h0 stepR_scope) harr⟩
end
end Go.Proofs.YtmpklaokgogigaaDoor

/-
  LAYER 15: the filters behind the number, handed one by one (an iterator's contract).
-/
namespace Go.Proofs.YtmpklaokgogigaaDoor
set_option linter.unusedSimpArgs false
set_option linter.unusedVariables false
open Go.RowKit Go.Shelf

attribute [local go_sem] Oper.semAt_some

abbrev encs (x : Fi × Int) : Array Value := #[.agg #[.string x.1.t, .int .i64 x.1.q], .int .i64 x.2]
/-- What the body keeps, for the iterator. -/
def KpF (n₀ Bb Ba : Nat) (A B : World) : Prop := Below n₀ A B ∧ B.heap[Bb]? = A.heap[Bb]? ∧ B.heap[Ba]? = A.heap[Ba]?
theorem kpF_t {n₀ Bb Ba : Nat} {A B C : World} (h : KpF n₀ Bb Ba A B) (k : KpF n₀ Bb Ba B C) : KpF n₀ Bb Ba A C := ⟨h.1.trans k.1, k.2.1.trans h.2.1, k.2.2.trans h.2.2⟩
theorem kpF_b {n₀ Bb Ba : Nat} {w : World} (hn : n₀ ≤ w.heap.size) (hb : Bb < w.heap.size) (ha : Ba < w.heap.size) (W : World) (l : Nat) (o o' : Obj) (hl : w.heap.size ≤ l) (h : W.heap[l]? = some o) (h1 : o.isCells = false) (h2 : o.isWalk = false) : KpF n₀ Bb Ba W (W.putObj l o') :=
  ⟨belowK_b hn W l o o' hl h h1 h2, World.putObj_heap_other (by omega), World.putObj_heap_other (by omega)⟩

set_option maxRecDepth 100000 in
set_option maxHeartbeats 4000000 in
theorem filters1_in (n : Nat) (hn : 1 ≤ n) (l0 Bb Ba n₀ : Nat) (a : Option Addr) (cap : Nat) (l : List Nat) (ends : Bool) (h256 : ∀ x ∈ l, x < 256) (hl : l.length ≤ 140737488351232) (S : List (Fi × Int)) (hS : S = seqL l ends (l.length + 1) 2) (J Jx : List (Fi × Int) → World → Prop)
    (hJ : ∀ pre W W', J pre W → Below W.heap.size W W' → J pre W')
    (hY : ∀ pre x W, J pre W → pre.length < S.length → YieldAt Fence.wide (n - 1) Tryd.prog l0 (encs x) W fun e W' =>
      (e = .returned (.bool true) ∧ J (pre ++ [x]) W' ∧ KpF n₀ Bb Ba W W') ∨ (e = .returned (.bool false) ∧ Jx (pre ++ [x]) W'))
    (w0 W : World) (hB : BytesAt w0 (.slice a l.length cap) l) (h00 : w0.heap.size ≤ n₀) (hw0 : Below n₀ w0 W) (hnW : n₀ ≤ W.heap.size) (x0 : Boxed W Bb 48 (.slice a l.length cap)) (x1 : Boxed W Ba 4 (.bool ends)) (h0 : J [] W) :
    CallsIn Fence.wide n Tryd.prog 89 #[.func (.yield l0) #[] #[], .pointer (some ⟨Bb, 0, none⟩), .pointer (some ⟨Ba, 0, none⟩)] W fun e W' => (∃ v, e = .returned v) ∧
      ((∃ ys, ys = S ∧ J ys W') ∨ (∃ pre, (∃ t, S = pre ++ t) ∧ Jx pre W')) := by
  refine callsIn_of_wp Tryd.func89 rfl trivial ?_ rfl
  simp only [Tryd.ntmps89, List.size_toArray, List.length_cons, List.length_nil, Nat.reduceAdd, Nat.reduceSub, Array.replicate_succ, Array.replicate_zero, List.push_toArray, List.append_toArray, List.nil_append, List.cons_append]
  have HY := Lib.hid hY
  have HJ := Lib.hid hJ
  have HB := Lib.hid hB
  replace hS := Lib.hid hS
  have hm : (l.length : Int) ≤ 140737488351232 := by omega
  clear hY hJ hB
  have hf54 : Fence.wide.fn 90 := trivial
  gi_wp2
  gi_loopw [4] (fun i wr => ∃ (k f : Nat) (pre : List (Fi × Int)), i = .int .i64 (k : Int) ∧ S = pre ++ seqL l ends f k ∧ l.length - k ≤ f ∧ J pre wr ∧ Below n₀ W wr ∧ Boxed wr Bb 48 (.slice a l.length cap) ∧ Boxed wr Ba 4 (.bool ends))
    (fun i _ => l.length - (intOf i).toNat)
  case atStart => exact ⟨2, l.length + 1, [], rfl, by rw [hS.out]; rfl, by omega, h0, Below.refl _ _, x0, x1⟩
  case round =>
    obtain ⟨k, f, pre, rfl, hSp, hf, hJp, hbw, y0, y1⟩ := hrel
    have c0 := y0.cell
    have c1 := y1.cell
    replace hbw := Lib.hid hbw
    by_cases hlt : k < l.length
    · have hlt' : (k : Int) < l.length := by omega
      obtain ⟨f', rfl, hst⟩ := seqL_step (ends := ends) hlt hf
      rw [hst] at hSp
      have EN := @filtV_end l k ends
      have FI := Lib.hid (filter_any (.slice a l.length cap) l k ends wr (HB.out.keep (hw0.trans hbw.out) h00) h256 hl (by omega))
      generalize filtV l k ends = r at *
      obtain ⟨⟨t, q⟩, m, e⟩ := r
      unfold FilP at FI
      simp only at FI EN hSp
      have hlen : pre.length < S.length := by rw [hSp]; simp
      replace hst := Lib.hid hst
      replace EN := Lib.hid EN
      replace hSp := Lib.hid hSp
      replace h256' := Lib.hid h256
      clear h256
      replace y0 := Lib.hid y0
      replace y1 := Lib.hid y1
      gi_wp2_with (gi_at_call 90; refine (callsIn_wide.2 FI.out).mono ?_; rintro e2 w2 ⟨rfl, b2⟩; have b3 := Lib.hid (b2.trans (Below.refl _ _)); have B3 := Lib.hid (((Below.refl _ _).trans b2).alloc b2.size (.cells #[.string t, .int .i64 q] 56)); clear b2; obtain ⟨fn, tmps, assign, body, hy, hR⟩ := HY.out _ ((⟨t, q⟩, e) : Fi × Int) _ (HJ.out _ _ _ hJp B3.out) hlen)
      refine hR.mono ?_
      have hnr : n₀ ≤ wr.heap.size := Nat.le_trans hnW hbw.out.size
      clear hR hy hJp
      rintro e3 W3 (⟨rfl, hJ3, hk3⟩ | ⟨rfl, hJx3⟩)
      · by_cases he : e = 0
        · subst he
          obtain ⟨hm1, hm2⟩ := EN.out rfl h256'.out
          have hS2 := hSp.out
          rw [if_neg (by simp), List.append_cons] at hS2
          replace hS2 := Lib.hid hS2
          have z0 : Boxed W3 Bb 48 (.slice a l.length cap) := (hk3.2.1.trans (B3.out.block _ y0.out.lt)).trans y0.out
          have z1 : Boxed W3 Ba 4 (.bool ends) := (hk3.2.2.trans (B3.out.block _ y1.out.lt)).trans y1.out
          have hb3 := Lib.hid (hbw.out.trans ((B3.out.mono hnr).trans hk3.1))
          replace z0 := Lib.hid z0
          replace z1 := Lib.hid z1
          replace hJ3 := Lib.hid hJ3
          clear hk3 c0 c1
          gi_wp2
          go_roundw
          case rel => exact ⟨m, f', _, rfl, hS2.out, by omega, hJ3.out, hb3.out, z0.out, z1.out⟩
          case measure => simp [intOf]; omega
        · have hd : (e != 0) = true := by simpa using he
          have hS2 := hSp.out
          rw [if_pos he] at hS2
          replace hS2 := Lib.hid hS2
          replace he := Lib.hid he
          replace hJ3 := Lib.hid hJ3
          clear hk3 c0 c1
          gi_wp2
          refine bodyPost_ret (results_none rfl _ _ _) rfl ?_
          exact ⟨⟨_, rfl⟩, .inl ⟨_, hS2.out.symm, hJ3.out⟩⟩
      · have hS2 := hSp.out
        rw [List.append_cons] at hS2
        replace hS2 := Lib.hid hS2
        replace hJx3 := Lib.hid hJx3
        clear c0 c1
        gi_wp2
        refine bodyPost_ret (results_none rfl _ _ _) rfl ?_
        exact ⟨⟨_, rfl⟩, .inr ⟨_, ⟨_, hS2.out⟩, hJx3.out⟩⟩
    · have hge : (l.length : Int) ≤ k := by omega
      rw [seqL_end (by omega), List.append_nil] at hSp
      replace hSp := Lib.hid hSp
      replace hJp := Lib.hid hJp
      gi_wp2
      go_end0
      exact ⟨⟨_, rfl⟩, .inl ⟨_, hSp.out.symm, hJp.out⟩⟩
theorem filters_stops (n : Nat) (hn : 1 ≤ n) (Bb Ba n₀ : Nat) (a : Option Addr) (cap : Nat) (l : List Nat) (ends : Bool) (h256 : ∀ x ∈ l, x < 256) (hl : l.length ≤ 140737488351232) (w0 w : World)
    (hB : BytesAt w0 (.slice a l.length cap) l) (h00 : w0.heap.size ≤ n₀) (hw0 : Below n₀ w0 w) (hnW : n₀ ≤ w.heap.size) (x0 : Boxed w Bb 48 (.slice a l.length cap)) (x1 : Boxed w Ba 4 (.bool ends)) :
    SeqStopsK Fence.wide n Tryd.prog 89 #[.pointer (some ⟨Bb, 0, none⟩), .pointer (some ⟨Ba, 0, none⟩)] encs (KpF n₀ Bb Ba) (fun ys => ys = seqL l ends (l.length + 1) 2) (fun pre => ∃ t, seqL l ends (l.length + 1) 2 = pre ++ t) (seqL l ends (l.length + 1) 2).length w :=
  fun l0 J Jx W hW hJ _ hY h0 =>
    filters1_in n hn l0 Bb Ba n₀ a cap l ends h256 hl _ rfl J Jx (fun pre W W' h hb => hJ pre W W' none h ⟨hb.os, hb.tape, hb.output, hb.size, fun k hk _ => hb.block k hk⟩ (fun r e => by cases e)) hY w0 W hB h00 (hw0.trans (hW.mono hnW)) (Nat.le_trans hnW hW.size) ((hW.block _ x0.lt).trans x0) ((hW.block _ x1.lt).trans x1) h0
end Go.Proofs.YtmpklaokgogigaaDoor

/-
  LAYER 15: the program's Of.
-/
namespace Go.Proofs.YtmpklaokgogigaaDoor
set_option linter.unusedSimpArgs false
set_option linter.unusedVariables false
open Go.RowKit Go.Shelf

attribute [local go_sem] Oper.semAt_some



theorem boxed_keep {A B : World} {row : Option Nat} {b : Nat} {t : TypeId} {v : Value} (h : Boxed A b t v) (hg : A.grownBy B row) (hr : ∀ r, row = some r → ∃ o : Obj, A.heap[r]? = some o ∧ o.isCells = false) : Boxed B b t v :=
  boxed_own (β := Unit) b t (fun _ => v) (s := ()) A B row h hg hr
/-- What Of's own blocks hold between two rounds. -/
def OfI (B0 : Nat) (sv : Value) (ends : Bool) (w2 : World) (pre : List (Fi × Int)) (W : World) : Prop :=
  (∀ x ∈ pre, x.2 = 0) ∧ pre.length ≤ 8 ∧ Boxed W B0 34 (.int .i64 0) ∧ (∃ v, Boxed W (B0 + 1) 30 v ∧ W.ownsRow B0 56 2 v pre.length (fisC (pre.map Prod.fst)) ∧ True) ∧ Boxed W (B0 + 1 + 1) 48 sv ∧ Boxed W (B0 + 1 + 1 + 1) 4 (.bool ends) ∧ Below B0 w2 W
def OfX (B0 : Nat) (w2 : World) (c : Code) (pre : List (Fi × Int)) (W : World) : Prop :=
  ∃ ini x e, pre = ini ++ [x] ∧ c = .exit 0 ∧ (∀ y ∈ ini, y.2 = 0) ∧ ((ini.length = 8 ∧ e = 6) ∨ (ini.length < 8 ∧ x.2 ≠ 0 ∧ e = x.2)) ∧ Boxed W B0 34 (.int .i64 e) ∧ Below B0 w2 W
theorem ofI_own {B0 : Nat} {sv : Value} {ends : Bool} {w2 : World} (B : Nat) (h0 : B0 ≤ w2.heap.size) (hB : B0 ≤ B) : OwnFrom B (OfI B0 sv ends w2) := by
  rintro s A C row ⟨h1, h2, h3, ⟨v, hv, hr, -⟩, h5, h6, h7⟩ hg hrow
  have hrow' : ∀ r, row = some r → ∃ o : Obj, A.heap[r]? = some o ∧ o.isCells = false := fun r e => (hrow r e).2
  exact ⟨h1, h2, boxed_keep h3 hg hrow', holdsRow_own (β := Unit) B0 (B0 + 1) 30 56 2 (fun _ => s.length) (fun _ => fisC (s.map Prod.fst)) (fun _ _ => True) () A C row ⟨v, hv, hr, trivial⟩ hg hrow', boxed_keep h5 hg hrow', boxed_keep h6 hg hrow',
    h7.grown hg (Nat.le_trans h0 h7.size) (fun k e => Nat.le_trans hB (hrow k e).1)⟩
theorem ofX_own {B0 : Nat} {w2 : World} {c : Code} (B : Nat) (h0 : B0 ≤ w2.heap.size) (hB : B0 ≤ B) : OwnFrom B (OfX B0 w2 c) := by
  rintro s A C row ⟨ini, x, e, h1, h2, h3, h4, h5, h6⟩ hg hrow
  exact ⟨ini, x, e, h1, h2, h3, h4, boxed_keep h5 hg (fun r e => (hrow r e).2), h6.grown hg (Nat.le_trans h0 h6.size) (fun k e => Nat.le_trans hB (hrow k e).1)⟩
/-- Where the round's own variable lies. -/
def AxF {α : Type} (c : Nat) (A1 : Nat → α → Act) (cs : α → Array Value) (t : TypeId) (x : α) (a' : Act) (W : World) : Prop := ∃ b : Nat, c < b ∧ a' = A1 b x ∧ W.heap[b]? = some (.cells (cs x) t (0, 0))
theorem axF_own {α : Type} (c : Nat) (A1 : Nat → α → Act) (cs : α → Array Value) (t : TypeId) (B : Nat) (x : α) (a' : Act) : OwnFrom B (fun (_ : Unit) W => AxF c A1 cs t x a' W) :=
  fun _ _ _ _ ⟨b, hb, h1, h2⟩ hg hrow => ⟨b, hb, h1, (hg.block b (Array.getElem?_eq_some_iff.1 h2).1 (fun e => by obtain ⟨-, o, ho, hc⟩ := hrow b e.symm; rw [h2] at ho; cases ho; cases hc)).trans h2⟩
def cellsX (x : Fi × Int) : Array Value := #[.string x.1.t, .int .i64 x.1.q]
theorem boxes4 (w : World) (v0 v1 v2 v3 : Value) (t0 t1 t2 t3 : TypeId) (W : World) (hW : W = (((w.alloc (.cells #[v0] t0)).alloc (.cells #[v1] t1)).alloc (.cells #[v2] t2)).alloc (.cells #[v3] t3)) :
    Boxed W w.heap.size t0 v0 ∧ Boxed W (w.heap.size + 1) t1 v1 ∧ Boxed W (w.heap.size + 1 + 1) t2 v2 ∧ Boxed W (w.heap.size + 1 + 1 + 1) t3 v3 ∧ W.heap.size = w.heap.size + 4 ∧ Below w.heap.size w W := by
  have e1 : ∀ (u : World) (o : Obj), (u.alloc o).heap.size = u.heap.size + 1 := fun u o => by simp
  refine ⟨?_, ?_, ?_, ?_, ?_, ?_⟩
  · subst hW; exact (((Boxed.new w t0 v0).alloc _).alloc _).alloc _
  · subst hW; have := Boxed.new (w.alloc (.cells #[v0] t0)) t1 v1; simp only [e1] at this; exact (this.alloc _).alloc _
  · subst hW; have := Boxed.new ((w.alloc (.cells #[v0] t0)).alloc (.cells #[v1] t1)) t2 v2; simp only [e1] at this; exact this.alloc _
  · subst hW; have := Boxed.new (((w.alloc (.cells #[v0] t0)).alloc (.cells #[v1] t1)).alloc (.cells #[v2] t2)) t3 v3; simp only [e1] at this; exact this
  · subst hW; simp only [e1]
  · subst hW; exact ((((Below.refl _ _).alloc (by simp) _).alloc (by simp only [e1]; omega) _).alloc (by simp only [e1]; omega) _).alloc (by simp only [e1]; omega) _
theorem ofnew_in (n : Nat) (a : Option Addr) (len cap : Nat) (ends : Bool) (w : World) :
    CallsIn Fence.wide n Tryd.prog 66 #[.slice a len cap, .bool ends] w fun e w' => e = .returned (.func (.func 89) #[] #[.pointer (some ⟨w.heap.size, 0, none⟩), .pointer (some ⟨w.heap.size + 1, 0, none⟩)]) ∧ w' = (w.alloc (.cells #[.slice a len cap] 48)).alloc (.cells #[.bool ends] 4) := by
  refine callsIn_of_wp Tryd.func66 rfl trivial ?_ rfl
  simp only [Tryd.ntmps66, List.size_toArray, List.length_cons, List.length_nil, Nat.reduceAdd, Nat.reduceSub, Array.replicate_succ, Array.replicate_zero, List.push_toArray, List.append_toArray, List.nil_append, List.cons_append]
  gi_wp2
  go_ret
  exact ⟨rfl, rfl⟩

theorem heap_drewN (W : World) (n : Nat) : (W.drewN n).heap = W.heap := by
  simp
theorem own_drewN {w : World} {B e size n : Nat} {v : Value} {xs : List Value} (h : w.ownsRow B e size v n xs) (k : Nat) : (w.drewN k).ownsRow B e size v n xs := by
  unfold World.ownsRow at *
  rw [heap_drewN]; exact h
theorem keep_drewN {W : World} {D : Nat} {o : Obj} (h : W.heap[D]? = some o) (n : Nat) : (W.drewN n).heap[D]? = some o := by
  rw [heap_drewN]; exact h
theorem below_put {B : Nat} {w X : World} {D : Nat} {o o' : Obj} (h : Below B w X) (hD : B ≤ D) (hX : X.heap[D]? = some o) (h1 : o.isCells = false) : Below B w (X.putObj D o') :=
  h.trans ⟨rfl, rfl, rfl, by simp, fun k hk => World.putObj_heap_other (by omega)⟩
theorem finish12 {n D : Nat} {R : Ending → World → Prop} {X : World} {tmps : Array Value} {i e : Int} {v : Value} (hK : X.heap[D]? = some (.deferred (some [])))
    (hR : R (.returned (.tuple #[.int .i64 i, v, .int .i64 e])) (X.putObj D (.deferred none)))
    (h4 : tmps.getD 4 undef = .int .i64 i := by rfl) (h5 : tmps.getD 5 undef = v := by rfl) (h6 : tmps.getD 6 undef = .int .i64 e := by rfl) :
    bodyPostM Fence.wide n Tryd.prog Tryd.f35 R .ret { tmps := tmps, defers := [{ target := .collected D, args := #[] }] } X := by
  refine ⟨by simp, .inl ⟨_, _, rfl, run_takeDeferred hK, ?_⟩⟩
  refine ⟨.tuple #[.int .i64 i, v, .int .i64 e], ?_, hR⟩
  simp only [Array.getD_eq_getD_getElem?] at h4 h5 h6
  simp [results, Tryd.results35, go_sem, h4, h5, h6]
theorem ofW_done {l : List Nat} {ends : Bool} (h : ∀ x ∈ seqL l ends (l.length + 1) 2, x.2 = 0) (h8 : (seqL l ends (l.length + 1) 2).length ≤ 8) :
    ofW l ends = if (seqL l ends (l.length + 1) 2).map Prod.fst = [] then ([], 4) else ((seqL l ends (l.length + 1) 2).map Prod.fst, 0) := by
  unfold ofW; rw [seqR_done _ _ _ h h8]; simp

set_option maxHeartbeats 4000000 in
set_option maxRecDepth 100000 in
theorem of12_in (n : Nat) (hn : 3 ≤ n) (s : ByteArray) (ends : Bool) (w : World) (hs : s.size ≤ 140737488351232) (hnum : (numV (txtL s)).2 = 0) : CallsIn Fence.wide n Tryd.prog 35 #[.string s, .bool ends] w (OfP (ofV (txtL s) ends) w) := by
  obtain ⟨v, w1, hconv, a1, b1⟩ := bytes_of s w
  have hl := txtL_length s
  have h256 := txt_lt s
  generalize txtL s = l at *
  have hl' : l.length ≤ 140737488351232 := by omega
  replace hl := Lib.hid hl
  have NB := number_any v l w1 a1 h256 (by omega)
  unfold Num2 at NB
  rw [hnum] at NB
  replace NB := Lib.hid NB
  have A1 := Lib.hid a1
  obtain ⟨a, cap, rfl, -, -⟩ := a1
  replace b1 := Lib.hid b1
  have eV : ofV l ends = if (ofW l ends).2 ≠ 0 then (0, [], (ofW l ends).2) else ((numV l).1, (ofW l ends).1, 0) := by unfold ofV; rw [if_neg (by simpa using hnum)]
  generalize (numV l).1 = id at *
  generalize ofV l ends = V at *
  replace eV := Lib.hid eV
  replace hnum := Lib.hid hnum
  replace h256 := Lib.hid h256
  have hf28 : Fence.wide.fn 28 := trivial
  have hf29 : Fence.wide.fn 29 := trivial
  have h1 : 1 ≤ n := by omega
  refine callsIn_of_wp_marks Tryd.func35 rfl trivial ?_ rfl
  simp only [Tryd.ntmps35, List.size_toArray, List.length_cons, List.length_nil, Nat.reduceAdd, Nat.reduceSub, Array.replicate_succ, Array.replicate_zero, List.push_toArray, List.append_toArray, List.nil_append, List.cons_append]
  gi_wp2
  refine wpIn_scope_straight ?_
  refine wpIn_wide.2 ?_
  go_wp2_with (first | (go_at_call 65; refine NB.out.mono ?_; rintro e2 w2 ⟨rfl, b2⟩; replace b2 := Lib.hid b2) | (go_at_call 66; refine (callsIn_wide.1 (ofnew_in n _ _ _ _ _)).mono ?_; rintro e w' ⟨rfl, rfl⟩))
  refine wp_label ?_
  go_wp2_with (first | (go_at_call 66; refine (callsIn_wide.1 (ofnew_in n _ _ _ _ _)).mono ?_; rintro e w' ⟨rfl, rfl⟩))
  rename_i K hK
  refine (wpIn_wide (n := n)).1 ?_
  have HK := Lib.hid hK
  clear hK
  generalize hW0 : ((((w2.alloc _).alloc _).alloc _).alloc _) = W0
  obtain ⟨x0, x1, x2, x3, hsz, hB0⟩ := boxes4 w2 _ _ _ _ _ _ _ _ W0 hW0.symm
  clear hW0
  have A2 := Lib.hid (A1.out.keep b2.out (Nat.le_refl _))
  refine wpIn_rangeFunc_ownH rfl h1 (gf := 89) (lb := #[.pointer (some ⟨w2.heap.size + 1 + 1, 0, none⟩), .pointer (some ⟨w2.heap.size + 1 + 1 + 1, 0, none⟩)]) rfl trivial (enters_of Tryd.func89 (by kernel_rfl) rfl)
    (filters_stops (n - 1) (by omega) (w2.heap.size + 1 + 1) (w2.heap.size + 1 + 1 + 1) w2.heap.size a cap l ends h256.out hl' w2 W0 A2.out (Nat.le_refl _) hB0 (by omega) x2 x3)
    kpF_t (kpF_b (by omega) (by omega) (by omega)) (Below.refl _ _) (fun _ => rfl)
    (OfI w2.heap.size (.slice a l.length cap) ends w2) (OfX w2.heap.size w2)
    (ofI_own _ (Nat.le_refl _) (by omega)) (fun c => ofX_own _ (Nat.le_refl _) (by omega))
    ⟨by simp, by simp, x0, ⟨_, x1, World.ownsRow_nil _ _ _ _, trivial⟩, x2, x3, hB0⟩
    (AxF (w2.heap.size + 1 + 1 + 1) ?a1 cellsX 56) (fun x a' => axF_own _ _ _ _ _ x a')
    ?assign ?body ?done ?stop
  case assign =>
    rintro l0 pre x W K ⟨g1, g2, g3, ⟨v, hv, hr, -⟩, g5, g6, g7⟩ hK
    gi_wp2
    have hl7 : w2.heap.size ≤ W.heap.size := g7.size
    have hB3 : w2.heap.size + 1 + 1 + 1 < W.heap.size := g6.lt
    have hB2 : w2.heap.size + 1 + 1 < W.heap.size := g5.lt
    have hI : OfI w2.heap.size (.slice a l.length cap) ends w2 pre W := ⟨g1, g2, g3, ⟨v, hv, hr, trivial⟩, g5, g6, g7⟩
    refine hK _ _ ((KeepsOthers.alloc _ _).from _) ⟨(Below.refl _ _).alloc hl7 _, Below.heap_alloc _ _ _ hB2, Below.heap_alloc _ _ _ hB3⟩ (OwnFrom.alloc (ofI_own w2.heap.size (Nat.le_refl _) (Nat.le_refl _)) _ hI) ⟨W.heap.size, hB3, ?_, World.alloc_heap_new W _⟩
    generalize W.heap.size = b
    rfl
  case body =>
    rintro l0 pre ⟨⟨t, q⟩, e⟩ a' W hl0 hlr ⟨g1, g2, g3, ⟨v, hv, hr, -⟩, g5, g6, g7⟩ ⟨b, hb, rfl, hxb⟩ hlen
    have g7' := Lib.hid g7
    have hl7 : w2.heap.size ≤ W.heap.size := g7.size
    have c1 := hv.cell
    have f1 := hv.frozen
    have c0 := g3.cell
    have f0 := g3.frozen
    obtain ⟨va, vc, rfl⟩ := own_slice hr
    replace g1 := Lib.hid g1
    replace g3 := Lib.hid g3
    replace hv := Lib.hid hv
    replace hr := Lib.hid hr
    replace g5 := Lib.hid g5
    replace g6 := Lib.hid g6
    clear g7 hlr hlen
    by_cases h8 : pre.length = 8
    · have hd : ((pre.length : Int) == 8) = true := by simp; omega
      replace h8 := Lib.hid h8
      replace hxb := Lib.hid hxb
      gi_wp2
      exact ⟨(KeepsOthers.setCell _ _ _).from _, pre, _, 6, rfl, rfl, g1.out, .inl ⟨h8.out, rfl⟩, g3.out.set _, g7'.out.setCell (by simp) _⟩
    · have hd : ((pre.length : Int) == 8) = false := by rw [beq_eq_false_iff_ne]; omega
      have hlt : pre.length < 8 := by omega
      replace h8 := Lib.hid h8
      by_cases he : e = 0
      · subst he
        have d0 := cell_of_row W b 0 _ 56 (0, 0) hxb
        have d1 := cell_of_row W b 1 _ 56 (0, 0) hxb
        simp [cellsX] at d0 d1
        replace hxb := Lib.hid hxb
        obtain ⟨i0, hi, hz0, hz1, hz2⟩ := info_parts info47
        replace hi := Lib.hid hi
        replace hz0 := Lib.hid hz0
        replace hz1 := Lib.hid hz1
        replace hz2 := Lib.hid hz2
        gi_wp2_with (gi_at_builtin; (refine wpListIn_append_own_at _ rfl (.tmp 36) (.tmp 38) 30 rfl w2.heap.size 56 i0 _ 2 24 Tryd.underlying30 hi.out hz0.out hz1.out hz2.out rfl (by decide) (.slice va pre.length vc) pre.length _ rfl (hr.out.alloc _) ⟨W.heap.size, 0, none⟩ 1 1 [.string t, .int .i64 q] rfl rfl (cell_two_new _ _ _ _) (by intro u hu; simp at hu; rcases hu with rfl | rfl <;> rfl) (by unfold maxLen; omega) (by omega) (by simp; omega) ?_); intro v4 w4 o4 gr4 n4 nb4; clear n4 nb4; obtain ⟨q1, q2, q3, q4, q5⟩ := Boxed.appended hv.out (by decide) hr.out hl7 (by omega) o4 gr4; obtain ⟨vg, vc4, rfl⟩ := ownsRow_succ o4; have c4 := q1.cell; have f4 := q1.frozen; replace q2 := Lib.hid q2; replace q3 := Lib.hid q3; replace q4 := Lib.hid q4; replace q5 := Lib.hid q5; have GR := Lib.hid gr4; replace o4 := Lib.hid o4; clear gr4 q1 c0 c1 f0 f1 d0 d1)
        have hlen : (pre ++ [((⟨t, q⟩, 0) : Fi × Int)]).length = pre.length + 1 := by simp
        have hkeep : ∀ k, k < W.heap.size → (∀ tt u, Boxed W k tt u → tt ≠ 56 → k ≠ w2.heap.size + 1 → Boxed (w4.setCell ⟨w2.heap.size + 1, 0, none⟩ (.slice (some ⟨vg, 0, none⟩) (pre.length + 1) vc4)) k tt u) := by
          intro k hk tt u hb1 ht hne
          exact ((hb1.alloc (.cells #[.string t, .int .i64 q] 56)).kept GR.out (hb1.not_row ht hr.out)).other hne _
        refine ⟨q4.out.from _, ⟨q5.out, ?_, ?_⟩, ?_, ?_, ?_, ?_, ?_, ?_, ?_⟩
        · exact (show _ = _ from hkeep _ g5.out.lt _ _ g5.out (by decide) (by omega)).trans (show _ = _ from g5.out).symm
        · exact (show _ = _ from hkeep _ g6.out.lt _ _ g6.out (by decide) (by omega)).trans (show _ = _ from g6.out).symm
        · intro x hx
          rcases List.mem_append.1 hx with hx | hx
          · exact g1.out x hx
          · rw [List.mem_singleton.1 hx]
        · rw [hlen]; omega
        · exact hkeep _ g3.out.lt _ _ g3.out (by decide) (by omega)
        · refine ⟨_, q2.out, ?_, trivial⟩
          rw [hlen, List.map_append]
          simpa [fisC, Fi.cells] using q3.out
        · exact hkeep _ g5.out.lt _ _ g5.out (by decide) (by omega)
        · exact hkeep _ g6.out.lt _ _ g6.out (by decide) (by omega)
        · exact g7'.out.trans q5.out
      · have hd2 : (e != 0) = true := by simpa using he
        replace he := Lib.hid he
        replace hxb := Lib.hid hxb
        gi_wp2
        exact ⟨(KeepsOthers.setCell _ _ _).from _, pre, _, e, rfl, rfl, g1.out, .inr ⟨hlt, he.out, rfl⟩, g3.out.set _, g7'.out.setCell (by simp) _⟩
  case done =>
    rintro D ys W hD rfl ⟨g1, g2, g3, ⟨v, hv, hr, -⟩, g5, g6, g7⟩ hKD
    have eW := ofW_done g1 g2
    have B7 := Lib.hid (ext_trans b1.out (ext_trans b2.out g7))
    have hl7 : w2.heap.size ≤ W.heap.size := g7.size
    have hwD : w.heap.size ≤ D := by have := b1.out.size; have := b2.out.size; omega
    have hw2 : w.heap.size ≤ w2.heap.size := by have := b1.out.size; have := b2.out.size; omega
    have c1 := hv.cell
    have f1 := hv.frozen
    have c0 := g3.cell
    have f0 := g3.frozen
    obtain ⟨va, vc, rfl⟩ := own_slice hr
    have hF : FisAt W (.slice va (seqL l ends (l.length + 1) 2).length vc) ((seqL l ends (l.length + 1) 2).map Prod.fst) := FisAt.of_own (by rw [List.length_map]; exact hr) (by rw [List.length_map]; omega)
    have hFp : FisAt (W.putObj D (.deferred none)) (.slice va (seqL l ends (l.length + 1) 2).length vc) ((seqL l ends (l.length + 1) 2).map Prod.fst) :=
      FisAt.of_own (by rw [List.length_map]; exact ownsRow_putObj hr _ hKD rfl) (by rw [List.length_map]; omega)
    have eV' := eV.out
    rw [eW] at eV'
    replace g1 := Lib.hid g1
    generalize seqL l ends (l.length + 1) 2 = Sq at *
    clear eW hF
    have HKD := Lib.hid hKD
    replace hr := Lib.hid hr
    replace g3 := Lib.hid g3
    replace hFp := Lib.hid hFp
    clear g5 g6 hv hKD
    refine HK.out _ _ ?_
    by_cases h0 : Sq = []
    · subst h0
      rw [List.map_nil, if_pos rfl, if_pos (by decide)] at eV'
      replace eV' := Lib.hid eV'
      go_wp2
      go_quiet (fail)
      go_wp2
      have hX := keep_drewN ((KeepsOthers.setCell W ⟨w2.heap.size, 0, none⟩ (.int .i64 4)).same D _ HKD.out rfl) nq
      refine finish12 (v := .slice none 0 0) hX ⟨_, by rw [eV'.out], by rw [eV'.out]; exact ⟨fis_nil _, fresh_nil _⟩, below_put (below_drewN (B7.out.setCell (by simp; omega) _) nq) (by omega) hX rfl⟩
    · have hn : Sq.map Prod.fst ≠ [] := by simpa using h0
      rw [if_neg hn, if_neg (by simp)] at eV'
      have hpos : 0 < Sq.length := List.length_pos_iff.2 h0
      have hd : ((Sq.length : Int) == 0) = false := by rw [beq_eq_false_iff_ne]; omega
      replace eV' := Lib.hid eV'
      replace h0 := Lib.hid h0
      replace hn := Lib.hid hn
      go_wp2
      go_quiet (fail)
      go_wp2
      have hX := keep_drewN HKD.out nq
      refine finish12 (v := .slice va Sq.length vc) hX ⟨_, by rw [eV'.out], ?_, below_put (below_drewN B7.out nq) (by omega) hX rfl⟩
      rw [eV'.out]
      exact ⟨FisAt.of_own (by rw [List.length_map]; exact ownsRow_putObj (own_drewN hr.out nq) _ hX rfl) (by rw [List.length_map]; omega), fresh_own hr.out (by have := b1.out.size; have := b2.out.size; omega)⟩
  case stop =>
    rintro D c pre W hD ⟨tl, hS⟩ ⟨ini, x, e, rfl, rfl, h3, h4, h5, h6⟩ hKD
    have eW : ofW l ends = ([], e) := by
      unfold ofW
      rw [hS, List.append_assoc, List.singleton_append]
      rcases h4 with ⟨ha, rfl⟩ | ⟨ha, hb, rfl⟩
      · exact seqR_full ini x tl 8 [] h3 ha
      · exact seqR_err ini x tl 8 [] h3 ha hb
    have he : e ≠ 0 := by
      rcases h4 with ⟨ha, rfl⟩ | ⟨ha, hb, rfl⟩
      · decide
      · exact hb
    have eV' := eV.out
    rw [eW, if_pos he] at eV'
    have hd : (e == 0) = false := by simpa using he
    have hd2 : (e != 0) = true := by simpa using he
    have hwD : w.heap.size ≤ D := by have := b1.out.size; have := b2.out.size; omega
    have hw2 : w.heap.size ≤ w2.heap.size := by have := b1.out.size; have := b2.out.size; omega
    have B7 := Lib.hid (ext_trans b1.out (ext_trans b2.out h6))
    have c0 := h5.cell
    have f0 := h5.frozen
    have HKD := Lib.hid hKD
    replace eV' := Lib.hid eV'
    replace he := Lib.hid he
    replace hS := Lib.hid hS
    clear h3 h4 h5 h6 eW hKD
    gi_wp2
    refine HK.out _ _ ?_
    go_wp2
    go_quiet (fail)
    go_wp2
    have hX := keep_drewN HKD.out nq
    refine finish12 (v := .slice none 0 0) hX ⟨_, by rw [eV'.out], by rw [eV'.out]; exact ⟨fis_nil _, fresh_nil _⟩, below_put (below_drewN B7.out nq) hwD hX rfl⟩
set_option maxHeartbeats 1000000 in
set_option maxRecDepth 100000 in
theorem of12_any (s : ByteArray) (ends : Bool) (w : World) (hs : s.size ≤ 140737488351232) : Calls Tryd.prog 35 #[.string s, .bool ends] w (OfP (ofV (txtL s) ends) w) := by
  by_cases hn : (numV (txtL s)).2 = 0
  · exact callsIn_wide.1 (of12_in 3 (Nat.le_refl _) s ends w hs hn)
  · have eV : ofV (txtL s) ends = (0, [], (numV (txtL s)).2) := by unfold ofV; rw [if_pos hn]
    rw [eV]
    obtain ⟨v, w1, hconv, a1, b1⟩ := bytes_of s w
    have NB := Lib.hid (number_any v (txtL s) w1 a1 (txt_lt s) (by rw [txtL_length]; omega))
    obtain ⟨a, cap, rfl, -, -⟩ := a1
    rw [txtL_length] at hconv NB
    replace b1 := Lib.hid b1
    unfold Num2 at NB
    have hd2 : ((numV (txtL s)).2 != 0) = true := by simpa using hn
    generalize (numV (txtL s)).2 = E at *
    generalize (numV (txtL s)).1 = id at *
    replace eV := Lib.hid eV
    replace hn := Lib.hid hn
    go_enter Tryd.func35, Tryd.ntmps35
    go_wp2
    refine wp_scope_straight ?_
    go_wp2_with fail
    refine NB.out.mono ?_
    rintro e w2 ⟨rfl, b2⟩
    have B2 := Lib.hid (ext_trans b1.out b2)
    replace b2 := Lib.hid b2
    go_wp2_with fail
    go_quiet (fail)
    go_wp2
    simp +zetaDelta only [Exit.noGoto]
    go_ret3
    exact ⟨_, rfl, ⟨fis_nil _, fresh_nil _⟩, below_drewN (B2.out.alloc (by have := b1.out.size; have := b2.out.size; omega) _) nq⟩
end Go.Proofs.YtmpklaokgogigaaDoor
