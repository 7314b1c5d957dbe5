/-
  LAYER 15: the filters behind the number, handed one by one (an iterator's contract).
-/
import Derived.Test.YtkohlbafpljfjaaSl
import Derived.RangeFuncBox
import Derived.RangeFuncNested
import Derived.RangeFuncBound
import Derived.RangeFuncCalls
import Derived.RangeFuncLeaves
import Derived.Shelf.Abstract
import Derived.Shelf.RegionOpen
import Derived.OwnWalkIn
import Derived.TacticsInMore
import Derived.LoopNIn
import Derived.LoopIn
namespace Go.Proofs.Ytkohlbafpljfjaa
open Go.RowKit Go.Shelf

attribute [local go_sem] Oper.semAt_some

abbrev encs (x : Fi × Int) : Array Value := #[.agg #[.string x.1.t, .int .i64 x.1.q], .int .i64 x.2]
/-- What the body keeps, for the iterator. -/
def KpF (n₀ Bb Ba : Nat) (A B : World) : Prop := Below n₀ A B ∧ B.heap[Bb]? = A.heap[Bb]? ∧ B.heap[Ba]? = A.heap[Ba]?
theorem kpF_t {n₀ Bb Ba : Nat} {A B C : World} (h : KpF n₀ Bb Ba A B) (k : KpF n₀ Bb Ba B C) : KpF n₀ Bb Ba A C := ⟨h.1.trans k.1, k.2.1.trans h.2.1, k.2.2.trans h.2.2⟩
theorem kpF_b {n₀ Bb Ba : Nat} {w : World} (hn : n₀ ≤ w.heap.size) (hb : Bb < w.heap.size) (ha : Ba < w.heap.size) (W : World) (l : Nat) (o o' : Obj) (hl : w.heap.size ≤ l) (h : W.heap[l]? = some o) (h1 : o.isCells = false) (h2 : o.isWalk = false) : KpF n₀ Bb Ba W (W.putObj l o') :=
  ⟨belowK_b hn W l o o' hl h h1 h2, World.putObj_heap_other (by omega), World.putObj_heap_other (by omega)⟩

set_option maxRecDepth 100000 in
set_option maxHeartbeats 4000000 in
theorem filters1_in (n : Nat) (hn : 1 ≤ n) (l0 Bb Ba n₀ : Nat) (a : Option Addr) (cap : Nat) (l : List Nat) (ends : Bool) (h256 : ∀ x ∈ l, x < 256) (hl : l.length ≤ 140737488351232) (S : List (Fi × Int)) (hS : S = seqL l ends (l.length + 1) 2) (J Jx : List (Fi × Int) → World → Prop)
    (hJ : ∀ pre W W', J pre W → Below W.heap.size W W' → J pre W')
    (hY : ∀ pre x W, J pre W → pre.length < S.length → YieldAt Fence.wide (n - 1) Try.prog l0 (encs x) W fun e W' =>
      (e = .returned (.bool true) ∧ J (pre ++ [x]) W' ∧ KpF n₀ Bb Ba W W') ∨ (e = .returned (.bool false) ∧ Jx (pre ++ [x]) W'))
    (w0 W : World) (hB : BytesAt w0 (.slice a l.length cap) l) (h00 : w0.heap.size ≤ n₀) (hw0 : Below n₀ w0 W) (hnW : n₀ ≤ W.heap.size) (x0 : Boxed W Bb 23 (.slice a l.length cap)) (x1 : Boxed W Ba 4 (.bool ends)) (h0 : J [] W) :
    CallsIn Fence.wide n Try.prog 53 #[.func (.yield l0) #[] #[], .pointer (some ⟨Bb, 0, none⟩), .pointer (some ⟨Ba, 0, none⟩)] W fun e W' => (∃ v, e = .returned v) ∧
      ((∃ ys, ys = S ∧ J ys W') ∨ (∃ pre, (∃ t, S = pre ++ t) ∧ Jx pre W')) := by
  refine callsIn_of_wp Try.func53 rfl trivial ?_ rfl
  simp only [Try.ntmps53, List.size_toArray, List.length_cons, List.length_nil, Nat.reduceAdd, Nat.reduceSub, Array.replicate_succ, Array.replicate_zero, List.push_toArray, List.append_toArray, List.nil_append, List.cons_append]
  have HY := Lib.hid hY
  have HJ := Lib.hid hJ
  have HB := Lib.hid hB
  replace hS := Lib.hid hS
  have hm : (l.length : Int) ≤ 140737488351232 := by omega
  clear hY hJ hB
  have hf54 : Fence.wide.fn 54 := trivial
  gi_wp2
  gi_loopw [4] (fun i wr => ∃ (k f : Nat) (pre : List (Fi × Int)), i = .int .i64 (k : Int) ∧ S = pre ++ seqL l ends f k ∧ l.length - k ≤ f ∧ J pre wr ∧ Below n₀ W wr ∧ Boxed wr Bb 23 (.slice a l.length cap) ∧ Boxed wr Ba 4 (.bool ends))
    (fun i _ => l.length - (intOf i).toNat)
  case atStart => exact ⟨2, l.length + 1, [], rfl, by rw [hS.out]; rfl, by omega, h0, Below.refl _ _, x0, x1⟩
  case round =>
    obtain ⟨k, f, pre, rfl, hSp, hf, hJp, hbw, y0, y1⟩ := hrel
    have c0 := y0.cell
    have c1 := y1.cell
    replace hbw := Lib.hid hbw
    by_cases hlt : k < l.length
    · have hlt' : (k : Int) < l.length := by omega
      obtain ⟨f', rfl, hst⟩ := seqL_step (ends := ends) hlt hf
      rw [hst] at hSp
      have EN := @filtV_end l k ends
      have FI := Lib.hid (filter_any (.slice a l.length cap) l k ends wr (HB.out.keep (hw0.trans hbw.out) h00) h256 hl (by omega))
      generalize filtV l k ends = r at *
      obtain ⟨⟨t, q⟩, m, e⟩ := r
      unfold FilP at FI
      simp only at FI EN hSp
      have hlen : pre.length < S.length := by rw [hSp]; simp
      replace hst := Lib.hid hst
      replace EN := Lib.hid EN
      replace hSp := Lib.hid hSp
      replace h256' := Lib.hid h256
      clear h256
      replace y0 := Lib.hid y0
      replace y1 := Lib.hid y1
      gi_wp2_with (gi_at_call 54; refine (callsIn_wide.2 FI.out).mono ?_; rintro e2 w2 ⟨rfl, b2⟩; have b3 := Lib.hid (b2.trans (Below.refl _ _)); have B3 := Lib.hid (((Below.refl _ _).trans b2).alloc b2.size (.cells #[.string t, .int .i64 q] 47)); clear b2; obtain ⟨fn, tmps, assign, body, hy, hR⟩ := HY.out _ ((⟨t, q⟩, e) : Fi × Int) _ (HJ.out _ _ _ hJp B3.out) hlen)
      refine hR.mono ?_
      have hnr : n₀ ≤ wr.heap.size := Nat.le_trans hnW hbw.out.size
      clear hR hy hJp
      rintro e3 W3 (⟨rfl, hJ3, hk3⟩ | ⟨rfl, hJx3⟩)
      · by_cases he : e = 0
        · subst he
          obtain ⟨hm1, hm2⟩ := EN.out rfl h256'.out
          have hS2 := hSp.out
          rw [if_neg (by simp), List.append_cons] at hS2
          replace hS2 := Lib.hid hS2
          have z0 : Boxed W3 Bb 23 (.slice a l.length cap) := (hk3.2.1.trans (B3.out.block _ y0.out.lt)).trans y0.out
          have z1 : Boxed W3 Ba 4 (.bool ends) := (hk3.2.2.trans (B3.out.block _ y1.out.lt)).trans y1.out
          have hb3 := Lib.hid (hbw.out.trans ((B3.out.mono hnr).trans hk3.1))
          replace z0 := Lib.hid z0
          replace z1 := Lib.hid z1
          replace hJ3 := Lib.hid hJ3
          clear hk3 c0 c1
          gi_wp2
          go_roundw
          case rel => exact ⟨m, f', _, rfl, hS2.out, by omega, hJ3.out, hb3.out, z0.out, z1.out⟩
          case measure => simp [intOf]; omega
        · have hd : (e != 0) = true := by simpa using he
          have hS2 := hSp.out
          rw [if_pos he] at hS2
          replace hS2 := Lib.hid hS2
          replace he := Lib.hid he
          replace hJ3 := Lib.hid hJ3
          clear hk3 c0 c1
          gi_wp2
          refine bodyPost_ret (results_none rfl _ _ _) rfl ?_
          exact ⟨⟨_, rfl⟩, .inl ⟨_, hS2.out.symm, hJ3.out⟩⟩
      · have hS2 := hSp.out
        rw [List.append_cons] at hS2
        replace hS2 := Lib.hid hS2
        replace hJx3 := Lib.hid hJx3
        clear c0 c1
        gi_wp2
        refine bodyPost_ret (results_none rfl _ _ _) rfl ?_
        exact ⟨⟨_, rfl⟩, .inr ⟨_, ⟨_, hS2.out⟩, hJx3.out⟩⟩
    · have hge : (l.length : Int) ≤ k := by omega
      rw [seqL_end (by omega), List.append_nil] at hSp
      replace hSp := Lib.hid hSp
      replace hJp := Lib.hid hJp
      gi_wp2
      go_end0
      exact ⟨⟨_, rfl⟩, .inl ⟨_, hSp.out.symm, hJp.out⟩⟩
theorem filters_stops (n : Nat) (hn : 1 ≤ n) (Bb Ba n₀ : Nat) (a : Option Addr) (cap : Nat) (l : List Nat) (ends : Bool) (h256 : ∀ x ∈ l, x < 256) (hl : l.length ≤ 140737488351232) (w0 w : World)
    (hB : BytesAt w0 (.slice a l.length cap) l) (h00 : w0.heap.size ≤ n₀) (hw0 : Below n₀ w0 w) (hnW : n₀ ≤ w.heap.size) (x0 : Boxed w Bb 23 (.slice a l.length cap)) (x1 : Boxed w Ba 4 (.bool ends)) :
    SeqStopsK Fence.wide n Try.prog 53 #[.pointer (some ⟨Bb, 0, none⟩), .pointer (some ⟨Ba, 0, none⟩)] encs (KpF n₀ Bb Ba) (fun ys => ys = seqL l ends (l.length + 1) 2) (fun pre => ∃ t, seqL l ends (l.length + 1) 2 = pre ++ t) (seqL l ends (l.length + 1) 2).length w :=
  fun l0 J Jx W hW hJ _ hY h0 =>
    filters1_in n hn l0 Bb Ba n₀ a cap l ends h256 hl _ rfl J Jx (fun pre W W' h hb => hJ pre W W' none h ⟨hb.os, hb.tape, hb.output, hb.size, fun k hk _ => hb.block k hk⟩ (fun r e => by cases e)) hY w0 W hB h00 (hw0.trans (hW.mono hnW)) (Nat.le_trans hnW hW.size) ((hW.block _ x0.lt).trans x0) ((hW.block _ x1.lt).trans x1) h0
end Go.Proofs.Ytkohlbafpljfjaa
