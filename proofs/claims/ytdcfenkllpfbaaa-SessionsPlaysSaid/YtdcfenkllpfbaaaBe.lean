/-
  LAYER 28: the places that are taken, handed one by one (an iterator's contract).
-/
import Derived.Test.YtdcfenkllpfbaaaBd
import Derived.RangeFuncBox
import Derived.RangeFuncNested
import Derived.RangeFuncBound
import Derived.RangeFuncCalls
import Derived.RangeFuncLeaves
import Derived.Shelf.Abstract
import Derived.Shelf.RegionOpen
import Derived.OwnWalkIn
import Derived.TacticsInMore
import Derived.LoopNIn
import Derived.LoopIn
namespace Go.Proofs.Ytdcfenkllpfbaaa.Sns
set_option linter.unusedVariables false
set_option linter.unusedSimpArgs false
open Go.Proofs.Ytdcfenkllpfbaaa
open Go.RowKit Go.Shelf Que
attribute [local go_sem] Oper.semAt_some
/-- Who is taken, with the slots, rising. -/
def tkS : List (Option Nat) → Nat → List (Nat × Nat)
  | [], _ => []
  | none :: P, n => tkS P (n + 1)
  | some s :: P, n => (n, s) :: tkS P (n + 1)
theorem tkS_none {P : List (Option Nat)} {i : Nat} (h : P[i]? = some none) : tkS (P.drop i) i = tkS (P.drop (i + 1)) (i + 1) := by
  have hl := (List.getElem?_eq_some_iff.1 h).1
  rw [List.drop_eq_getElem_cons hl, (List.getElem?_eq_some_iff.1 h).2, tkS]
theorem tkS_some {P : List (Option Nat)} {i s : Nat} (h : P[i]? = some (some s)) : tkS (P.drop i) i = (i, s) :: tkS (P.drop (i + 1)) (i + 1) := by
  have hl := (List.getElem?_eq_some_iff.1 h).1
  rw [List.drop_eq_getElem_cons hl, (List.getElem?_eq_some_iff.1 h).2, tkS]
abbrev encs (x : Nat × Nat) : Array Value := #[.int .i64 (x.1 : Int), .pointer (some ⟨x.2, 0, none⟩)]
/-- What the body keeps, for the iterator. -/
def KpF (n₀ Bb : Nat) (A B : World) : Prop := Below n₀ A B ∧ B.heap[Bb]? = A.heap[Bb]?
theorem kpF_t {n₀ Bb : Nat} {A B C : World} (h : KpF n₀ Bb A B) (k : KpF n₀ Bb B C) : KpF n₀ Bb A C := ⟨h.1.trans k.1, k.2.trans h.2⟩
set_option maxRecDepth 100000 in
set_option maxHeartbeats 4000000 in
theorem taken1_in {α : Type} (un : α → Nat × Nat) (n : Nat) (hn : 1 ≤ n) (l0 Bb n₀ t : Nat) (P : List (Option Nat)) (S : List α) (hS : S.map un = tkS P 0) (J Jx : List α → World → Prop)
    (hJ : ∀ pre W W', J pre W → Below W.heap.size W W' → J pre W')
    (hY : ∀ pre x W, J pre W → pre.length < S.length → YieldAt Fence.wide (n - 1) Try.prog l0 (encs (un x)) W fun e W' =>
      (e = .returned (.bool true) ∧ J (pre ++ [x]) W' ∧ KpF n₀ Bb W W') ∨ (e = .returned (.bool false) ∧ Jx (pre ++ [x]) W'))
    (w0 W : World) (hP : Sp w0 t P) (h00 : w0.heap.size ≤ n₀) (hw0 : Below n₀ w0 W) (hnW : n₀ ≤ W.heap.size) (x0 : Boxed W Bb 22 (.pointer (some ⟨t, 0, none⟩))) (h0 : J [] W) :
    CallsIn Fence.wide n Try.prog 42 #[.func (.yield l0) #[] #[], .pointer (some ⟨Bb, 0, none⟩)] W fun e W' => (∃ v, e = .returned v) ∧
      ((∃ ys, ys = S ∧ J ys W') ∨ (∃ pre, (∃ t, S = pre ++ t) ∧ Jx pre W')) := by
  refine callsIn_of_wp Try.func42 rfl trivial ?_ rfl
  simp only [Try.ntmps42, List.size_toArray, List.length_cons, List.length_nil, Nat.reduceAdd, Nat.reduceSub, Array.replicate_succ, Array.replicate_zero, List.push_toArray, List.append_toArray, List.nil_append, List.cons_append]
  have HY := Lib.hid hY
  have HJ := Lib.hid hJ
  have HP := Lib.hid hP
  replace hS := Lib.hid hS
  have hPl := hP.len
  clear hY hJ hP
  have hf24 : Fence.wide.fn 24 := trivial
  have c00 := x0.cell
  have N := Lib.hid (none_no (HP.out.ext (hw0.mono h00)))
  gi_wp2_with (gi_at_call 24; refine (callsIn_wide.2 N.out).mono ?_; rintro e2 w2 ⟨rfl, rfl⟩)
  gi_loopw [7] (fun i wr => ∃ (k : Nat) (pre rest : List α), i = .int .i64 (k : Int) ∧ k ≤ 8 ∧ S = pre ++ rest ∧ rest.map un = tkS (P.drop k) k ∧ J pre wr ∧ Below n₀ W wr ∧ Boxed wr Bb 22 (.pointer (some ⟨t, 0, none⟩)))
    (fun i _ => 8 - (intOf i).toNat)
  case atStart => exact ⟨0, [], S, rfl, by omega, rfl, hS.out, h0, Below.refl _ _, x0⟩
  case round =>
    obtain ⟨k, pre, rest, rfl, hk, hSp, hrs, hJp, hbw, y0⟩ := hrel
    have c0 := y0.cell
    have HS := Lib.hid (HP.out.ext ((hw0.trans hbw).mono h00))
    have HB := Lib.hid hbw
    clear hbw
    by_cases h8 : k < 8
    · have h8' : (k : Int) < 8 := by omega
      obtain ⟨x, hx⟩ : ∃ x, P[k]? = some x := ⟨_, List.getElem?_eq_getElem (by rw [hPl]; exact h8)⟩
      have c1 := HS.out.taken hx
      have c2 := HS.out.has hx
      cases x with
      | none =>
        rw [tkS_none hx] at hrs
        replace hrs := Lib.hid hrs
        simp only [Option.isSome_none] at c1
        simp only [Option.map_none] at c2
        replace hSp := Lib.hid hSp
        replace hJp := Lib.hid hJp
        replace y0 := Lib.hid y0
        replace hx := Lib.hid hx
        gi_wp2
        refine ⟨fun f h => (by cases h), ?_⟩
        gi_wp2
        go_roundw
        case rel => exact ⟨k + 1, pre, rest, by simp, by omega, hSp.out, hrs.out, hJp.out, HB.out, y0.out⟩
        case measure => simp [intOf]; omega
      | some s =>
        rw [tkS_some hx] at hrs
        obtain ⟨x0', rest', rfl, hux, hrs'⟩ : ∃ x0 r', rest = x0 :: r' ∧ un x0 = (k, s) ∧ r'.map un = tkS (P.drop (k + 1)) (k + 1) := by
          cases rest with
          | nil => simp at hrs
          | cons a r => simp at hrs; exact ⟨a, r, rfl, hrs.1, hrs.2⟩
        replace hrs' := Lib.hid hrs'
        clear hrs
        simp only [Option.isSome_some] at c1
        simp only [Option.map_some] at c2
        have hlen : pre.length < S.length := by rw [hSp]; simp
        have HY1 := HY.out _ x0' _ hJp hlen
        rw [hux] at HY1
        obtain ⟨fn, tmps, assign, body, hy, hR⟩ := HY1
        replace hux := Lib.hid hux
        replace hSp := Lib.hid hSp
        replace hJp := Lib.hid hJp
        replace y0 := Lib.hid y0
        replace hx := Lib.hid hx
        clear hlen
        gi_wp2
        refine hR.mono ?_
        clear hR hy
        rintro e3 W3 (⟨rfl, hJ3, hk3⟩ | ⟨rfl, hJx3⟩)
        · have hS2 := hSp.out
          rw [List.append_cons] at hS2
          replace hS2 := Lib.hid hS2
          have z0 : Boxed W3 Bb 22 (.pointer (some ⟨t, 0, none⟩)) := hk3.2.trans y0.out
          have hb3 := Lib.hid (HB.out.trans hk3.1)
          replace z0 := Lib.hid z0
          replace hJ3 := Lib.hid hJ3
          clear hk3 c0 c1 c2
          gi_wp2
          go_roundw
          case rel => exact ⟨k + 1, pre ++ [x0'], rest', by simp, by omega, hS2.out, hrs'.out, hJ3.out, hb3.out, z0.out⟩
          case measure => simp [intOf]; omega
        · have hS2 := hSp.out
          rw [List.append_cons] at hS2
          replace hS2 := Lib.hid hS2
          replace hJx3 := Lib.hid hJx3
          clear c0 c1 c2
          gi_wp2
          refine bodyPost_ret (results_none rfl _ _ _) rfl ?_
          exact ⟨⟨_, rfl⟩, .inr ⟨_, ⟨_, hS2.out⟩, hJx3.out⟩⟩
    · have hge : ¬ (k : Int) < 8 := by omega
      rw [show tkS (P.drop k) k = [] by rw [List.drop_eq_nil_of_le (by omega)]; rfl, List.map_eq_nil_iff] at hrs
      rw [hrs, List.append_nil] at hSp
      replace hSp := Lib.hid hSp
      replace hJp := Lib.hid hJp
      gi_wp2
      go_end0
      exact ⟨⟨_, rfl⟩, .inl (by have := hJp.out; rw [← hSp.out] at this; first | exact this | exact ⟨_, rfl, this⟩)⟩
end Go.Proofs.Ytdcfenkllpfbaaa.Sns
