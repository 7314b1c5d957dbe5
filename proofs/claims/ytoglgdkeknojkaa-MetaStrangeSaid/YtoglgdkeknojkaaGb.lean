/-
  LAYER 1: the bytes behind a place, handed one by one (an iterator's contract).
-/
import Derived.Test.YtoglgdkeknojkaaGa
import Derived.RangeFuncBox
import Derived.RangeFuncNested
import Derived.RangeFuncBound
import Derived.RangeFuncCalls
import Derived.RangeFuncLeaves
import Derived.Shelf.Abstract
import Derived.Shelf.RegionOpen
import Derived.OwnWalkIn
import Derived.TacticsInMore
import Derived.LoopNIn
import Derived.LoopIn
namespace Go.Proofs.Ytoglgdkeknojkaa
open Go.RowKit Go.Shelf

attribute [local go_sem] Oper.semAt_some

/-- A byte, and how many stand ahead of it. -/
abbrev IB := { p : Nat × Nat // p.1 ≤ 140737488355328 ∧ p.2 < 256 }
abbrev encs (x : IB) : Array Value := #[.int .i64 (x.1.1 : Int), .int .u8 (x.1.2 : Int)]

def ib (l : List Nat) (h : ∀ x ∈ l, x < 256) (hl : l.length ≤ 140737488355328) (k j : Nat) : IB :=
  ⟨(min j 140737488355328, l.getD (k + j) 0), Nat.min_le_right _ _, by
    rw [List.getD_eq_getElem?_getD]
    cases e : l[k + j]? with
    | none => simp
    | some x => exact h x (List.mem_of_getElem? e)⟩
def upto {α : Type} (f : Nat → α) (k : Nat) : List α := (List.range k).map f
theorem upto_succ {α : Type} (f : Nat → α) (k : Nat) : upto f (k + 1) = upto f k ++ [f k] := by simp [upto, List.range_succ]
theorem upto_length {α : Type} (f : Nat → α) (k : Nat) : (upto f k).length = k := by simp [upto]

set_option maxRecDepth 100000 in
set_option maxHeartbeats 2000000 in
theorem from1_in (F : Fence) (n : Nat) (h7 : F.fn 70) (hro : F.round = none) (hn : 1 ≤ n) (l0 Bb Ba n₀ b off cap k0 : Nat) (l : List Nat) (h : ∀ x ∈ l, x < 256) (hl : l.length ≤ 140737488355328) (hk : k0 < cap) (hkl : k0 ≤ l.length) (hlc : l.length ≤ cap) (hcm : cap ≤ 9223372036854775807) (hb : b < n₀) (J Jx : List IB → World → Prop)
    (hY : ∀ pre x W, J pre W → pre.length < l.length - k0 → YieldAt F (n - 1) Try.prog l0 (encs x) W fun e W' =>
      (e = .returned (.bool true) ∧ J (pre ++ [x]) W' ∧ Below n₀ W W') ∨ (e = .returned (.bool false) ∧ Jx (pre ++ [x]) W'))
    (W : World) (hBb : W.cell? ⟨Bb, 0, none⟩ = some (.slice (some ⟨b, off, none⟩) l.length cap)) (hBa : W.cell? ⟨Ba, 0, none⟩ = some (.int .i64 (k0 : Int)))
    (hc : ∀ j, j < l.length → W.cell? ⟨b, off + j, none⟩ = some (.int .u8 ((l.getD j 0 : Nat) : Int))) (h0 : J [] W) :
    CallsIn F n Try.prog 70 #[.func (.yield l0) #[] #[], .pointer (some ⟨Bb, 0, none⟩), .pointer (some ⟨Ba, 0, none⟩)] W fun e W' => (∃ v, e = .returned v) ∧
      ((∃ ys, ys = upto (ib l h hl k0) (l.length - k0) ∧ J ys W') ∨ (∃ pre, (∃ k, k ≤ l.length - k0 ∧ pre = upto (ib l h hl k0) k) ∧ Jx pre W')) := by
  refine callsIn_of_wp Try.func70 rfl h7 ?_ hro
  simp only [Try.ntmps70, List.size_toArray, List.length_cons, List.length_nil, Nat.reduceAdd, Nat.reduceSub, Array.replicate_succ, Array.replicate_zero, List.push_toArray, List.append_toArray, List.nil_append, List.cons_append]
  have HC := Lib.hid hc
  clear hc
  gi_wp2
  gi_loopw [10] (fun i wr => ∃ k : Nat, k ≤ l.length - k0 ∧ i = .int .i64 k ∧ J (upto (ib l h hl k0) k) wr ∧ Below n₀ W wr)
    (fun i _ => (l.length - k0) - (intOf i).toNat)
  case atStart => exact ⟨0, Nat.zero_le _, rfl, h0, Below.refl _ _⟩
  case round =>
    obtain ⟨k, hk', rfl, hJs, hnx⟩ := hrel
    by_cases hlt : k < l.length - k0
    · have hcx : wr.cell? ⟨b, off + k0 + k, none⟩ = some (.int .u8 ((l.getD (k0 + k) 0 : Nat) : Int)) := by
        rw [Nat.add_assoc]
        exact (hnx.cell (p := ⟨b, off + (k0 + k), none⟩) hb).trans (HC.out (k0 + k) (by omega))
      obtain ⟨fn, tmps, assign, body, hy, hR⟩ := hY _ (ib l h hl k0 k) wr hJs (by rw [upto_length]; exact hlt)
      dsimp only [encs, ib] at hy
      rw [Nat.min_eq_left (by omega), List.getD_eq_getElem?_getD] at hy
      gi_wp2
      refine hR.mono ?_
      rintro e W3 (⟨rfl, hJ3, hk3⟩ | ⟨rfl, hJx3⟩)
      · gi_wp2
        go_roundw
        case rel => exact ⟨k + 1, by omega, by simp, by rw [upto_succ]; exact hJ3, hnx.trans hk3⟩
        case measure => simp [intOf]; omega
      · gi_wp2
        refine bodyPost_ret (results_none rfl _ _ _) rfl ?_
        exact ⟨⟨_, rfl⟩, .inr ⟨_, ⟨k + 1, by omega, (upto_succ _ _).symm⟩, hJx3⟩⟩
    · obtain rfl : k = l.length - k0 := by omega
      gi_wp2
      go_end0
      exact ⟨⟨_, rfl⟩, .inl ⟨_, rfl, hJs⟩⟩

set_option maxRecDepth 100000 in
set_option maxHeartbeats 1000000 in
/-- .. at its end: no round. -/
theorem from1_end_in (F : Fence) (n : Nat) (h7 : F.fn 70) (hro : F.round = none) (l0 Bb Ba : Nat) (a : Option Addr) (k0 : Nat) (hk : k0 ≤ 9223372036854775807) (ha : a = none → k0 = 0) (J : List IB → World → Prop) (W : World)
    (hBb : W.cell? ⟨Bb, 0, none⟩ = some (.slice a k0 k0)) (hBa : W.cell? ⟨Ba, 0, none⟩ = some (.int .i64 (k0 : Int))) (h0 : J [] W) :
    CallsIn F n Try.prog 70 #[.func (.yield l0) #[] #[], .pointer (some ⟨Bb, 0, none⟩), .pointer (some ⟨Ba, 0, none⟩)] W fun e W' => (∃ v, e = .returned v) ∧ J [] W' := by
  refine callsIn_of_wp Try.func70 rfl h7 ?_ hro
  simp only [Try.ntmps70, List.size_toArray, List.length_cons, List.length_nil, Nat.reduceAdd, Nat.reduceSub, Array.replicate_succ, Array.replicate_zero, List.push_toArray, List.append_toArray, List.nil_append, List.cons_append]
  rcases a with _ | ad
  · obtain rfl := ha rfl
    gi_wp2
    gi_loopw [10] (fun i wr => i = .int .i64 0 ∧ J [] wr) (fun _ _ => 0)
    case atStart => exact ⟨rfl, h0⟩
    case round =>
      obtain ⟨rfl, hJs⟩ := hrel
      gi_wp2
      go_end0
      exact ⟨⟨_, rfl⟩, hJs⟩
  · gi_wp2
    gi_loopw [10] (fun i wr => i = .int .i64 0 ∧ J [] wr) (fun _ _ => 0)
    case atStart => exact ⟨rfl, h0⟩
    case round =>
      obtain ⟨rfl, hJs⟩ := hrel
      gi_wp2
      go_end0
      exact ⟨⟨_, rfl⟩, hJs⟩

/-- The slice value v has the bytes l, and may be sliced anywhere. -/
def Src (w : World) (v : Value) (l : List Nat) : Prop :=
  ∃ a cap, v = .slice a l.length cap ∧ l.length ≤ cap ∧ cap ≤ 9223372036854775807 ∧ (a = none → cap = 0) ∧
    (cap = 0 ∨ ∃ b off, a = some ⟨b, off, none⟩ ∧ b < w.heap.size ∧ ∀ j, j < l.length → w.cell? ⟨b, off + j, none⟩ = some (.int .u8 ((l.getD j 0 : Nat) : Int)))
theorem Src.keep {w w' : World} {v : Value} {l : List Nat} (h : Src w v l) {B : Nat} (hb : Below B w w') (hB : w.heap.size ≤ B) : Src w' v l := by
  obtain ⟨a, cap, hv, h1, h2, h3, h⟩ := h
  refine ⟨a, cap, hv, h1, h2, h3, h.imp id ?_⟩
  rintro ⟨b, o, ha, hlt, hcell⟩
  exact ⟨b, o, ha, Nat.lt_of_lt_of_le hlt hb.size, fun i hi => by rw [hb.cell (by simp; omega)]; exact hcell i hi⟩
theorem Src.of_own {w : World} {B e : Nat} {v : Value} {l : List Nat} (h : w.ownsRow B e 1 v l.length (bl l)) : Src w v l := by
  obtain ⟨h1, h2⟩ := h
  rcases h2 with ⟨rfl, hn⟩ | ⟨g, cap, cur, hv, hb, hg, hnc, hcm, hcs, ht⟩
  · exact ⟨none, 0, by rw [hn], by omega, by omega, fun _ => rfl, .inl rfl⟩
  · refine ⟨_, cap, hv, hnc, by unfold maxLen at hcm; omega, (fun h => by cases h), .inr ⟨g, 0, rfl, (Array.getElem?_eq_some_iff.1 hg).1, fun i hi => ?_⟩⟩
    rw [cell_of_row w g _ cur e (0, 0) hg, Nat.zero_add]
    have hu : (bl l)[i]? = some (.int .u8 ((l.getD i 0 : Nat) : Int)) := by simp [bl, List.getD, hi]
    rw [← ht, List.getElem?_take] at hu
    split at hu
    · simpa using hu
    · cases hu
theorem Src.bytes {w : World} {v : Value} {l : List Nat} (h : Src w v l) : BytesAt w v l := by
  obtain ⟨a, cap, hv, h1, h2, h3, h⟩ := h
  refine ⟨a, cap, hv, ⟨h1, h3⟩, ?_⟩
  rcases h with h | ⟨b, o, ha, hlt, hcell⟩
  · exact .inl (List.eq_nil_of_length_eq_zero (by omega))
  · exact .inr ⟨b, o, ha, hlt, hcell⟩

theorem from_stops (F : Fence) (n : Nat) (h7 : F.fn 70) (hro : F.round = none) (hn : 1 ≤ n) (Bb Ba n₀ k0 : Nat) (v : Value) (l : List Nat) (h : ∀ x ∈ l, x < 256) (hl : l.length ≤ 140737488355328) (hkl : k0 ≤ l.length) (w w0 : World) (hS : Src w0 v l) (h00 : w0.heap.size ≤ n₀) (hw0 : Below w0.heap.size w0 w) (hn₀ : n₀ ≤ w.heap.size)
    (hBl : Bb < w.heap.size) (hAl : Ba < w.heap.size) (hBb : w.cell? ⟨Bb, 0, none⟩ = some v) (hBa : w.cell? ⟨Ba, 0, none⟩ = some (.int .i64 (k0 : Int))) :
    SeqStopsK F n Try.prog 70 #[.pointer (some ⟨Bb, 0, none⟩), .pointer (some ⟨Ba, 0, none⟩)] encs (Below n₀) (fun ys => ys = upto (ib l h hl k0) (l.length - k0))
      (fun pre => ∃ k, k ≤ l.length - k0 ∧ pre = upto (ib l h hl k0) k) (l.length - k0) w := fun l0 J Jx W hW _ _ hY h0 => by
  have c1 := (hW.cell (p := ⟨Bb, 0, none⟩) hBl).trans hBb
  have c2 := (hW.cell (p := ⟨Ba, 0, none⟩) hAl).trans hBa
  have hS1 := hS.keep (hw0.trans (hW.mono hw0.size)) (Nat.le_refl _)
  obtain ⟨a, cap, rfl, h1, h2, h3, hcase⟩ := hS
  by_cases hk : k0 < cap
  · rcases hcase with h | ⟨b, off, rfl, hb, hcell⟩
    · omega
    · refine from1_in F n h7 hro hn l0 Bb Ba n₀ b off cap k0 l h hl hk hkl h1 h2 (by omega) J Jx hY W c1 c2 (fun j hj => ?_) h0
      exact ((hw0.trans (hW.mono hw0.size)).cell (p := ⟨b, off + j, none⟩) hb).trans (hcell j hj)
  · obtain rfl : k0 = cap := by omega
    obtain hlen : l.length = k0 := by omega
    rw [hlen] at c1
    refine (from1_end_in F n h7 hro l0 Bb Ba a k0 h2 h3 J W c1 c2 h0).mono fun e W' ⟨he, hj⟩ => ⟨he, .inl ⟨_, ?_, hj⟩⟩
    rw [hlen, Nat.sub_self]
    rfl
end Go.Proofs.Ytoglgdkeknojkaa
