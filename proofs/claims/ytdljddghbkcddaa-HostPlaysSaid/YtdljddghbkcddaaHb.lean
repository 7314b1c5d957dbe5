/-
  LAYER 34: hosts in a block of their own, and a map that tells their places.
-/
import Derived.Test.YtdljddghbkcddaaHa
namespace Go.Proofs.Ytdljddghbkcddaa.Hst
open Go.RowKit Go.Maps Go.WideMaps

abbrev Host := ByteArray × Bool
def kl (k : ByteArray) : Lit := .string k.data.toList
theorem kl_inj {a b : ByteArray} (h : kl a = kl b) : a = b := by
  unfold kl at h
  injection h with h
  cases a; cases b
  simp only [Array.toList_inj] at h
  rw [h]
/-- Where a name stands. -/
def idx (k : ByteArray) : List Host → Option Nat
  | [] => none
  | x :: r => if x.1.data.toList = k.data.toList then some 0 else (idx k r).map (· + 1)
theorem idx_lt {k : ByteArray} : ∀ {l : List Host} {i : Nat}, idx k l = some i → i < l.length
  | [], i, h => by simp [idx] at h
  | x :: r, i, h => by
    unfold idx at h
    split at h
    · simp at h; subst h; simp
    · simp only [Option.map_eq_some_iff] at h
      obtain ⟨j, hj, rfl⟩ := h
      have := idx_lt hj
      simp; omega
theorem idx_name {k : ByteArray} : ∀ {l : List Host} {i : Nat}, idx k l = some i → ∃ on, l[i]? = some (k, on)
  | [], i, h => by simp [idx] at h
  | x :: r, i, h => by
    unfold idx at h
    split at h
    · rename_i e
      simp at h; subst h
      have : x.1 = k := kl_inj (congrArg Lit.string e)
      exact ⟨x.2, by simp [← this]⟩
    · simp only [Option.map_eq_some_iff] at h
      obtain ⟨j, hj, rfl⟩ := h
      obtain ⟨on, h2⟩ := idx_name hj
      exact ⟨on, by simpa using h2⟩
theorem idx_snoc (k : ByteArray) (x : Host) : ∀ l : List Host, idx k (l ++ [x]) = match idx k l with | some i => some i | none => if x.1.data.toList = k.data.toList then some l.length else none
  | [] => by simp [idx]
  | y :: r => by
    rw [List.cons_append, idx, idx, idx_snoc k x r]
    split
    · rfl
    · cases idx k r with
      | some i => rfl
      | none =>
        simp only [Option.map_none]
        split <;> simp
theorem idx_set {n : ByteArray} {i : Nat} (on : Bool) : ∀ {l : List Host}, idx n l = some i → ∀ k, idx k (l.set i (n, on)) = idx k l
  | [], h, k => by simp [idx] at h
  | x :: r, h, k => by
    unfold idx at h
    split at h
    · rename_i e
      simp at h; subst h
      simp only [List.set_cons_zero, idx, e]
    · simp only [Option.map_eq_some_iff] at h
      obtain ⟨j, hj, rfl⟩ := h
      simp only [List.set_cons_succ, idx, idx_set on hj k]

def Rd (D : DataW Unit) (l : List Host) : Prop :=
  ∀ k : ByteArray, (∀ i, idx k l = some i → has D (kl k) = true ∧ D.atKey (kl k) (.lit (.int .i64 0)) = .lit (.int .i64 (i : Nat))) ∧ (idx k l = none → has D (kl k) = false)
theorem Rd.put {D : DataW Unit} {l : List Host} (h : Rd D l) (hD : IsMap D) {n : ByteArray} (on : Bool) (hn : idx n l = none) : Rd (D.put (kl n) (.lit (.int .i64 (l.length : Nat)))) (l ++ [(n, on)]) := by
  intro k
  have hk : WideAt.IsKeyLit (kl n) := by unfold kl; exact trivial
  by_cases e : n.data.toList = k.data.toList
  · have : n = k := kl_inj (congrArg Lit.string e)
    subst this
    refine ⟨fun i hi => ?_, fun hi => ?_⟩
    · rw [idx_snoc, hn] at hi
      simp at hi
      subst hi
      exact ⟨has_put_same hD hk _, atKey_put_same hD hk _ _⟩
    · rw [idx_snoc, hn] at hi
      simp at hi
  · have hne : kl k ≠ kl n := fun h => e (by unfold kl at h; injection h with h; exact h.symm)
    rw [has_put_other hne, atKey_put_other hne]
    have hi' : idx k (l ++ [(n, on)]) = idx k l := by
      rw [idx_snoc]
      cases idx k l with
      | some i => rfl
      | none => simp [e]
    rw [hi']
    exact h k
theorem Rd.set {D : DataW Unit} {l : List Host} (h : Rd D l) {n : ByteArray} {i : Nat} (on : Bool) (hn : idx n l = some i) : Rd D (l.set i (n, on)) := by
  intro k
  rw [idx_set on hn k]
  exact h k

def rowOf (m : Nat) (kn : List Host) : Array Value := (.map (some m) :: kn.flatMap fun x => [.string x.1, .bool x.2]).toArray
/-- The hosts in block g: the first n of four places count; the map in block m tells where. -/
structure Hs (w : World) (g m n : Nat) (kn : List Host) (D : DataW Unit) : Prop where
  row : w.heap[g]? = some (.cells (rowOf m kn) 90 (0, 0))
  len : kn.length = 4
  le : n ≤ 4
  map : w.ownsMap Try.prog 9 (plainElem (H := Unit) Try.prog 3) m n D
  size : Maps.size D = n
  ne : m ≠ g
  rd : Rd D (kn.take n)
theorem Hs.lt {w : World} {g m n : Nat} {kn : List Host} {D : DataW Unit} (h : Hs w g m n kn D) : g < w.heap.size := (Array.getElem?_eq_some_iff.1 h.row).1
theorem Hs.at {w : World} {g m n : Nat} {kn : List Host} {D : DataW Unit} (h : Hs w g m n kn D) : w.cell? ⟨g, 0, none⟩ = some (.map (some m)) := by
  rw [cell_of_row w g _ _ 90 (0, 0) h.row]; simp [rowOf]
theorem Hs.free {w : World} {g m n : Nat} {kn : List Host} {D : DataW Unit} (h : Hs w g m n kn D) (i : Nat) : w.frozen? ⟨g, i, none⟩ = false := frozen_of_row w g i _ 90 h.row
theorem four {l : List Host} (h : l.length = 4) : ∃ a b c d, l = [a, b, c, d] := by
  match l, h with
  | [a, b, c, d], _ => exact ⟨a, b, c, d, rfl⟩
theorem Hs.cells {w : World} {g m n : Nat} {kn : List Host} {D : DataW Unit} (h : Hs w g m n kn D) (i : Nat) (hi : i < 4) :
    ∃ x : Host, kn[i]? = some x ∧ w.cell? ⟨g, 1 + i * 2, none⟩ = some (.string x.1) ∧ w.cell? ⟨g, 1 + i * 2 + 1, none⟩ = some (.bool x.2) := by
  obtain ⟨a, b, c, d, rfl⟩ := four h.len
  have hr := h.row
  rcases (by omega : i = 0 ∨ i = 1 ∨ i = 2 ∨ i = 3) with rfl | rfl | rfl | rfl
  · exact ⟨a, rfl, by rw [cell_of_row w g _ _ 90 (0, 0) hr]; rfl, by rw [cell_of_row w g _ _ 90 (0, 0) hr]; rfl⟩
  · exact ⟨b, rfl, by rw [cell_of_row w g _ _ 90 (0, 0) hr]; rfl, by rw [cell_of_row w g _ _ 90 (0, 0) hr]; rfl⟩
  · exact ⟨c, rfl, by rw [cell_of_row w g _ _ 90 (0, 0) hr]; rfl, by rw [cell_of_row w g _ _ 90 (0, 0) hr]; rfl⟩
  · exact ⟨d, rfl, by rw [cell_of_row w g _ _ 90 (0, 0) hr]; rfl, by rw [cell_of_row w g _ _ 90 (0, 0) hr]; rfl⟩
/-- The row behind two stores at a place. -/
theorem row_set {w : World} {g m : Nat} {kn : List Host} (hr : w.heap[g]? = some (.cells (rowOf m kn) 90 (0, 0))) (hl : kn.length = 4) (i : Nat) (hi : i < 4) (x : Host) :
    ((w.setCell ⟨g, 1 + i * 2, none⟩ (.string x.1)).setCell ⟨g, 1 + i * 2 + 1, none⟩ (.bool x.2)).heap[g]? = some (.cells (rowOf m (kn.set i x)) 90 (0, 0)) := by
  obtain ⟨a, b, c, d, rfl⟩ := four hl
  have h1 := heap_setCell_same w g (1 + i * 2) _ 90 (.string x.1) hr
  have h2 := heap_setCell_same _ g (1 + i * 2 + 1) _ 90 (.bool x.2) h1
  rw [h2]
  rcases (by omega : i = 0 ∨ i = 1 ∨ i = 2 ∨ i = 3) with rfl | rfl | rfl | rfl <;> rfl
theorem Hs.keep {w w' : World} {g m n : Nat} {kn : List Host} {D : DataW Unit} (h : Hs w g m n kn D) (hb : Below w.heap.size w w') : Hs w' g m n kn D := by
  refine ⟨(hb.block g h.lt).trans h.row, h.len, h.le, ?_, h.size, h.ne, h.rd⟩
  obtain ⟨es, clock, hm, r⟩ := h.map
  exact ⟨es, clock, (hb.block m h.map.lt).trans hm, r⟩
end Go.Proofs.Ytdljddghbkcddaa.Hst
