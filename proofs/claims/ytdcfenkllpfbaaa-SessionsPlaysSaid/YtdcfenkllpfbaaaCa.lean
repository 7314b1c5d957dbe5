/-
  LAYER 28: the document's sessions, as one fact.
-/
import Derived.Test.YtdcfenkllpfbaaaBm
import Derived.Test.YtdcfenkllpfbaaaQj
import Derived.Test.YtdcfenkllpfbaaaUj
namespace Go.Proofs.Ytdcfenkllpfbaaa.Sns
set_option linter.unusedVariables false
set_option linter.unusedSimpArgs false
open Go.Proofs.Ytdcfenkllpfbaaa
open Go.RowKit Que
/-- A session of the document's. -/
structure De where
  d : Nat
  q : Nat
  f : Nat
  i : Nat
  v : Value
  cl : ByteArray
  cn : Bool
  l : List Mg
  lost : Int
structure De.At (w : World) (B : Nat) (n : Int) (z : De) : Prop where
  row : w.heap[z.d]? = some (.cells #[.string z.cl, .bool z.cn, .bool false, .pointer (some ⟨z.q, 0, none⟩), .pointer (some ⟨z.f, 0, none⟩), .pointer (some ⟨z.i, 0, none⟩)] 93 (0, 0))
  xq : Quu.Xq B w z.q z.v z.l 16 z.lost
  old : B ≤ z.q
  len : z.l.length ≤ 16
  lost0 : 0 ≤ z.lost
  lostn : z.lost ≤ n
variable {w w' : World} {x B : Nat} {n : Int} {D : List (Option De)}
def cellD : Option De → Value
  | none => .pointer none
  | some z => .pointer (some ⟨z.d, 0, none⟩)
def rowD (D : List (Option De)) : Array Value := (D.map cellD).toArray
structure Sd (w : World) (x B : Nat) (n : Int) (D : List (Option De)) : Prop where
  row : w.heap[x]? = some (.cells (rowD D) 59 (0, 0))
  old : B ≤ x
  len : D.length = 8
  at_ : ∀ (i : Nat) (z : De), D[i]? = some (some z) → z.At w B n
  two : ∀ (i j : Nat) (y z : De), D[i]? = some (some y) → D[j]? = some (some z) → i ≠ j → y.q ≠ z.q ∧ (∀ k, y.v.ownBlock = some k → z.v.ownBlock ≠ some k)
theorem Sd.lt (h : Sd w x B n D) : x < w.heap.size := (Array.getElem?_eq_some_iff.1 h.row).1
theorem De.At.ltd {z : De} (h : z.At w B n) : z.d < w.heap.size := (Array.getElem?_eq_some_iff.1 h.row).1
theorem De.At.more {z : De} {m : Int} (h : z.At w B n) (hm : n ≤ m) : z.At w B m := ⟨h.row, h.xq, h.old, h.len, h.lost0, by have := h.lostn; omega⟩
theorem Sd.more {m : Int} (h : Sd w x B n D) (hm : n ≤ m) : Sd w x B m D := ⟨h.row, h.old, h.len, fun i z hi => (h.at_ i z hi).more hm, h.two⟩
theorem De.At.far {S : Nat → Prop} {z : De} (h : z.At w B n) (F : Far S w w') (h1 : ¬ S z.d) (h2 : ¬ S z.q) (h3 : ∀ k, z.v.ownBlock = some k → ¬ S k) : z.At w' B n :=
  ⟨(F.block z.d h.ltd h1).trans h.row, h.xq.far F h2 h3, h.old, h.len, h.lost0, h.lostn⟩
/-- Blocks that the document's sessions do not have. -/
def NoD (w : World) (k : Nat) : Prop := ∀ cs ty, w.heap[k]? = some (.cells cs ty (0, 0)) → ty ≠ 59 ∧ ty ≠ 93 ∧ ty ≠ 95 ∧ ty ≠ 46 ∧ ty ≠ 52
theorem own_row {B e size n k : Nat} {v : Value} {xs : List Value} (h : w.ownsRow B e size v n xs) (hk : v.ownBlock = some k) : B ≤ k ∧ ∃ cs, w.heap[k]? = some (.cells cs e (0, 0)) := by
  rcases h.2 with ⟨rfl, -⟩ | ⟨g', cap, cur, rfl, hB, hcur, -⟩
  · cases hk
  · obtain rfl : g' = k := by simpa [Value.ownBlock] using hk
    exact ⟨hB, cur, hcur⟩
theorem De.At.off {S : Nat → Prop} {z : De} (h : z.At w B n) (F : Far S w w') (hS : ∀ k, S k → NoD w k) : z.At w' B n :=
  h.far F (fun e => (hS _ e _ _ h.row).2.1 rfl) (fun e => (hS _ e _ _ h.xq.row).2.2.1 rfl) (fun k hk e => by obtain ⟨-, cs, hc⟩ := own_row h.xq.its hk; exact (hS _ e _ _ hc).2.2.2.1 rfl)
theorem Sd.off {S : Nat → Prop} (h : Sd w x B n D) (F : Far S w w') (hS : ∀ k, S k → NoD w k) : Sd w' x B n D :=
  ⟨(F.block x h.lt (fun e => (hS _ e _ _ h.row).1 rfl)).trans h.row, h.old, h.len, fun i z hi => (h.at_ i z hi).off F hS, h.two⟩
theorem Sd.ext (h : Sd w x B n D) (hb : Below w.heap.size w w') : Sd w' x B n D := h.off (S := fun _ => False) (Far.of_ext hb) (fun k e => e.elim)
/-- Blocks that the program's sessions do not have. -/
def NoP (w : World) (k : Nat) : Prop := ∃ cs ty, w.heap[k]? = some (.cells cs ty (0, 0)) ∧ ty ≠ 28 ∧ ty ≠ 73 ∧ ty ≠ 79 ∧ ty ≠ 105 ∧ ty ≠ 52
theorem St.off {S : Nat → Prop} {t : Nat} {L : List (Option Ze)} (h : St w t n L) (F : Far S w w') (hS : ∀ k, S k → NoP w k) : St w' t n L := by
  have no : ∀ {k cs ty}, S k → w.heap[k]? = some (.cells cs ty (0, 0)) → ty = 28 ∨ ty = 73 ∨ ty = 79 ∨ ty = 105 → False := fun {k cs ty} hk he ht => by
    obtain ⟨cs', ty', h1, h2, h3, h4, h5, -⟩ := hS k hk
    rw [h1] at he
    simp only [Option.some.injEq, Obj.cells.injEq] at he
    obtain ⟨-, rfl, -⟩ := he
    rcases ht with h | h | h | h
    · exact h2 h
    · exact h3 h
    · exact h4 h
    · exact h5 h
  refine ⟨⟨(F.block t h.sp.lt (fun e => no e h.sp.row (.inl rfl))).trans h.sp.row, h.sp.len⟩, fun i z hi => ?_, h.two⟩
  have hz := h.at_ i z hi
  obtain ⟨f, ii, hp⟩ := hz.sn.prow
  obtain ⟨s1, r1, hc1⟩ := hz.qu.ch
  refine hz.far F (fun e => no e hz.sn.row (.inr (.inl rfl))) (fun e => no e hp (.inr (.inr (.inl rfl)))) (fun e => no e hz.qu.row (.inr (.inr (.inr rfl)))) (fun e => ?_)
  obtain ⟨cs', ty', h1, -⟩ := hS _ e
  rw [h1] at hc1
  cases hc1
/-- The blocks of acts stay. -/
def Kx (w w' : World) : Prop := ∀ (k : Nat) (cs : Array Value), w.heap[k]? = some (.cells cs 52 (0, 0)) → w'.heap[k]? = some (.cells cs 52 (0, 0))
theorem Kx.of_d {S : Nat → Prop} (F : Far S w w') (hS : ∀ k, S k → NoD w k) : Kx w w' := fun k cs h =>
  (F.block k (Array.getElem?_eq_some_iff.1 h).1 (fun e => (hS k e _ _ h).2.2.2.2 rfl)).trans h
theorem Kx.of_p {S : Nat → Prop} (F : Far S w w') (hS : ∀ k, S k → NoP w k) : Kx w w' := fun k cs h =>
  (F.block k (Array.getElem?_eq_some_iff.1 h).1 (fun e => by
    obtain ⟨cs', ty', h1, -, -, -, -, h6⟩ := hS k e
    rw [h1] at h
    simp only [Option.some.injEq, Obj.cells.injEq] at h
    exact h6 h.2.1)).trans h
theorem Kx.of_ext (h : Below w.heap.size w w') : Kx w w' := fun k cs e => (h.block k (Array.getElem?_eq_some_iff.1 e).1).trans e
theorem Sd.cell (h : Sd w x B n D) {i : Nat} {y : Option De} (hi : D[i]? = some y) : w.cell? ⟨x, i, none⟩ = some (cellD y) := by
  rw [cell_of_row w x i _ 59 (0, 0) h.row, rowD, List.getElem?_toArray, List.getElem?_map, hi]
  rfl
theorem Sd.fz (h : Sd w x B n D) (j : Nat) : w.frozen? ⟨x, j, none⟩ = false := frozen_of_row w x j _ 59 h.row
theorem De.At.c0 {z : De} (h : z.At w B n) : w.cell? ⟨z.d, 0, none⟩ = some (.string z.cl) := cell_of_row w _ 0 _ 93 (0, 0) h.row
theorem De.At.c1 {z : De} (h : z.At w B n) : w.cell? ⟨z.d, 1, none⟩ = some (.bool z.cn) := cell_of_row w _ 1 _ 93 (0, 0) h.row
theorem De.At.c2 {z : De} (h : z.At w B n) : w.cell? ⟨z.d, 2, none⟩ = some (.bool false) := cell_of_row w _ 2 _ 93 (0, 0) h.row
theorem De.At.c3 {z : De} (h : z.At w B n) : w.cell? ⟨z.d, 3, none⟩ = some (.pointer (some ⟨z.q, 0, none⟩)) := cell_of_row w _ 3 _ 93 (0, 0) h.row
/-- What counts of a session. -/
abbrev Vw := ByteArray × Bool × Nat
def vwZ (L : List (Option Ze)) : List (Option Vw) := L.map (Option.map fun z => (z.cl, z.cn, z.l.length))
def vwD (D : List (Option De)) : List (Option Vw) := D.map (Option.map fun z => (z.cl, z.cn, z.l.length))
theorem vwZ_get (L : List (Option Ze)) (i : Nat) : (vwZ L)[i]? = L[i]?.map (Option.map fun z => (z.cl, z.cn, z.l.length)) := List.getElem?_map ..
theorem vwD_get (D : List (Option De)) (i : Nat) : (vwD D)[i]? = D[i]?.map (Option.map fun z => (z.cl, z.cn, z.l.length)) := List.getElem?_map ..
theorem vwZ_set (L : List (Option Ze)) (i : Nat) (y : Option Ze) : vwZ (L.set i y) = (vwZ L).set i (y.map fun z => (z.cl, z.cn, z.l.length)) := by simp [vwZ, List.map_set]
theorem vwD_set (D : List (Option De)) (i : Nat) (y : Option De) : vwD (D.set i y) = (vwD D).set i (y.map fun z => (z.cl, z.cn, z.l.length)) := by simp [vwD, List.map_set]
def fdV (cl : ByteArray) : List (Option Vw) → Nat → Option (Nat × Bool)
  | [], _ => none
  | none :: V, n => fdV cl V (n + 1)
  | some c :: V, n => if c.1 = cl then some (n, c.2.1) else fdV cl V (n + 1)
def frW : List (Option Vw) → Nat → Option Nat
  | [], _ => none
  | none :: _, n => some n
  | some _ :: V, n => frW V (n + 1)
def fdA : Option (Nat × Bool) → Int × Bool
  | none => (0, false)
  | some y => ((y.1 : Int), true)
def opV (cl : ByteArray) (cn : Bool) (V : List (Option Vw)) : Int × Bool × Int × Option Nat :=
  if okId cl then
    match fdV cl V 0 with
    | some (i, c) => if cn || c then ((i : Int), false, 0, some i) else ((i : Int), true, 0, none)
    | none => match frW V 0 with
      | some i => ((i : Int), false, 0, some i)
      | none => (0, false, 6, none)
  else (0, false, 1, none)
theorem fd_Z {cl : ByteArray} : ∀ (L : List (Option Ze)) (n : Nat), fdV cl (vwZ L) n = (fndS cl L n).map (fun y => (y.1, y.2.cn))
  | [], n => rfl
  | none :: L, n => fd_Z L (n + 1)
  | some z :: L, n => by
    show (if z.cl = cl then some (n, z.cn) else fdV cl (vwZ L) (n + 1)) = _
    rw [fndS, fd_Z L (n + 1)]
    split <;> rfl
theorem fr_Z : ∀ (L : List (Option Ze)) (n : Nat), frW (vwZ L) n = fr (spS L) n
  | [], n => rfl
  | none :: L, n => rfl
  | some z :: L, n => fr_Z L (n + 1)
theorem op_Z (cl : ByteArray) (cn : Bool) (L : List (Option Ze)) : opnR cl cn L = opV cl cn (vwZ L) := by
  unfold opnR opV
  rw [fd_Z, fr_Z]
  split
  · cases fndS cl L 0 with
    | none => rfl
    | some y => rfl
  · rfl
theorem fdA_Z (cl : ByteArray) (L : List (Option Ze)) : fndV (fndS cl L 0) = fdA (fdV cl (vwZ L) 0) := by
  rw [fd_Z]
  cases fndS cl L 0 <;> rfl
section
variable {V : List (Option Vw)} {cl : ByteArray} {i : Nat}
theorem drop_at {y : Option Vw} (h : V[i]? = some y) : V.drop i = y :: V.drop (i + 1) := by
  have hl := (List.getElem?_eq_some_iff.1 h).1
  rw [List.drop_eq_getElem_cons hl, (List.getElem?_eq_some_iff.1 h).2]
theorem fd_none (h : V[i]? = some none) (hi : fdV cl V 0 = fdV cl (V.drop i) i) : fdV cl V 0 = fdV cl (V.drop (i + 1)) (i + 1) := by rw [hi, drop_at h]; rfl
theorem fd_not {c : Vw} (h : V[i]? = some (some c)) (hc : c.1 ≠ cl) (hi : fdV cl V 0 = fdV cl (V.drop i) i) : fdV cl V 0 = fdV cl (V.drop (i + 1)) (i + 1) := by rw [hi, drop_at h, fdV, if_neg hc]
theorem fd_here {c : Vw} (h : V[i]? = some (some c)) (hc : c.1 = cl) (hi : fdV cl V 0 = fdV cl (V.drop i) i) : fdV cl V 0 = some (i, c.2.1) := by rw [hi, drop_at h, fdV, if_pos hc]
theorem fd_end (h : V.length ≤ i) (hi : fdV cl V 0 = fdV cl (V.drop i) i) : fdV cl V 0 = none := by rw [hi, List.drop_eq_nil_of_le h]; rfl
theorem fr_not {c : Vw} (h : V[i]? = some (some c)) (hi : frW V 0 = frW (V.drop i) i) : frW V 0 = frW (V.drop (i + 1)) (i + 1) := by rw [hi, drop_at h]; rfl
theorem fr_hereV (h : V[i]? = some none) (hi : frW V 0 = frW (V.drop i) i) : frW V 0 = some i := by rw [hi, drop_at h]; rfl
theorem fr_endV (h : V.length ≤ i) (hi : frW V 0 = frW (V.drop i) i) : frW V 0 = none := by rw [hi, List.drop_eq_nil_of_le h]; rfl
theorem fdV_some {y : Nat × Bool} : ∀ {V : List (Option Vw)} {n : Nat}, fdV cl V n = some y → n ≤ y.1 ∧ ∃ m, V[y.1 - n]? = some (some (cl, y.2, m))
  | [], n, h => by simp [fdV] at h
  | none :: V, n, h => by
    obtain ⟨h1, m, h2⟩ := fdV_some (V := V) (n := n + 1) (by simpa [fdV] using h)
    exact ⟨by omega, m, by rw [show y.1 - n = (y.1 - (n + 1)) + 1 by omega]; simpa using h2⟩
  | some c :: V, n, h => by
    rw [fdV] at h
    split at h
    · simp at h; subst h; rename_i hc; subst hc; exact ⟨Nat.le_refl _, c.2.2, by simp⟩
    · obtain ⟨h1, m, h2⟩ := fdV_some (V := V) (n := n + 1) h
      exact ⟨by omega, m, by rw [show y.1 - n = (y.1 - (n + 1)) + 1 by omega]; simpa using h2⟩
theorem frW_some : ∀ {V : List (Option Vw)} {n i : Nat}, frW V n = some i → n ≤ i ∧ V[i - n]? = some none
  | [], n, i, h => by simp [frW] at h
  | none :: V, n, i, h => by simp [frW] at h; subst h; simp
  | some s :: V, n, i, h => by
    obtain ⟨h1, h2⟩ := frW_some (V := V) (n := n + 1) (i := i) (by simpa [frW] using h)
    exact ⟨by omega, by rw [show i - n = (i - (n + 1)) + 1 by omega]; simpa using h2⟩
end
end Go.Proofs.Ytdcfenkllpfbaaa.Sns
