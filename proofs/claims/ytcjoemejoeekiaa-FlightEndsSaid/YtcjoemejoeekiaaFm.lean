/-
  LAYER 23: the numbers that were sent, in a row of the law's own.
-/
import Derived.Test.YtcjoemejoeekiaaFl
namespace Go.Proofs.Ytcjoemejoeekiaa.Fli
open Go.RowKit Que Hp Ids
def idL (n : Nat) : List Int := (List.range n).map fun j : Nat => (j : Int) + 1
theorem idL_len (n : Nat) : (idL n).length = n := by simp [idL]
theorem idL_snoc (n : Nat) : idL (n + 1) = idL n ++ [(n : Int) + 1] := by simp [idL, List.range_succ]
theorem idL_get {n i : Nat} (h : i < n) : (il (idL n))[i]? = some (.int .i64 ((i : Int) + 1)) := by simp [il, idL, h]
section
variable {A A' S : Nat → Prop} {w W W' : World} {f g : Nat} {T : List Bool} {L : List Se}
theorem Fs.others (h : Fs A W f g T L) (F : Far S W W') (hS : ∀ k, S k → A k) (hA : ∀ k, A' k → A k ∨ W.heap.size ≤ k ∧ k < W'.heap.size) : Fs A' W' f g T L := by
  obtain ⟨v, r, d, av⟩ := h.ex
  refine ⟨⟨v, r.far F (fun e => (av f (hS f e)).2.1 rfl) (fun k hk e => (av k (hS k e)).2.2 hk), Ds.others d F (fun k hk => .inl (hS k hk)) ?_, fun k hk => ?_⟩, h.ids, h.nd, h.tr⟩
  · rintro k (hk | hk)
    · exact (hA k hk).imp .inl id
    · exact .inl (.inr hk)
  · rcases hA k hk with e | ⟨e1, e2⟩
    · exact ⟨Nat.lt_of_lt_of_le (av k e).1 F.size, (av k e).2⟩
    · have := r.lt
      exact ⟨e2, by omega, fun e => by have := (r.its.lt k e).2; omega⟩
def AN (w : World) (v : Value) (k : Nat) : Prop := k < w.heap.size ∨ v.ownBlock = some k
/-- The flight, and the row of the numbers that were sent. -/
structure FN (w W : World) (f g : Nat) (T : List Bool) (L : List Se) (v : Value) (n : Nat) : Prop where
  fs : Fs (AN w v) W f g T L
  row : W.ownsRow w.heap.size 3 1 v n (il (idL n))
  bw : Below w.heap.size w W
variable {v v' : Value} {n : Nat} {T' : List Bool} {L' : List Se}
theorem FN.ext (h : FN w W f g T L v n) (hb : Below W.heap.size W W') : FN w W' f g T L v n := ⟨h.fs.ext hb, own_keep h.row hb, ext_trans h.bw hb⟩
theorem FN.onF (h : FN w W f g T L v n) (s : Fs (AN w v) W' f g T' L') (k : Kp (AN w v) W W') : FN w W' f g T' L' v n :=
  ⟨s, own_fars h.row k (fun _ hk e => e (.inr hk)), h.bw.trans (k.below h.bw.size (fun _ h => .inl h))⟩
theorem FN.onV (h : FN w W f g T L v n) (hb : Below W.heap.size W W') {W2 : World} (hg : W'.grownBy W2 v.ownBlock) (o : W2.ownsRow w.heap.size 3 1 v' (n + 1) (il (idL n) ++ [.int .i64 ((n : Int) + 1)])) (nb : ∀ k, v'.ownBlock = some k → v.ownBlock = some k ∨ W.heap.size ≤ k) : FN w W2 f g T L v' (n + 1) := by
  have F : Far (fun k => v.ownBlock = some k) W W2 := (Far.of_ext hb).trans (Far.of_grown (S := fun k => v.ownBlock = some k) hg (fun k _ e => e)) (fun _ _ h => h)
  refine ⟨h.fs.others F (fun k e => .inr e) ?_, ?_, h.bw.trans (F.below h.bw.size (fun k e => (h.row.lt k e).1))⟩
  · rintro k (hk | hk)
    · exact .inl (.inl hk)
    · rcases nb k hk with e | e
      · exact .inl (.inr e)
      · exact .inr ⟨e, (o.lt k hk).2⟩
  · rw [idL_snoc]; simpa [il] using o
end
end Go.Proofs.Ytcjoemejoeekiaa.Fli
