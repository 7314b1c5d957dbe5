/-
  LAYER 13: the writer.
-/
import Derived.Test.YtkohlbafpljfjaaCe
import Derived.Test.YtkohlbafpljfjaaBlk
namespace Go.Proofs.Ytkohlbafpljfjaa
set_option linter.unusedSimpArgs false
set_option linter.unusedVariables false
open Go.RowKit

/-- The writer at block G has the bytes l and the error E. -/
def Wr (w : World) (G : Nat) (l : List Nat) (E : Int) : Prop := ∃ v, Blk w G 85 #[v, .int .i64 E] ∧ w.ownsRow (G + 1) 5 1 v l.length (bl l)
def AddPost (G : Nat) (l lb : List Nat) (E eb : Int) (w : World) (e : Ending) (w' : World) : Prop :=
  e = .returned (.tuple #[]) ∧ Wr w' G (if E = 0 then l ++ lb else l) (if E = 0 then eb else E) ∧ Below G w w'
set_option maxHeartbeats 1000000 in
set_option maxRecDepth 100000 in
theorem add_any (G : Nat) (l lb : List Nat) (E eb : Int) (vb : Value) (w : World) (h : Wr w G l E) (hb : BytesAt w vb lb) (hl : l.length + lb.length ≤ 140737488355328) :
    Calls Try.prog 44 #[.pointer (some ⟨G, 0, none⟩), vb, .int .i64 eb] w (AddPost G l lb E eb w) := by
  obtain ⟨v, hB, hO⟩ := h
  have c0 := hB.cell 0
  have c1 := hB.cell 1
  simp only [List.getElem?_toArray, List.getElem?_cons_zero, List.getElem?_cons_succ] at c0 c1
  have hG := hB.lt
  obtain ⟨i0, hi, hz0, hz1, hz2⟩ := info_parts info5
  by_cases hE : E = 0
  · subst hE
    unfold AddPost
    rw [if_pos rfl, if_pos rfl]
    go_enter Try.func44, Try.ntmps44
    go_wp2_with (at_builtin; go_must (refine wpList_append_bytes _ rfl (.tmp 16) (.tmp 17) 23 rfl (G + 1) 5 i0 Try.underlying23 hi hz0 hz1 hz2 v l lb rfl hO hb hl hG ?_); intro v1 w1 o1 g1 n1; rw [List.length_append] at o1; obtain ⟨a1, n1, rfl⟩ := own_slice o1; have k1 : Blk w1 G 85 #[v, .int .i64 0] := hB.grown g1 (own_ne hO (by omega)); have f0 := k1.fz 0; have f1 := k1.fz 1; have d0 := k1.cell 0; have d1 := k1.cell 1; simp only [List.getElem?_toArray, List.getElem?_cons_zero, List.getElem?_cons_succ] at d0 d1)
    go_end0
    refine ⟨rfl, ⟨_, (k1.set 0 _).set 1 _, by rw [List.length_append]; exact (o1.kept (gset w1 G 0 _) (.inr (own_ne o1 (by omega)).symm)).kept (gset _ G 1 _) (.inr (own_ne o1 (by omega)).symm)⟩, ?_⟩
    · exact (((Below.refl _ _).grown g1 (by omega) (fun k hk => by have := (hO.lt k hk).1; omega)).setCell (by simp) _).setCell (by simp) _
  · have hb' : (E == 0) = false := beq_eq_false_iff_ne.2 hE
    unfold AddPost
    rw [if_neg hE, if_neg hE]
    replace hE := Lib.hid hE
    go_enter Try.func44, Try.ntmps44
    go_wp2
    go_end0
    exact ⟨rfl, ⟨v, hB, hO⟩, Below.refl _ _⟩
end Go.Proofs.Ytkohlbafpljfjaa
