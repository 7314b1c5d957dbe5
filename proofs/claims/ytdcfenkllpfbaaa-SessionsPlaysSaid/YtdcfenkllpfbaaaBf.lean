/-
  LAYER 28: the iterator as a range sees it; a session's queue.
-/
import Derived.Test.YtdcfenkllpfbaaaBe
namespace Go.Proofs.Ytdcfenkllpfbaaa.Sns
set_option linter.unusedVariables false
set_option linter.unusedSimpArgs false
open Go.Proofs.Ytdcfenkllpfbaaa
open Go.RowKit Go.Shelf Que
theorem taken_stops {α : Type} (un : α → Nat × Nat) (S : List α) (n : Nat) (hn : 1 ≤ n) (Bb n₀ t : Nat) (P : List (Option Nat)) (hS : S.map un = tkS P 0) (w0 w : World) (hP : Sp w0 t P) (h00 : w0.heap.size ≤ n₀) (hw0 : Below n₀ w0 w) (hnW : n₀ ≤ w.heap.size) (x0 : Boxed w Bb 22 (.pointer (some ⟨t, 0, none⟩))) :
    SeqStopsK Fence.wide n Try.prog 42 #[.pointer (some ⟨Bb, 0, none⟩)] (fun x => encs (un x)) (KpF n₀ Bb) (fun ys => ys = S) (fun pre => ∃ t, S = pre ++ t) S.length w :=
  fun l0 J Jx W hW hJ _ hY h0 =>
    taken1_in un n hn l0 Bb n₀ t P S hS J Jx (fun pre W W' h hb => hJ pre W W' none h ⟨hb.os, hb.tape, hb.output, hb.size, fun k hk _ => hb.block k hk⟩ (fun r e => by cases e)) hY w0 W hP h00 (hw0.trans (hW.mono hnW)) (Nat.le_trans hnW hW.size) ((hW.block _ x0.lt).trans x0) h0
theorem taken_in (n : Nat) (t : Option Addr) (w : World) :
    CallsIn Fence.wide n Try.prog 28 #[.pointer t] w fun e w' => e = .returned (.func (.func 42) #[] #[.pointer (some ⟨w.heap.size, 0, none⟩)]) ∧ w' = w.alloc (.cells #[.pointer t] 22) := by
  refine callsIn_of_wp Try.func28 rfl trivial ?_ rfl
  simp only [Try.ntmps28, List.size_toArray, List.length_cons, List.length_nil, Nat.reduceAdd, Nat.reduceSub, Array.replicate_succ, Array.replicate_zero, List.push_toArray, List.append_toArray, List.nil_append, List.cons_append]
  gi_wp2
  go_ret
  exact ⟨rfl, rfl⟩
variable {w w' : World} {s p g c : Nat} {cl : ByteArray} {cn : Bool} {l : List Mg} {lost : Int}
set_option maxHeartbeats 8000000 in
theorem s_in (h : Sn w s p g cl cn) : Calls Try.prog 33 #[.pointer (some ⟨s, 0, none⟩)] w fun e w' => e = .returned (.pointer (some ⟨p, 0, none⟩)) ∧ w = w' := by
  have s3 := h.s3
  have N := Lib.hid (s_none h)
  go_enter Try.func33, Try.ntmps33
  go_wp2_with fail
  refine N.out.mono ?_
  rintro e w1 ⟨rfl, rfl⟩
  go_wp2_with fail
  go_ret
  exact ⟨rfl, rfl⟩
def QueIs (w : World) (s p g c : Nat) (cl : ByteArray) (cn : Bool) (l : List Mg) (lost : Int) (e : Ending) (w' : World) : Prop :=
  ∃ a n, e = .returned (.slice a l.length n) ∧ Sn w' s p g cl cn ∧ Quu.Qu w' g c 16 l lost ∧ Far (fun k => k = g ∨ k = c) w w'
set_option maxHeartbeats 8000000 in
theorem s_queue (h : Sn w s p g cl cn) (q : Quu.Qu w g c 16 l lost) (hl : l.length ≤ 16) : Calls Try.prog 16 #[.pointer (some ⟨s, 0, none⟩)] w (QueIs w s p g c cl cn l lost) := by
  have I := Lib.hid (s_in h)
  have p0 := h.p0
  have H := Lib.hid h
  have A := Lib.hid (Quu.all_any q (by omega) hl)
  obtain ⟨n1, n2, n3, n4⟩ := h.apart q
  clear h q
  go_enter Try.func16, Try.ntmps16
  go_wp2_with fail
  refine I.out.mono ?_
  rintro e w1 ⟨rfl, rfl⟩
  go_wp2_with fail
  refine A.out.mono ?_
  unfold Quu.AllPost
  rintro e w2 ⟨v, rfl, o2, q2, g2⟩
  obtain ⟨va, vc, rfl⟩ := own_slice o2
  have F := Lib.hid (show Far (fun k => k = g ∨ k = c) w w2 from Far.of_grown g2 (fun k _ e => .inr (by simpa using e.symm)))
  replace q2 := Lib.hid q2
  clear o2 g2 A
  go_wp2_with fail
  go_ret
  exact ⟨_, _, rfl, H.out.far F.out (by omega) (by omega), q2.out, F.out⟩
end Go.Proofs.Ytdcfenkllpfbaaa.Sns
