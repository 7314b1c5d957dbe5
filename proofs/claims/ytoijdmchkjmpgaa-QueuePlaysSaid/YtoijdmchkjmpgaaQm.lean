/-
  LAYER 22: stands: a queue has what the document's has.
-/
import Derived.Test.YtoijdmchkjmpgaaQl
namespace Go.Proofs.Ytoijdmchkjmpgaa.Que
open Go.RowKit
/-- Both queues, the channel alone having changed. -/
structure St (B : Nat) (w : World) (g c cap : Nat) (l : List Mg) (lost : Int) (gx : Nat) (v : Value) (W : World) : Prop where
  q : Qu W g c cap l lost
  x : Xq B W gx v l cap lost
  gr : w.grownBy W (some c)
section
variable {B : Nat} {w W W' : World} {g c cap gx : Nat} {v : Value} {l : List Mg} {lost : Int}
theorem St.next (h : St B w g c cap l lost gx v W) (q : Qu W' g c cap l lost) (G : W.grownBy W' (some c)) : St B w g c cap l lost gx v W' := by
  obtain ⟨s, r, hc⟩ := h.q.ch
  have hne : gx ≠ c := by
    rintro rfl
    have := h.x.row.symm.trans hc
    cases this
  exact ⟨q, ⟨(G.block gx h.x.lt (by simpa using hne)).trans h.x.row, own_chan h.x.its hc G⟩, grown_trans h.gr G⟩
theorem St.ext (h : St B w g c cap l lost gx v W) (hb : Below W.heap.size W W') : St B w g c cap l lost gx v W' := ⟨h.q.keep hb, h.x.keep hb, grown_trans h.gr (grown_of hb (Nat.le_refl _))⟩
def SW (B : Nat) (w : World) (g c cap : Nat) (l : List Mg) (lost : Int) (gx : Nat) (v : Value) (W : World) : Prop :=
  W.cell? ⟨gx, 0, none⟩ = some v ∧ W.cell? ⟨gx, 1, none⟩ = some (.int .i64 cap) ∧ W.cell? ⟨gx, 2, none⟩ = some (.int .i64 lost) ∧ St B w g c cap l lost gx v W
theorem St.sw (h : St B w g c cap l lost gx v W) : SW B w g c cap l lost gx v W := ⟨h.x.c0, h.x.c1, h.x.c2, h⟩
set_option maxHeartbeats 8000000 in
set_option maxRecDepth 100000 in
theorem stands_full (q : Qu w g c cap l lost) (x : Xq B w gx v l cap lost) (hl : l.length = cap) (hcap : cap ≤ 1000) :
    Calls Try.prog 35 #[.pointer (some ⟨g, 0, none⟩), .pointer (some ⟨gx, 0, none⟩)] w fun e w' => e = .returned (.bool true) ∧ St B w g c cap l lost gx v w' := by
  have T0 : St B w g c cap l lost gx v w := ⟨q, x, World.grownBy.refl _ _⟩
  obtain ⟨va, vc, rfl⟩ := own_slice x.its
  have hl' : (l.length : Int) ≤ 1000 := by omega
  have hge : (cap : Int) ≤ (l.length : Int) := by omega
  have hl1 := Lib.hid hl
  clear q x hl
  go_enter Try.func35, Try.ntmps35
  go_wp2_with fail
  go_region_held3 (fun W => W.cell? ⟨gx, 0, none⟩ = some (.slice va l.length vc) ∧ W.cell? ⟨gx, 1, none⟩ = some (.int .i64 cap) ∧ W.cell? ⟨gx, 2, none⟩ = some (.int .i64 lost) ∧ St B w g c cap l lost gx (.slice va l.length vc) W)
    (exact St.sw (by first | assumption | exact T0.ext (ext_drew _) | exact St.ext (by assumption) (ext_drew _)))
    (first
      | (go_at_call 38; refine (all_any (‹_ ∧ _ ∧ _ ∧ St _ _ _ _ _ _ _ _ _ _›).2.2.2.q (by omega) (by rw [hl1.out]; exact Nat.le_refl _)).mono ?_; rintro e w6 ⟨v6, rfl, o6, q6, g6⟩; obtain ⟨va6, vc6, rfl⟩ := own_slice o6; have T6 := (‹_ ∧ _ ∧ _ ∧ St _ _ _ _ _ _ _ _ _ _›).2.2.2.next q6 g6; have M6 := Lib.hid (MsAt.of_own o6 (by omega)); clear o6 q6 g6)
      | (go_at_call 39; refine (same_eq (l := l) (by first | exact M6.out | exact M6.out.keep (ext_drew _) (Nat.le_refl _)) (MsAt.of_own (‹_ ∧ _ ∧ _ ∧ St _ _ _ _ _ _ _ _ _ _›).2.2.2.x.its (by omega)) (by omega)).mono ?_; rintro e w7 ⟨rfl, b7⟩; have T7 := (‹_ ∧ _ ∧ _ ∧ St _ _ _ _ _ _ _ _ _ _›).2.2.2.ext b7; clear b7)
      | (go_at_call 36; refine (len_any (‹_ ∧ _ ∧ _ ∧ St _ _ _ _ _ _ _ _ _ _›).2.2.2.q (by omega)).mono ?_; rintro e w8 ⟨rfl, rfl⟩)
      | (go_at_call 40; refine (full_yes (‹_ ∧ _ ∧ _ ∧ St _ _ _ _ _ _ _ _ _ _›).2.2.2.q hl1.out (by omega)).mono ?_; rintro e w9 ⟨n9, rfl, rfl⟩; have T9 := (‹_ ∧ _ ∧ _ ∧ St _ _ _ _ _ _ _ _ _ _›).2.2.2.ext (ext_drewN _ n9))
      | (go_at_call 37; refine (lost_any (‹_ ∧ _ ∧ _ ∧ St _ _ _ _ _ _ _ _ _ _›).2.2.2.q).mono ?_; rintro e w10 ⟨rfl, rfl⟩))
  all_goals go_wp2
  all_goals go_ret
  all_goals exact ⟨rfl, (‹_ ∧ _ ∧ _ ∧ St _ _ _ _ _ _ _ _ _ _›).2.2.2⟩
set_option maxHeartbeats 8000000 in
set_option maxRecDepth 100000 in
theorem stands_room (q : Qu w g c cap l lost) (x : Xq B w gx v l cap lost) (hl : l.length < cap) (hcap : cap ≤ 1000) :
    Calls Try.prog 35 #[.pointer (some ⟨g, 0, none⟩), .pointer (some ⟨gx, 0, none⟩)] w fun e w' => e = .returned (.bool true) ∧ St B w g c cap l lost gx v w' := by
  have T0 : St B w g c cap l lost gx v w := ⟨q, x, World.grownBy.refl _ _⟩
  obtain ⟨va, vc, rfl⟩ := own_slice x.its
  have hl' : (l.length : Int) ≤ 1000 := by omega
  have hge : ¬ (cap : Int) ≤ (l.length : Int) := by omega
  have hge2 : ¬ cap ≤ l.length := by omega
  have hge3 : decide (cap ≤ l.length) = false := by simp; omega
  have hl1 := Lib.hid hl
  clear q x hl
  go_enter Try.func35, Try.ntmps35
  go_wp2_with fail
  go_region_held3 (fun W => W.cell? ⟨gx, 0, none⟩ = some (.slice va l.length vc) ∧ W.cell? ⟨gx, 1, none⟩ = some (.int .i64 cap) ∧ W.cell? ⟨gx, 2, none⟩ = some (.int .i64 lost) ∧ St B w g c cap l lost gx (.slice va l.length vc) W)
    (exact St.sw (by first | assumption | exact T0.ext (ext_drew _) | exact St.ext (by assumption) (ext_drew _)))
    (first
      | (go_at_call 38; refine (all_any (‹_ ∧ _ ∧ _ ∧ St _ _ _ _ _ _ _ _ _ _›).2.2.2.q (by omega) (Nat.le_of_lt hl1.out)).mono ?_; rintro e w6 ⟨v6, rfl, o6, q6, g6⟩; obtain ⟨va6, vc6, rfl⟩ := own_slice o6; have T6 := (‹_ ∧ _ ∧ _ ∧ St _ _ _ _ _ _ _ _ _ _›).2.2.2.next q6 g6; have M6 := Lib.hid (MsAt.of_own o6 (by omega)); clear o6 q6 g6)
      | (go_at_call 39; refine (same_eq (l := l) (by first | exact M6.out | exact M6.out.keep (ext_drew _) (Nat.le_refl _)) (MsAt.of_own (‹_ ∧ _ ∧ _ ∧ St _ _ _ _ _ _ _ _ _ _›).2.2.2.x.its (by omega)) (by omega)).mono ?_; rintro e w7 ⟨rfl, b7⟩; have T7 := (‹_ ∧ _ ∧ _ ∧ St _ _ _ _ _ _ _ _ _ _›).2.2.2.ext b7; clear b7)
      | (go_at_call 36; refine (len_any (‹_ ∧ _ ∧ _ ∧ St _ _ _ _ _ _ _ _ _ _›).2.2.2.q (by omega)).mono ?_; rintro e w8 ⟨rfl, rfl⟩)
      | (go_at_call 40; refine (full_no (‹_ ∧ _ ∧ _ ∧ St _ _ _ _ _ _ _ _ _ _›).2.2.2.q hl1.out (by omega)).mono ?_; rintro e w9 ⟨n9, rfl, rfl⟩; have T9 := (‹_ ∧ _ ∧ _ ∧ St _ _ _ _ _ _ _ _ _ _›).2.2.2.ext (ext_drewN _ n9))
      | (go_at_call 37; refine (lost_any (‹_ ∧ _ ∧ _ ∧ St _ _ _ _ _ _ _ _ _ _›).2.2.2.q).mono ?_; rintro e w10 ⟨rfl, rfl⟩))
  all_goals go_wp2
  all_goals go_ret
  all_goals exact ⟨rfl, (‹_ ∧ _ ∧ _ ∧ St _ _ _ _ _ _ _ _ _ _›).2.2.2⟩
theorem stands_any (q : Qu w g c cap l lost) (x : Xq B w gx v l cap lost) (hl : l.length ≤ cap) (hcap : cap ≤ 1000) :
    Calls Try.prog 35 #[.pointer (some ⟨g, 0, none⟩), .pointer (some ⟨gx, 0, none⟩)] w fun e w' => e = .returned (.bool true) ∧ St B w g c cap l lost gx v w' := by
  rcases Nat.lt_or_ge l.length cap with h | h
  · exact stands_room q x h hcap
  · exact stands_full q x (by omega) hcap
end
end Go.Proofs.Ytoijdmchkjmpgaa.Que
