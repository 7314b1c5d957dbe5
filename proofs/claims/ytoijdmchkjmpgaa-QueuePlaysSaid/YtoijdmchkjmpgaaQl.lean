/-
  LAYER 22: two of the document's queues; its New, its Move.
-/
import Derived.Test.YtoijdmchkjmpgaaQk
namespace Go.Proofs.Ytoijdmchkjmpgaa.Que
open Go.RowKit
theorem xnew_bad (n : Int) (w : World) (h : n < 1 ∨ 1000 < n) : Calls Try.prog 26 #[.int .i64 n] w fun e w' => e = .returned (.tuple #[.pointer none, .int .i64 1]) ∧ w = w' := by
  by_cases h1 : n < 1
  · clear h
    go_enter Try.func26, Try.ntmps26
    go_wp2
    go_ret2
    exact ⟨rfl, rfl⟩
  · have h2 : 1000 < n := by omega
    clear h
    go_enter Try.func26, Try.ntmps26
    go_wp2
    go_ret2
    exact ⟨rfl, rfl⟩
theorem xnew_any (B n : Nat) (w : World) (h1 : 1 ≤ n) (h2 : n ≤ 1000) : Calls Try.prog 26 #[.int .i64 (n : Int)] w fun e w' => e = .returned (.tuple #[.pointer (some ⟨w.heap.size, 0, none⟩), .int .i64 0]) ∧ Xq B w' w.heap.size (.slice none 0 0) [] n 0 ∧ Below w.heap.size w w' ∧ w'.heap.size = w.heap.size + 1 := by
  have b1 : (1 : Int) ≤ (n : Int) := by omega
  have b2 : (n : Int) ≤ 1000 := by omega
  go_enter Try.func26, Try.ntmps26
  go_wp2
  go_ret2
  exact ⟨rfl, ⟨heap_alloc_new w _, World.ownsRow_nil _ _ _ _⟩, ext_alloc w _, by simp⟩
/-- Two of them, apart. -/
structure XX (B : Nat) (w : World) (g1 : Nat) (v1 : Value) (l1 : List Mg) (m1 o1 : Int) (g2 : Nat) (v2 : Value) (l2 : List Mg) (m2 o2 : Int) : Prop where
  x1 : Xq B w g1 v1 l1 m1 o1
  x2 : Xq B w g2 v2 l2 m2 o2
  ne : g1 ≠ g2
  ap : ∀ k, v1.ownBlock = some k → v2.ownBlock ≠ some k
section
variable {B : Nat} {w w' : World} {g1 g2 : Nat} {v1 v2 v' : Value} {l1 l2 l' : List Mg} {m1 o1 m2 o2 m' o' : Int}
theorem XX.swap (h : XX B w g1 v1 l1 m1 o1 g2 v2 l2 m2 o2) : XX B w g2 v2 l2 m2 o2 g1 v1 l1 m1 o1 := ⟨h.x2, h.x1, Ne.symm h.ne, fun k h2 h1 => h.ap k h1 h2⟩
theorem XX.keep (h : XX B w g1 v1 l1 m1 o1 g2 v2 l2 m2 o2) (hb : Below w.heap.size w w') : XX B w' g1 v1 l1 m1 o1 g2 v2 l2 m2 o2 := ⟨h.x1.keep hb, h.x2.keep hb, h.ne, h.ap⟩
theorem XX.far (h : XX B w g1 v1 l1 m1 o1 g2 v2 l2 m2 o2) {S : Nat → Prop} (F : Far S w w') (h1 : ¬ S g1) (h2 : ¬ S g2) (k1 : ∀ k, v1.ownBlock = some k → ¬ S k) (k2 : ∀ k, v2.ownBlock = some k → ¬ S k) : XX B w' g1 v1 l1 m1 o1 g2 v2 l2 m2 o2 := ⟨h.x1.far F h1 k1, h.x2.far F h2 k2, h.ne, h.ap⟩
theorem XX.on1 (h : XX B w g1 v1 l1 m1 o1 g2 v2 l2 m2 o2) (n : XNew B w w' g1 v1 l' m' o' v') : XX B w' g1 v' l' m' o' g2 v2 l2 m2 o2 := by
  refine ⟨n.x, h.x2.far n.far ?_ ?_, h.ne, fun k hk h2 => ?_⟩
  · rintro (e | e)
    · exact h.ne e.symm
    · exact own_far h.x1.its h.x2.row (by decide) e.symm
  · rintro k hk (e | e)
    · subst e
      exact own_far h.x2.its h.x1.row (by decide) hk.symm
    · exact h.ap k e hk
  · rcases n.nb k hk with e | e
    · exact h.ap k e h2
    · have := (h.x2.its.lt k h2).2
      omega
theorem XX.on2 (h : XX B w g1 v1 l1 m1 o1 g2 v2 l2 m2 o2) (n : XNew B w w' g2 v2 l' m' o' v') : XX B w' g1 v1 l1 m1 o1 g2 v' l' m' o' := (h.swap.on1 n).swap
def SS (g1 g2 : Nat) (v1 v2 : Value) (k : Nat) : Prop := (k = g1 ∨ k = g2) ∨ v1.ownBlock = some k ∨ v2.ownBlock = some k
/-- Between two rounds of Move. -/
structure Mv (B : Nat) (w wr : World) (g1 : Nat) (v1 : Value) (l1 : List Mg) (m1 o1 : Int) (g2 : Nat) (v2 : Value) (l2 : List Mg) (m2 o2 : Int) (k : Nat) (a1 a2 : Value) : Prop where
  xx : XX B wr g1 a1 (l1.drop k) m1 o1 g2 a2 (l2 ++ l1.take k) m2 o2
  far : Far (SS g1 g2 v1 v2) w wr
  n1 : ∀ k, a1.ownBlock = some k → v1.ownBlock = some k ∨ w.heap.size ≤ k
  n2 : ∀ k, a2.ownBlock = some k → v2.ownBlock = some k ∨ w.heap.size ≤ k
def XMoved (B : Nat) (w : World) (g1 : Nat) (v1 : Value) (l1 : List Mg) (m1 o1 : Int) (g2 : Nat) (v2 : Value) (l2 : List Mg) (cap2 : Nat) (o2 : Int) (e : Ending) (w' : World) : Prop :=
  e = .returned (.int .i64 (movedN l1 l2 cap2 : Nat)) ∧ ∃ a1 a2, Mv B w w' g1 v1 l1 m1 o1 g2 v2 l2 cap2 o2 (movedN l1 l2 cap2) a1 a2
theorem Mv.took {wr w2 : World} {k : Nat} {a1 a2 b1 : Value} (h : Mv B w wr g1 v1 l1 m1 o1 g2 v2 l2 m2 o2 k a1 a2) (n : XNew B wr w2 g1 a1 (l1.drop (k + 1)) m1 o1 b1) : XX B w2 g1 b1 (l1.drop (k + 1)) m1 o1 g2 a2 (l2 ++ l1.take k) m2 o2 ∧ Far (SS g1 g2 v1 v2) w w2 ∧ (∀ k, b1.ownBlock = some k → v1.ownBlock = some k ∨ w.heap.size ≤ k) := by
  have sz := h.far.size
  refine ⟨h.xx.on1 n, h.far.trans n.far ?_, fun j hj => ?_⟩
  · rintro j hj (e | e)
    · exact .inl (.inl e)
    · rcases h.n1 j e with e | e
      · exact .inr (.inl e)
      · omega
  · rcases n.nb j hj with e | e
    · exact h.n1 j e
    · exact .inr (by omega)
theorem mv_put {w2 w3 : World} {k : Nat} {a2 b1 b2 : Value} {L : List Mg} (x : XX B w2 g1 b1 (l1.drop (k + 1)) m1 o1 g2 a2 L m2 o2) (F : Far (SS g1 g2 v1 v2) w w2) (n1 : ∀ k, b1.ownBlock = some k → v1.ownBlock = some k ∨ w.heap.size ≤ k) (n2 : ∀ k, a2.ownBlock = some k → v2.ownBlock = some k ∨ w.heap.size ≤ k)
    (n : XNew B w2 w3 g2 a2 (l2 ++ l1.take (k + 1)) m2 o2 b2) : Mv B w w3 g1 v1 l1 m1 o1 g2 v2 l2 m2 o2 (k + 1) b1 b2 := by
  have sz := F.size
  refine ⟨x.on2 n, F.trans n.far ?_, n1, fun j hj => ?_⟩
  · rintro j hj (e | e)
    · exact .inl (.inr e)
    · rcases n2 j e with e | e
      · exact .inr (.inr e)
      · omega
  · rcases n.nb j hj with e | e
    · exact n2 j e
    · exact .inr (by omega)
theorem Mv.ext {wr w2 : World} {k : Nat} {a1 a2 : Value} (h : Mv B w wr g1 v1 l1 m1 o1 g2 v2 l2 m2 o2 k a1 a2) (hb : Below wr.heap.size wr w2) : Mv B w w2 g1 v1 l1 m1 o1 g2 v2 l2 m2 o2 k a1 a2 :=
  ⟨h.xx.keep hb, h.far.trans (Far.of_ext (S := SS g1 g2 v1 v2) hb) (fun _ _ h => h), h.n1, h.n2⟩
set_option maxHeartbeats 8000000 in
set_option maxRecDepth 100000 in
theorem xmove_any {cap2 : Nat} (h : XX B w g1 v1 l1 m1 o1 g2 v2 l2 cap2 o2) (hB : B ≤ w.heap.size) (hl1 : l1.length ≤ 1000) (hl2 : l2.length ≤ cap2) (hcap : cap2 ≤ 1000) :
    Calls Try.prog 34 #[.pointer (some ⟨g2, 0, none⟩), .pointer (some ⟨g1, 0, none⟩)] w (XMoved B w g1 v1 l1 m1 o1 g2 v2 l2 cap2 o2) := by
  have H := Lib.hid h
  clear h
  go_enter Try.func34, Try.ntmps34
  go_wp2_with fail
  go_loopw [5] (fun iv wr => ∃ (k : Nat) (a1 a2 : Value), iv = .int .i64 (k : Int) ∧ k ≤ l1.length ∧ l2.length + k ≤ cap2 ∧ Mv B w wr g1 v1 l1 m1 o1 g2 v2 l2 cap2 o2 k a1 a2) (fun iv _ => l1.length - (intOf iv).toNat)
  case atStart => exact ⟨0, v1, v2, rfl, by omega, by omega, ⟨by simpa using H.out, Far.refl _ _, fun _ h => .inl h, fun _ h => .inl h⟩⟩
  case round =>
    obtain ⟨k, a1, a2, rfl, hk, hk2, M⟩ := hrel
    obtain ⟨p1, q1, rfl⟩ := own_slice M.xx.x1.its
    obtain ⟨p2, q2, rfl⟩ := own_slice M.xx.x2.its
    have c0 := M.xx.x1.c0
    have d0 := M.xx.x2.c0
    have d1 := M.xx.x2.c1
    have e1 : (l1.drop k).length = l1.length - k := by simp
    have e2 : (l2 ++ l1.take k).length = l2.length + k := by simp; omega
    rw [e1] at c0
    rw [e2] at d0
    by_cases hend : k = l1.length
    · have hm : movedN l1 l2 cap2 = k := by unfold movedN; omega
      have R : Hid (∀ W, Below wr.heap.size wr W → XMoved B w g1 v1 l1 m1 o1 g2 v2 l2 cap2 o2 (.returned (.int .i64 k)) W) := Lib.hid fun W hW => ⟨by rw [hm], _, _, by rw [hm]; exact M.ext hW⟩
      have hz : l1.length - k = 0 := by omega
      rw [hz] at c0
      clear M hm hend hz e1 e2
      go_wp2_with fail
      go_quiet (fail)
      go_wp2_with fail
      go_ret
      exact R.out _ (ext_drewN _ _)
    · have hpos : 0 < l1.length - k := by omega
      have hb : ((l1.length - k : Nat) : Int) ≤ 1000 := by omega
      have hb2 : ((l2.length + k : Nat) : Int) ≤ 1000 := by omega
      obtain ⟨s1, hs1⟩ : ∃ s, s = l1.length - k := ⟨_, rfl⟩
      obtain ⟨s2, hs2⟩ : ∃ s, s = l2.length + k := ⟨_, rfl⟩
      rw [← hs1] at c0 hpos hb
      rw [← hs2] at d0 hb2
      have hpos' : (0 : Int) < (s1 : Int) := by omega
      by_cases hfull : l2.length + k = cap2
      · have hm : movedN l1 l2 cap2 = k := by unfold movedN; omega
        have R : Hid (∀ W, Below wr.heap.size wr W → XMoved B w g1 v1 l1 m1 o1 g2 v2 l2 cap2 o2 (.returned (.int .i64 k)) W) := Lib.hid fun W hW => ⟨by rw [hm], _, _, by rw [hm]; exact M.ext hW⟩
        have hge : ¬ (s2 : Int) < (cap2 : Int) := by omega
        clear M hm hend e1 e2 hs1 hs2 hfull
        go_wp2_with fail
        go_quiet (fail)
        go_wp2_with fail
        go_ret
        exact R.out _ (ext_drewN _ _)
      · have hlt2 : (s2 : Int) < (cap2 : Int) := by omega
        have klt : k < l1.length := by omega
        have hk3 : l2.length + k < cap2 := by omega
        have hsz := M.far.size
        have ht : l2 ++ l1.take k ++ [l1[k]] = l2 ++ l1.take (k + 1) := by rw [List.append_assoc, List.take_succ_eq_append_getElem klt]
        have hd := List.drop_eq_getElem_cons klt
        obtain ⟨m, hm⟩ : ∃ m, m = l1[k] := ⟨_, rfl⟩
        rw [← hm] at ht hd
        have M2 := Lib.hid M
        have TK : Hid (∀ n, Calls Try.prog 31 #[.pointer (some ⟨g1, 0, none⟩)] (wr.drewN n) fun e w' => e = .returned (.tuple #[.agg #[.string m.a0, .string m.a1, .int .i64 m.a2, .bool m.a3], .bool true]) ∧ ∃ v', XNew B (wr.drewN n) w' g1 (.slice p1 (l1.drop k).length q1) (l1.drop (k + 1)) m1 o1 v') :=
          Lib.hid fun n => xtake_yes (by have := (M.ext (ext_drewN wr n)).xx.x1; rw [hd] at this ⊢; exact this) (by simp; omega) (by simp; omega)
        replace ht := Lib.hid ht
        replace hd := Lib.hid hd
        replace e2 := Lib.hid e2
        clear M hm hend e1 hs1 hs2 hfull
        go_wp2_with fail
        go_quiet (fail)
        go_wp2_with fail
        refine (TK.out _).mono ?_
        rintro e w2 ⟨rfl, b1, n⟩
        obtain ⟨x2, F2, n1⟩ := (M2.out.ext (ext_drewN _ _)).took n
        have x3 := x2.keep (ext_alloc w2 (.cells #[.string m.a0, .string m.a1, .int .i64 m.a2, .bool m.a3] 53))
        have F3 := Lib.hid (F2.trans (Far.of_ext (S := SS g1 g2 v1 v2) (ext_alloc w2 (.cells #[.string m.a0, .string m.a1, .int .i64 m.a2, .bool m.a3] 53))) (fun _ _ h => h))
        have PT := Lib.hid (xput_yes x3.x2 m (by have := e2.out; omega) (by have := e2.out; omega) (by have := F3.out.size; omega))
        rw [ht.out] at PT
        replace x3 := Lib.hid x3
        replace n1 := Lib.hid n1
        clear n x2 F2 TK
        go_wp2_with fail
        refine PT.out.mono ?_
        rintro e w3 ⟨rfl, b2, n⟩
        have MM := Lib.hid (mv_put x3.out F3.out n1.out M2.out.n2 n)
        clear n PT
        go_wp2_with fail
        go_roundw
        case rel => exact ⟨k + 1, _, _, by simp, by omega, by omega, MM.out⟩
        case measure => simp [intOf]; omega
end
end Go.Proofs.Ytoijdmchkjmpgaa.Que
