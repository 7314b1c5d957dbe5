/-
  LAYER 28: sessions that nobody made; full.
-/
import Derived.Test.YtdcfenkllpfbaaaBj
namespace Go.Proofs.Ytdcfenkllpfbaaa.Sns
set_option linter.unusedVariables false
set_option linter.unusedSimpArgs false
open Go.Proofs.Ytdcfenkllpfbaaa
open Go.RowKit Go.Shelf Que
attribute [local go_sem] Oper.semAt_some
/-- Sessions that nobody made. -/
def Nb (w : World) (t : Option Addr) : Prop := t = none ∨ ∃ g, t = some ⟨g, 0, none⟩ ∧ g < w.heap.size ∧ w.cell? ⟨g, 0, none⟩ = some (.bool false)
theorem Nb.ext {w w' : World} {t : Option Addr} (h : Nb w t) (hb : Below w.heap.size w w') : Nb w' t := by
  rcases h with h | ⟨g, h1, h2, h3⟩
  · exact .inl h
  · exact .inr ⟨g, h1, Nat.lt_of_lt_of_le h2 hb.size, (hb.cell h2).trans h3⟩
set_option maxHeartbeats 8000000 in
theorem none_yes {w : World} {t : Option Addr} (h : Nb w t) : Calls Try.prog 24 #[.pointer t] w fun e w' => e = .returned (.bool true) ∧ w = w' := by
  rcases h with rfl | ⟨g, rfl, h2, h3⟩
  · go_enter Try.func24, Try.ntmps24
    go_wp2_with fail
    go_ret
    exact ⟨rfl, rfl⟩
  · go_enter Try.func24, Try.ntmps24
    go_wp2_with fail
    go_ret
    exact ⟨rfl, rfl⟩
set_option maxHeartbeats 8000000 in
theorem open_none {w : World} {t : Option Addr} (h : Nb w t) (cl : ByteArray) (cn : Bool) : Calls Try.prog 7 #[.pointer t, .string cl, .bool cn] w fun e w' => e = .returned (.tuple #[.int .i64 0, .bool false, .int .i64 8]) ∧ w = w' := by
  have N := Lib.hid (none_yes h)
  clear h
  go_enter Try.func7, Try.ntmps7
  go_wp2_with fail
  refine N.out.mono ?_
  rintro e w1 ⟨rfl, rfl⟩
  go_wp2_with fail
  go_ret3
  exact ⟨rfl, rfl⟩
set_option maxHeartbeats 8000000 in
theorem at_none {w : World} {t : Option Addr} (h : Nb w t) (i : Int) : Calls Try.prog 9 #[.pointer t, .int .i64 i] w fun e w' => e = .returned (.pointer none) ∧ w = w' := by
  have N := Lib.hid (none_yes h)
  clear h
  go_enter Try.func9, Try.ntmps9
  go_wp2_with fail
  refine N.out.mono ?_
  rintro e w1 ⟨rfl, rfl⟩
  go_wp2_with fail
  go_ret
  exact ⟨rfl, rfl⟩
set_option maxHeartbeats 8000000 in
theorem drop_nb {w : World} {t : Option Addr} (h : Nb w t) (i : Int) : Calls Try.prog 10 #[.pointer t, .int .i64 i] w fun e w' => e = .returned (.bool false) ∧ w = w' := by
  have A := Lib.hid (at_none h i)
  clear h
  go_enter Try.func10, Try.ntmps10
  go_wp2_with fail
  refine A.out.mono ?_
  rintro e w1 ⟨rfl, rfl⟩
  go_wp2_with fail
  go_ret
  exact ⟨rfl, rfl⟩
set_option maxRecDepth 100000 in
set_option maxHeartbeats 4000000 in
theorem taken0_stops (n : Nat) (hn : 1 ≤ n) (Bb n₀ : Nat) (t : Option Addr) (w0 w : World) (hP : Nb w0 t) (h00 : w0.heap.size ≤ n₀) (hw0 : Below n₀ w0 w) (hnW : n₀ ≤ w.heap.size) (x0 : Boxed w Bb 22 (.pointer t)) :
    SeqStopsK Fence.wide n Try.prog 42 #[.pointer (some ⟨Bb, 0, none⟩)] (fun x : Nat × Nat => encs x) (KpF n₀ Bb) (fun ys => ys = []) (fun pre => ∃ t, [] = pre ++ t) 0 w :=
  fun l0 J Jx W hW hJ _ hY h0 => by
    have hWW : Below n₀ w0 W := hw0.trans (hW.mono hnW)
    have X0 : Boxed W Bb 22 (.pointer t) := (hW.block _ x0.lt).trans x0
    refine callsIn_of_wp Try.func42 rfl trivial ?_ rfl
    simp only [Try.ntmps42, List.size_toArray, List.length_cons, List.length_nil, Nat.reduceAdd, Nat.reduceSub, Array.replicate_succ, Array.replicate_zero, List.push_toArray, List.append_toArray, List.nil_append, List.cons_append]
    have H0 := Lib.hid h0
    have hf24 : Fence.wide.fn 24 := trivial
    have c00 := X0.cell
    have N := Lib.hid (none_yes (hP.ext (hWW.mono h00)))
    clear hY hJ hP h0 hW
    gi_wp2_with (gi_at_call 24; refine (callsIn_wide.2 N.out).mono ?_; rintro e2 w2 ⟨rfl, rfl⟩)
    refine bodyPost_ret (results_none rfl _ _ _) rfl ?_
    exact ⟨⟨_, rfl⟩, .inl ⟨[], rfl, H0.out⟩⟩
set_option maxHeartbeats 4000000 in
set_option maxRecDepth 100000 in
theorem find0_in (n : Nat) (hn : 3 ≤ n) (t : Option Addr) (cl : ByteArray) (w : World) (hP : Nb w t) : CallsIn Fence.wide n Try.prog 8 #[.pointer t, .string cl] w (FindIs (fun _ => cl) cl [] w) := by
  have hf28 : Fence.wide.fn 28 := trivial
  have hf18 : Fence.wide.fn 18 := trivial
  have h1 : 1 ≤ n := by omega
  refine callsIn_of_wp_marks Try.func8 rfl trivial ?_ rfl
  simp only [Try.ntmps8, List.size_toArray, List.length_cons, List.length_nil, Nat.reduceAdd, Nat.reduceSub, Array.replicate_succ, Array.replicate_zero, List.push_toArray, List.append_toArray, List.nil_append, List.cons_append]
  gi_wp2_with (gi_at_call 28; refine (taken_in _ _ _).mono ?_; rintro e w' ⟨rfl, rfl⟩)
  generalize hW0 : ((((w.alloc _).alloc _).alloc _).alloc _) = W0
  obtain ⟨x0, x1, x2, x3, hsz, hB0⟩ := boxes4 w _ _ _ _ _ _ _ _ W0 hW0.symm
  clear hW0
  refine wpIn_rangeFunc_ownH rfl h1 (gf := 42) (lb := #[.pointer (some ⟨w.heap.size + 1 + 1 + 1, 0, none⟩)]) rfl trivial (enters_of Try.func42 (by kernel_rfl) rfl)
    (taken0_stops (n - 1) (by omega) (w.heap.size + 1 + 1 + 1) w.heap.size t w W0 hP (Nat.le_refl _) hB0 (by omega) x3)
    kpF_t (kpF_b (by omega) (by omega)) (Below.refl _ _) (fun _ => rfl)
    (FiI id (fun _ => ⟨#[]⟩) cl t w) (fun _ _ _ => False)
    (fiI_own _ (by omega)) (fun c => fun _ _ _ _ h _ _ => h)
    ⟨by simp, x0, x1, x2, x3, hB0⟩
    (fun x a' W => True) (fun x a' => fun _ _ _ _ h _ _ => h)
    ?assign ?body ?done ?stop
  case assign =>
    rintro l0 pre x W K ⟨g1, g2, g3, g4, g5, g6⟩ hK
    gi_wp2
    exact hK _ _ (KeepsFrom.refl _ _) ⟨Below.refl _ _, rfl⟩ ⟨g1, g2, g3, g4, g5, g6⟩ trivial
  case body =>
    rintro l0 pre x a' W hl0 hlr _ _ hlen
    exact absurd hlen (by simp)
  case done =>
    rintro D ys W hD rfl ⟨g1, g2, g3, g4, g5, g6⟩ hKD
    have d1 := g3.cell
    have d2 := g4.cell
    have f1 := g3.frozen
    have f2 := g4.frozen
    gi_wp2
    refine finish8 (B := w.heap.size) (i := 0) (b := false) ?_ ((g3.set _).other (by omega) _) ((g4.other (by omega) _).set _) (by omega) ⟨rfl, ?_⟩
    · exact ((KeepsOthers.setCell _ _ _).trans (KeepsOthers.setCell _ _ _)).same D _ hKD rfl
    · exact below_put ((g6.setCell (by simp) _).setCell (by simp; omega) _) (by omega) (((KeepsOthers.setCell _ _ _).trans (KeepsOthers.setCell _ _ _)).same D _ hKD rfl) rfl
  case stop =>
    rintro D c pre W hD h1 h2 hKD
    exact h2.elim
theorem find_nb {w : World} {t : Option Addr} (h : Nb w t) (cl : ByteArray) : Calls Try.prog 8 #[.pointer t, .string cl] w fun e w' => e = .returned (.tuple #[.int .i64 0, .bool false]) ∧ Below w.heap.size w w' :=
  callsIn_wide.1 (find0_in 3 (Nat.le_refl _) t cl w h)
set_option maxHeartbeats 4000000 in
set_option maxRecDepth 100000 in
theorem all0_in (n : Nat) (hn : 3 ≤ n) (t : Option Addr) (w : World) (hP : Nb w t) : CallsIn Fence.wide n Try.prog 11 #[.pointer t] w (AllIs [] w) := by
  have hf28 : Fence.wide.fn 28 := trivial
  have h1 : 1 ≤ n := by omega
  refine callsIn_of_wp_marks Try.func11 rfl trivial ?_ rfl
  simp only [Try.ntmps11, List.size_toArray, List.length_cons, List.length_nil, Nat.reduceAdd, Nat.reduceSub, Array.replicate_succ, Array.replicate_zero, List.push_toArray, List.append_toArray, List.nil_append, List.cons_append]
  gi_wp2_with (gi_at_call 28; refine (taken_in _ _ _).mono ?_; rintro e w' ⟨rfl, rfl⟩)
  have x0 : Boxed ((w.alloc (.cells #[.slice none 0 0] 36)).alloc (.cells #[.pointer t] 22)) w.heap.size 36 (.slice none 0 0) := (Boxed.new w 36 _).alloc _
  have x3 : Boxed ((w.alloc (.cells #[.slice none 0 0] 36)).alloc (.cells #[.pointer t] 22)) (w.heap.size + 1) 22 (.pointer t) := by
    have := Boxed.new (w.alloc (.cells #[.slice none 0 0] 36)) 22 (.pointer t); simpa using this
  have hB0 : Below w.heap.size w ((w.alloc (.cells #[.slice none 0 0] 36)).alloc (.cells #[.pointer t] 22)) := ext_two w _ _
  have hsz : ((w.alloc (.cells #[.slice none 0 0] 36)).alloc (.cells #[.pointer t] 22)).heap.size = w.heap.size + 2 := by simp
  generalize ((w.alloc (.cells #[.slice none 0 0] 36)).alloc (.cells #[.pointer t] 22)) = W0 at *
  refine wpIn_rangeFunc_ownH rfl h1 (gf := 42) (lb := #[.pointer (some ⟨w.heap.size + 1, 0, none⟩)]) rfl trivial (enters_of Try.func42 (by kernel_rfl) rfl)
    (taken0_stops (n - 1) (by omega) (w.heap.size + 1) w.heap.size t w W0 hP (Nat.le_refl _) hB0 (by omega) x3)
    kpF_t (kpF_b (by omega) (by omega)) (Below.refl _ _) (fun _ => rfl)
    (AlI t w) (fun _ _ _ => False)
    (alI_own _ (by omega)) (fun c => fun _ _ _ _ h _ _ => h)
    ⟨by simp, ⟨_, x0, World.ownsRow_nil _ _ _ _, trivial⟩, x3, hB0⟩
    (fun x a' W => True) (fun x a' => fun _ _ _ _ h _ _ => h)
    ?assign ?body ?done ?stop
  case assign =>
    rintro l0 pre x W K ⟨g1, g2, g5, g6⟩ hK
    gi_wp2
    exact hK _ _ (KeepsFrom.refl _ _) ⟨Below.refl _ _, rfl⟩ ⟨g1, g2, g5, g6⟩ trivial
  case body =>
    rintro l0 pre x a' W hl0 hlr _ _ hlen
    exact absurd hlen (by simp)
  case done =>
    rintro D ys W hD rfl ⟨g1, ⟨v, hv, hr, -⟩, g5, g6⟩ hKD
    have c1 := hv.cell
    gi_wp2
    refine ⟨by simp, .inl ⟨_, _, rfl, run_takeDeferred hKD, ?_⟩⟩
    refine ⟨v, ?_, ⟨v, rfl, ownsRow_putObj hr _ hKD rfl, below_put g6 (by omega) hKD rfl⟩⟩
    simp [results, Try.f11, go_sem]
  case stop =>
    rintro D c pre W hD h1 h2 hKD
    exact h2.elim
theorem all_nb {w : World} {t : Option Addr} (h : Nb w t) : Calls Try.prog 11 #[.pointer t] w (AllIs [] w) :=
  callsIn_wide.1 (all0_in 3 (Nat.le_refl _) t w h)
set_option maxHeartbeats 8000000 in
theorem len_nb {w : World} {t : Option Addr} (h : Nb w t) : Calls Try.prog 12 #[.pointer t] w fun e w' => e = .returned (.int .i64 0) ∧ Below w.heap.size w w' := by
  have A := Lib.hid (all_nb h)
  clear h
  go_enter Try.func12, Try.ntmps12
  go_wp2_with fail
  refine A.out.mono ?_
  rintro e w1 ⟨v, rfl, o1, b1⟩
  obtain ⟨va, vc, rfl⟩ := own_slice o1
  replace b1 := Lib.hid b1
  clear o1 A
  go_wp2_with fail
  go_ret
  exact ⟨rfl, b1.out⟩
variable {w w' : World} {t : Nat} {P : List (Option Nat)}
set_option maxHeartbeats 8000000 in
/-- No place is free. -/
theorem open_full (h : Sp w t P) (cl : ByteArray) (cn : Bool) (nm : Nat → ByteArray) (hN : ∀ x ∈ tkS P 0, ∃ p g cn, Sn w x.2 p g (nm x.2) cn) (hs : cl.size ≤ 32) (hne : cl.toList.isEmpty = false) (hr : rightB cl = true)
    (hf : fnd nm cl (tkS P 0) = (0, false)) (hi : fr P 0 = none) :
    Calls Try.prog 7 #[.pointer (some ⟨t, 0, none⟩), .string cl, .bool cn] w fun e w' => e = .returned (.tuple #[.int .i64 0, .bool false, .int .i64 6]) ∧ Below w.heap.size w w' := by
  have N := Lib.hid (none_no h)
  have B := Lib.hid (new_ok cl cn w hs hne hr)
  have F : Hid (∀ W, Below w.heap.size w W → Calls Try.prog 8 #[.pointer (some ⟨t, 0, none⟩), .string cl] W fun e w' => e = .returned (.tuple #[.int .i64 0, .bool false]) ∧ Below W.heap.size W w') := Lib.hid fun W hb => (find_any t P cl W (h.ext hb) nm (fun x hx => by obtain ⟨p, g, cn, hS⟩ := hN x hx; exact ⟨p, g, cn, hS.ext hb⟩)).mono (fun e w' he => by obtain ⟨h1, h2⟩ := he; rw [hf] at h1; exact ⟨h1, h2⟩)
  have A : Hid (∀ W, Below w.heap.size w W → Calls Try.prog 26 #[.pointer (some ⟨t, 0, none⟩)] W fun e w' => e = .returned (.tuple #[.int .i64 0, .int .i64 6]) ∧ W = w') := Lib.hid fun W hb => (free_any (h.ext hb)).mono (fun e w' he => by rw [hi] at he; exact he)
  clear h hN hf hi hr hs hne
  go_enter Try.func7, Try.ntmps7
  go_wp2_with fail
  refine N.out.mono ?_
  rintro e w1 ⟨rfl, rfl⟩
  go_wp2_with fail
  refine B.out.mono ?_
  rintro e w1 ⟨s1, p1, g1, c1, rfl, n1, q1, b1, z1, z2, z3, z4⟩
  have FF := Lib.hid (F.out _ b1)
  replace b1 := Lib.hid b1
  clear B F n1 q1
  go_wp2_with fail
  refine FF.out.mono ?_
  rintro e w2 ⟨rfl, b2⟩
  have b12 := Lib.hid (b1.out.trans (b2.mono b1.out.size))
  have AA := Lib.hid (A.out _ b12.out)
  clear FF b2 b1 A
  go_wp2_with fail
  refine AA.out.mono ?_
  rintro e w3 ⟨rfl, rfl⟩
  go_wp2_with fail
  go_ret3
  exact ⟨rfl, b12.out⟩
end Go.Proofs.Ytdcfenkllpfbaaa.Sns
