/-
  LAYER 28: All.
-/
import Derived.Test.YtdcfenkllpfbaaaBh
namespace Go.Proofs.Ytdcfenkllpfbaaa.Sns
set_option linter.unusedVariables false
set_option linter.unusedSimpArgs false
open Go.Proofs.Ytdcfenkllpfbaaa
open Go.RowKit Go.Shelf Que
attribute [local go_sem] Oper.semAt_some
def slS (l : List (Nat × Nat)) : List Value := l.map fun x => .int .i64 (x.1 : Int)
def AlI (t : Option Addr) (w : World) (pre : List (Nat × Nat)) (W : World) : Prop :=
  pre.length ≤ 8 ∧ (∃ v, Boxed W w.heap.size 36 v ∧ W.ownsRow w.heap.size 3 1 v pre.length (slS pre) ∧ True) ∧ Boxed W (w.heap.size + 1) 22 (.pointer t) ∧ Below w.heap.size w W
theorem alI_own {t : Option Addr} {w : World} (B : Nat) (hB : w.heap.size ≤ B) : OwnFrom B (AlI t w) := by
  rintro s A C row ⟨h1, ⟨v, hv, hr, -⟩, h5, h6⟩ hg hrow
  have hrow' : ∀ r, row = some r → ∃ o : Obj, A.heap[r]? = some o ∧ o.isCells = false := fun r e => (hrow r e).2
  exact ⟨h1, holdsRow_own (β := Unit) w.heap.size w.heap.size 36 3 1 (fun _ => s.length) (fun _ => slS s) (fun _ _ => True) () A C row ⟨v, hv, hr, trivial⟩ hg hrow', boxed_keep h5 hg hrow', h6.grown hg h6.size (fun k e => Nat.le_trans hB (hrow k e).1)⟩
def alA (t B : Nat) (x : Nat × Nat) : Act :=
  { tmps := #[.pointer (some ⟨t, 0, none⟩), undef, .slice none 0 0, .pointer (some ⟨B, 0, none⟩), .int .i64 (x.1 : Int), .pointer (some ⟨t, 0, none⟩), .func (.func 42) #[] #[.pointer (some ⟨B + 1, 0, none⟩)], .int .i64 (x.1 : Int), .pointer (some ⟨x.2, 0, none⟩), undef, undef, undef, undef, undef], defers := [] }
def AllIs (S : List (Nat × Nat)) (w : World) (e : Ending) (w' : World) : Prop :=
  ∃ v, e = .returned v ∧ w'.ownsRow w.heap.size 3 1 v S.length (slS S) ∧ Below w.heap.size w w'
theorem tkS_len : ∀ (P : List (Option Nat)) (n : Nat), (tkS P n).length ≤ P.length
  | [], _ => by simp [tkS]
  | none :: P, n => by have := tkS_len P (n + 1); simp [tkS]; omega
  | some s :: P, n => by have := tkS_len P (n + 1); simp [tkS]; omega
set_option maxHeartbeats 4000000 in
set_option maxRecDepth 100000 in
theorem allS_in (n : Nat) (hn : 3 ≤ n) (t : Nat) (P : List (Option Nat)) (w : World) (hP : Sp w t P) : CallsIn Fence.wide n Try.prog 11 #[.pointer (some ⟨t, 0, none⟩)] w (AllIs (tkS P 0) w) := by
  have hf28 : Fence.wide.fn 28 := trivial
  have h1 : 1 ≤ n := by omega
  have hle : (tkS P 0).length ≤ 8 := by have := tkS_len P 0; rw [hP.len] at this; exact this
  obtain ⟨i0, hi, hz0, hz1, hz2⟩ := info_parts info3
  refine callsIn_of_wp_marks Try.func11 rfl trivial ?_ rfl
  simp only [Try.ntmps11, List.size_toArray, List.length_cons, List.length_nil, Nat.reduceAdd, Nat.reduceSub, Array.replicate_succ, Array.replicate_zero, List.push_toArray, List.append_toArray, List.nil_append, List.cons_append]
  gi_wp2_with (gi_at_call 28; refine (taken_in _ _ _).mono ?_; rintro e w' ⟨rfl, rfl⟩)
  have x0 : Boxed ((w.alloc (.cells #[.slice none 0 0] 36)).alloc (.cells #[.pointer (some ⟨t, 0, none⟩)] 22)) w.heap.size 36 (.slice none 0 0) := (Boxed.new w 36 _).alloc _
  have x3 : Boxed ((w.alloc (.cells #[.slice none 0 0] 36)).alloc (.cells #[.pointer (some ⟨t, 0, none⟩)] 22)) (w.heap.size + 1) 22 (.pointer (some ⟨t, 0, none⟩)) := by
    have := Boxed.new (w.alloc (.cells #[.slice none 0 0] 36)) 22 (.pointer (some ⟨t, 0, none⟩)); simpa using this
  have hB0 : Below w.heap.size w ((w.alloc (.cells #[.slice none 0 0] 36)).alloc (.cells #[.pointer (some ⟨t, 0, none⟩)] 22)) := ext_two w _ _
  have hsz : ((w.alloc (.cells #[.slice none 0 0] 36)).alloc (.cells #[.pointer (some ⟨t, 0, none⟩)] 22)).heap.size = w.heap.size + 2 := by simp
  generalize ((w.alloc (.cells #[.slice none 0 0] 36)).alloc (.cells #[.pointer (some ⟨t, 0, none⟩)] 22)) = W0 at *
  refine wpIn_rangeFunc_ownH rfl h1 (gf := 42) (lb := #[.pointer (some ⟨w.heap.size + 1, 0, none⟩)]) rfl trivial (enters_of Try.func42 (by kernel_rfl) rfl)
    (taken_stops (α := Nat × Nat) id (tkS P 0) (n - 1) (by omega) (w.heap.size + 1) w.heap.size t P (List.map_id _) w W0 hP (Nat.le_refl _) hB0 (by omega) x3)
    kpF_t (kpF_b (by omega) (by omega)) (Below.refl _ _) (fun _ => rfl)
    (AlI (some ⟨t, 0, none⟩) w) (fun _ _ _ => False)
    (alI_own _ (by omega)) (fun c => fun _ _ _ _ h _ _ => h)
    ⟨by simp, ⟨_, x0, World.ownsRow_nil _ _ _ _, trivial⟩, x3, hB0⟩
    (fun x a' W => a' = alA t w.heap.size x) (fun x a' => fun _ _ _ _ h _ _ => h)
    ?assign ?body ?done ?stop
  case assign =>
    rintro l0 pre x W K ⟨g1, g2, g5, g6⟩ hK
    gi_wp2
    exact hK _ _ (KeepsFrom.refl _ _) ⟨Below.refl _ _, rfl⟩ ⟨g1, g2, g5, g6⟩ rfl
  case body =>
    rintro l0 pre x a' W hl0 hlr ⟨g1, ⟨v, hv, hr, -⟩, g5, g6⟩ rfl hlen
    unfold alA
    have hl7 : w.heap.size ≤ W.heap.size := g6.size
    have c1 := hv.cell
    have f1 := hv.frozen
    have hp8 : pre.length < 8 := by have : pre.length < (tkS P 0).length := hlen; omega
    obtain ⟨va, vc, rfl⟩ := own_slice hr
    have hcell : ∀ j u, ([.int .i64 (x.1 : Int)] : List Value)[j]? = some u → (W.alloc (.cells #[.int .i64 (x.1 : Int)] 3)).cell? ((⟨W.heap.size, 0, none⟩ : Addr).add j) = some u := by
      intro j u hj
      rw [add_off', Nat.zero_add, cell_of_row _ _ j _ 3 (0, 0) (heap_alloc_new W _)]
      simpa using hj
    replace g6 := Lib.hid g6
    replace g5 := Lib.hid g5
    replace hv := Lib.hid hv
    replace hr := Lib.hid hr
    replace hcell := Lib.hid hcell
    replace hi := Lib.hid hi
    replace hz0 := Lib.hid hz0
    replace hz1 := Lib.hid hz1
    replace hz2 := Lib.hid hz2
    clear hlr hlen
    gi_wp2_with (gi_at_builtin; (refine wpListIn_append_own_at _ rfl (.tmp 9) (.tmp 11) 36 rfl w.heap.size 3 i0 _ 1 8 Try.underlying36 hi.out hz0.out hz1.out hz2.out rfl (by decide) (.slice va pre.length vc) pre.length _ rfl (hr.out.alloc _) ⟨W.heap.size, 0, none⟩ 1 1 [.int .i64 (x.1 : Int)] rfl rfl hcell.out (by intro u hu; simp at hu; subst hu; rfl) (by unfold maxLen; omega) (by omega) (by simp; omega) ?_); intro v4 w4 o4 gr4 n4 nb4; clear n4 nb4; obtain ⟨q1, q2, q3, q4, q5⟩ := Boxed.appended hv.out (by decide) hr.out hl7 (by omega) o4 gr4; obtain ⟨vg, vc4, rfl⟩ := ownsRow_succ o4; have c4 := q1.cell; have f4 := q1.frozen; replace q2 := Lib.hid q2; replace q3 := Lib.hid q3; replace q4 := Lib.hid q4; replace q5 := Lib.hid q5; have GR := Lib.hid gr4; replace o4 := Lib.hid o4; clear gr4 q1 c1 f1)
    have hlen2 : (pre ++ [x]).length = pre.length + 1 := by simp
    have hk := ((g5.out.alloc (.cells #[.int .i64 (x.1 : Int)] 3)).kept GR.out (g5.out.not_row (by decide) hr.out)).other (show w.heap.size + 1 ≠ w.heap.size by omega) (.slice (some ⟨vg, 0, none⟩) (pre.length + 1) vc4)
    refine ⟨q4.out.from _, ⟨q5.out, (show _ = _ from hk).trans (show _ = _ from g5.out).symm⟩, ?_, ⟨_, q2.out, ?_, trivial⟩, hk, g6.out.trans q5.out⟩
    · rw [hlen2]; omega
    · rw [hlen2]
      have := q3.out
      simpa [slS] using this
  case done =>
    rintro D ys W hD rfl ⟨g1, ⟨v, hv, hr, -⟩, g5, g6⟩ hKD
    have c1 := hv.cell
    gi_wp2
    refine ⟨by simp, .inl ⟨_, _, rfl, run_takeDeferred hKD, ?_⟩⟩
    refine ⟨v, ?_, ⟨v, rfl, ownsRow_putObj hr _ hKD rfl, below_put g6 (by omega) hKD rfl⟩⟩
    simp [results, Try.f11, go_sem]
  case stop =>
    rintro D c pre W hD h1 h2 hKD
    exact h2.elim
theorem allS_any (t : Nat) (P : List (Option Nat)) (w : World) (hP : Sp w t P) : Calls Try.prog 11 #[.pointer (some ⟨t, 0, none⟩)] w (AllIs (tkS P 0) w) :=
  callsIn_wide.1 (allS_in 3 (Nat.le_refl _) t P w hP)
set_option maxHeartbeats 8000000 in
theorem lenS_any (t : Nat) (P : List (Option Nat)) (w : World) (hP : Sp w t P) : Calls Try.prog 12 #[.pointer (some ⟨t, 0, none⟩)] w fun e w' => e = .returned (.int .i64 ((tkS P 0).length : Int)) ∧ Below w.heap.size w w' := by
  have A := Lib.hid (allS_any t P w hP)
  have hle : (tkS P 0).length ≤ 8 := by have := tkS_len P 0; rw [hP.len] at this; exact this
  clear hP
  go_enter Try.func12, Try.ntmps12
  go_wp2_with fail
  refine A.out.mono ?_
  rintro e w1 ⟨v, rfl, o1, b1⟩
  obtain ⟨va, vc, rfl⟩ := own_slice o1
  replace b1 := Lib.hid b1
  clear o1 A
  go_wp2_with fail
  go_ret
  exact ⟨rfl, b1.out⟩
end Go.Proofs.Ytdcfenkllpfbaaa.Sns
