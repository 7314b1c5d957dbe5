/-
  WireJoins: FOR EVERY INPUT the law returns true and leaves its arguments as they were.
-/
import Derived.Test.YtgegphmfdcninaaWr
import Derived.Test.YtgegphmfdcninaaRows
import Derived.WalkKit
import Derived.ProofKit
import Derived.OpenShut
import Derived.ShutString
import Derived.ChangeOld
import Derived.Below
import Derived.SizedLaws
import Derived.Lib.SmallJoins
namespace Go.Proofs.Ytgegphmfdcninaa.wireJoins
open Go.ChangeShapes Go.WideShapes Go.ChangeAt Go.RowKit
open Go.ChangeMaps (open_string shut_string)
set_option linter.unusedVariables false

theorem own : ownKnob Try.prog.godebug = none := by kernel_rfl
theorem laidOut : laidOutB Try.prog = true := by kernel_rfl

set_option maxHeartbeats 4000000 in
set_option maxRecDepth 100000 in
theorem walk (a0 : Option Addr) (len0 cap0 : Nat) (zs0 : List Int) (a1 : Option Addr) (len1 cap1 : Nat) (zs1 : List Int) (w : World) (hr0 : IsRow .u8 w a0 len0 cap0 zs0) (hs0 : cap0 * 1 ≤ 140737488351232) (hr1 : IsRow .u8 w a1 len1 cap1 zs1) (hs1 : cap1 * 1 ≤ 140737488351232) :
    Calls Try.prog 7 #[.slice a0 len0 cap0, .slice a1 len1 cap1] w (Yes w) := by
  obtain ⟨i0, hi, hz0, hz1, hz2⟩ := info_parts Try.info5
  replace hi := Lib.hid hi
  replace hz0 := Lib.hid hz0
  replace hz1 := Lib.hid hz1
  replace hz2 := Lib.hid hz2
  obtain ⟨j0, hj, hy0, hy1, hy2⟩ := info_parts Try.info39
  replace hj := Lib.hid hj
  replace hy0 := Lib.hid hy0
  replace hy1 := Lib.hid hy1
  replace hy2 := Lib.hid hy2
  obtain ⟨l1, rfl, hS1, hlt1, hll1⟩ : ∃ l : List Nat, l.length = len0 ∧ Src w (.slice a0 len0 cap0) l ∧ (∀ x ∈ l, x < 256) ∧ l.length ≤ 140737488351232 := by
    obtain ⟨h1, h2, h3⟩ := hr0.bytes
    exact ⟨_, h2, Src.of_row hr0, h3, by have := hr0.len_le; omega⟩
  obtain ⟨l2, rfl, hS2, hlt2, hll2⟩ : ∃ l : List Nat, l.length = len1 ∧ Src w (.slice a1 len1 cap1) l ∧ (∀ x ∈ l, x < 256) ∧ l.length ≤ 140737488351232 := by
    obtain ⟨h1, h2, h3⟩ := hr1.bytes
    exact ⟨_, h2, Src.of_row hr1, h3, by have := hr1.len_le; omega⟩
  clear hr0 hr1 hs0 hs1
  have P := Lib.hid (of_any _ l1 w hS1 hlt1 (by omega))
  have R := Lib.hid fun w' (hb : Below w.heap.size w w') => of_any _ l2 w' (hS2.keep hb (Nat.le_refl _)) hlt2 (by omega)
  have hX1 : ∃ X, X = ofR l1 := ⟨_, rfl⟩
  have hX2 : ∃ X, X = ofR l2 := ⟨_, rfl⟩
  obtain ⟨⟨f1, E1⟩, hX1⟩ := hX1
  obtain ⟨⟨f2, E2⟩, hX2⟩ := hX2
  have hn1 : f1.length ≤ 256 := by have := ofR_le l1; rw [← hX1] at this; exact this
  have hn2 : f2.length ≤ 256 := by have := ofR_le l2; rw [← hX2] at this; exact this
  rw [← hX1] at P
  rw [← hX2] at R
  replace hS1 := Lib.hid hS1
  replace hS2 := Lib.hid hS2
  replace hX1 := Lib.hid hX1
  replace hX2 := Lib.hid hX2
  have hll1' : (l1.length : Int) ≤ 140737488351232 := by omega
  have hll2' : (l2.length : Int) ≤ 140737488351232 := by omega
  replace hlt1 := Lib.hid hlt1
  replace hlt2 := Lib.hid hlt2
  go_enter Try.func7, Try.ntmps7
  go_wp2_with fail
  refine (P.out).mono ?_
  rintro e w1 ⟨v1, rfl, s1, b1⟩
  replace s1 := Lib.hid s1
  obtain ⟨p1, c1, rfl, -⟩ := s1.out
  replace b1 := Lib.hid b1
  go_wp2_with fail
  refine (R.out _ b1.out).mono ?_
  rintro e w2 ⟨v2, rfl, s2, b2⟩
  have s1' := Lib.hid (s1.out.keep b2 (Nat.le_refl _))
  replace s2 := Lib.hid s2
  obtain ⟨p2, c2, rfl, -⟩ := s2.out
  have B2 := Lib.hid (ext_trans b1.out b2)
  clear b2 s1 P R
  have hn1' : (f1.length : Int) ≤ 256 := by omega
  have hn2' : (f2.length : Int) ≤ 256 := by omega
  by_cases hg : E1 = 0 ∧ E2 = 0 ∧ l1.length + l2.length ≤ 4096 ∧ f1.length + f2.length ≤ 256
  · obtain ⟨rfl, rfl, h4, h6⟩ := hg
    have h4' : (l1.length : Int) + l2.length ≤ 4096 := by omega
    have h6' : (f1.length : Int) + f2.length ≤ 256 := by omega
    have X := of_two l1 l2 f1 f2 hlt1.out hlt2.out hX1.out.symm hX2.out.symm h4 h6
    have hlt : ∀ x ∈ l1 ++ l2, x < 256 := fun x hx => (List.mem_append.1 hx).elim (hlt1.out x) (hlt2.out x)
    replace X := Lib.hid X
    replace hlt := Lib.hid hlt
    have own0 : (w2.alloc (.cells #[] 5)).ownsRow w2.heap.size 5 1 (.slice (some ⟨w2.heap.size, 0, none⟩) 0 0) ([] : List Nat).length (bl []) := World.ownsRow_lit w2 #[] 0 (Nat.le_refl _) (by unfold maxLen; omega) rfl
    have hA := ((hS1.out.keep B2.out (Nat.le_refl _)).keep (ext_alloc w2 (.cells #[] 5)) (Nat.le_refl _)).bytes
    have hB := Lib.hid ((hS2.out.keep B2.out (Nat.le_refl _)).bytes)
    have hq : ([] : List Nat).length + l1.length ≤ 140737488355328 := by simp; omega
    have hq2 : l1.length + l2.length ≤ 140737488355328 := by omega
    have z2 : w2.heap.size ≤ (w2.alloc (.cells #[] 5)).heap.size := by simp
    have F0 := Lib.hid (ext_alloc w2 (.cells #[] 5))
    go_wp2_with (first
      | (at_builtin; (refine wpList_append_bytes _ rfl (.tmp 45) (.tmp 46) 23 rfl w2.heap.size 5 i0 Try.underlying23 hi.out hz0.out hz1.out hz2.out _ [] l1 rfl own0 hA hq z2 ?_); intro v3 w3 o3 g3 n3; clear n3; rw [List.nil_append] at o3; have g4 := grown_ext own0 g3 z2; have F3 := Lib.hid (F0.out.trans g4); have hB3 := hB.out.keep F3.out (Nat.le_refl _); have z3 : w2.heap.size ≤ w3.heap.size := F3.out.size; clear own0 hA g3 g4)
      | (at_builtin; (refine wpList_append_bytes _ rfl (.tmp 47) (.tmp 48) 23 rfl w2.heap.size 5 i0 Try.underlying23 hi.out hz0.out hz1.out hz2.out v3 l1 l2 rfl o3 hB3 hq2 z3 ?_); intro v4 w4 o4 g4 n4; clear n4; have F4 := Lib.hid (F3.out.trans (grown_ext o3 g4 z3)); clear o3 hB3 g4))
    have hl12 : (l1 ++ l2).length ≤ 140737488355328 := by rw [List.length_append]; omega
    refine (of_any v4 (l1 ++ l2) w4 (Src.of_own o4) hlt.out hl12).mono ?_
    rw [X.out]
    obtain ⟨f3, hf3⟩ : ∃ f3, f3 = f1 ++ f2 := ⟨_, rfl⟩
    rw [← hf3]
    have hf3l : (f3.length : Int) ≤ 256 := by rw [hf3, List.length_append]; omega
    have hf3n : f3.length ≤ 256 := by omega
    replace hf3 := Lib.hid hf3
    rintro e w5 ⟨v5, rfl, s5, b5⟩
    have F5 := Lib.hid (F4.out.trans (b5.mono F4.out.size))
    clear o4 b5
    replace s5 := Lib.hid s5
    obtain ⟨p5, c5, rfl, -⟩ := s5.out
    have own5 : (w5.alloc (.cells #[] 39)).ownsRow w5.heap.size 39 4 (.slice (some ⟨w5.heap.size, 0, none⟩) 0 0) ([] : List Fd).length (fcs []) := World.ownsRow_lit w5 #[] 0 (Nat.le_refl _) (by unfold maxLen; omega) rfl
    have hA5 := (s1'.out.keep F5.out (Nat.le_refl _)).keep (ext_alloc w5 (.cells #[] 39)) (Nat.le_refl _)
    have hB5 := Lib.hid (s2.out.keep F5.out (Nat.le_refl _))
    have y1 : ([] : List Fd).length + f1.length ≤ 1000000 := by simp; omega
    have y2 : f1.length + f2.length ≤ 1000000 := by omega
    have z5 : w5.heap.size ≤ (w5.alloc (.cells #[] 39)).heap.size := by simp
    have G0 := Lib.hid (ext_alloc w5 (.cells #[] 39))
    go_wp2_with (first
      | (at_builtin; (refine wpList_struck (by rfl) ?_); (refine wpList_append_fds _ rfl (.tmp 57) (.tmp 58) 22 rfl w5.heap.size 39 j0 _ Try.underlying22 hj.out hy0.out rfl hy1.out hy2.out _ [] f1 rfl own5 hA5 y1 z5 ?_); intro v6 w6 o6 g6; rw [List.nil_append] at o6; have g7 := fgrown_ext own5 g6 z5; have G6 := Lib.hid (G0.out.trans g7); have hB6 := hB5.out.keep G6.out (Nat.le_refl _); have z6 : w5.heap.size ≤ w6.heap.size := G6.out.size; clear own5 hA5 g6 g7)
      | (at_builtin; (refine wpList_struck (by rfl) ?_); (refine wpList_append_fds _ rfl (.tmp 59) (.tmp 60) 22 rfl w5.heap.size 39 j0 _ Try.underlying22 hj.out hy0.out rfl hy1.out hy2.out v6 f1 f2 rfl o6 hB6 y2 z6 ?_); intro v7 w7 o7 g7; rw [← hf3.out] at o7; have G7 := Lib.hid (G6.out.trans (fgrown_ext o6 g7 z6)); clear o6 hB6 g7))
    refine (same_eq _ _ f3 w7 (s5.out.keep G7.out (Nat.le_refl _)) (FdsAt.of_own o7 (by omega))).mono ?_
    rintro e w8 ⟨rfl, b8⟩
    have B8 := Lib.hid (((B2.out.trans (F5.out.mono B2.out.size)).trans (G7.out.mono (Nat.le_trans B2.out.size F5.out.size))).trans (b8.mono (Nat.le_trans (Nat.le_trans B2.out.size F5.out.size) G7.out.size)))
    clear b8 o7
    go_wp2_with fail
    refine (awake_any _).mono ?_
    rintro e w9 ⟨rfl, b9⟩
    go_wp2_with fail
    go_ret
    exact ⟨rfl, ext_trans B8.out b9⟩
  · have hbad : (E1 ≠ 0) ∨ (E1 = 0 ∧ E2 ≠ 0) ∨ (E1 = 0 ∧ E2 = 0 ∧ 4096 < l1.length + l2.length) ∨ (E1 = 0 ∧ E2 = 0 ∧ l1.length + l2.length ≤ 4096 ∧ 256 < f1.length + f2.length) := by omega
    replace hg := Lib.hid hg
    rcases hbad with h | ⟨rfl, h⟩ | ⟨rfl, rfl, h⟩ | ⟨rfl, rfl, h, h'⟩
    · have d1 : ((E1 : Int) != 0) = true := by simpa using h
      replace h := Lib.hid h
      go_wp2_with fail
      refine (awake_any _).mono ?_
      rintro e w3 ⟨rfl, b3⟩
      go_wp2_with fail
      go_ret
      exact ⟨rfl, ext_trans B2.out b3⟩
    · have d1 : ((E2 : Int) != 0) = true := by simpa using h
      replace h := Lib.hid h
      go_wp2_with fail
      refine (awake_any _).mono ?_
      rintro e w3 ⟨rfl, b3⟩
      go_wp2_with fail
      go_ret
      exact ⟨rfl, ext_trans B2.out b3⟩
    · have d1 : (4096 : Int) < (l1.length : Int) + (l2.length : Int) := by omega
      replace h := Lib.hid h
      go_wp2_with fail
      refine (awake_any _).mono ?_
      rintro e w3 ⟨rfl, b3⟩
      go_wp2_with fail
      go_ret
      exact ⟨rfl, ext_trans B2.out b3⟩
    · have d1 : (l1.length : Int) + (l2.length : Int) ≤ 4096 := by omega
      have d2 : (256 : Int) < (f1.length : Int) + (f2.length : Int) := by omega
      replace h := Lib.hid h
      replace h' := Lib.hid h'
      go_wp2_with fail
      refine (awake_any _).mono ?_
      rintro e w3 ⟨rfl, b3⟩
      go_wp2_with fail
      go_ret
      exact ⟨rfl, ext_trans B2.out b3⟩

set_option maxRecDepth 100000 in
theorem lifted (os : Os) (started : os.Started) (H : Type) (enc : TypeId × Value → H) :
    ReturnsInHanded {} Try.checked os 7 .any (Rows.wireJoinsSpec.pre6 enc Try.prog Try.f7 Rows.wireJoinsRow.domain false) (Rows.wireJoinsSpec.post enc Try.prog Try.f7 false true false false) := by
  refine returnsInHanded_of_change_sized (C := Try.checked) own started (by kernel_rfl) Try.func7
    (ChangeSpec.witness6 (enc := enc) (C := Try.checked) false ⟨#[], #[.slice none 0 0, .slice none 0 0], []⟩ 8 (by kernel_rfl) (by kernel_rfl) (by kernel_rfl) (by kernel_rfl)) ?_
  intro W base args ds gs before hval0 hW hcnd hsz0 _
  have hsz : (DataW.weightsEach Try.prog (Try.f7.params.toList ++ Rows.wireJoinsSpec.plain.varTypes Try.prog) (ds ++ gs)).all (· ≤ reachBytes) = true := hsz0
  have hval : ∀ (j : Nat) t v, Try.f7.params[j]? = some t → args[j]? = some v → Value.okWide Try.prog W .any base t v := hval0
  have hW' := hW
  obtain ⟨p, q, hA0, hV, rfl, hfz, hnd⟩ := hW
  have hA : DataW.TrodAll enc Try.prog W 0 (fun _ => true) true Try.f7.params.toList args.toList ds p := hA0
  rw [Try.params7] at hA hval hsz
  obtain ⟨v0, vs0, d0, ds0, p0, q0, hargs, rfl, rfl, h0, r0⟩ := trodAll_cons hA
  obtain ⟨v1, vs1, d1, ds1, p1, q1, rfl, rfl, rfl, h1, r1⟩ := trodAll_cons r0
  obtain ⟨rfl, rfl, rfl⟩ := trodAll_nil r1
  obtain rfl : args = #[v0, v1] := by cases args; simp_all
  obtain ⟨rfl, rfl⟩ := trodVars_none hV
  have k0 := h0
  have lt0 : ∀ x ∈ p0, x.block < W.heap.size := by obtain ⟨m, hm⟩ := k0; exact DataW.trod_lt m _ _ _ hm
  have k1 := h1
  have lt1 : ∀ x ∈ p1, x.block < W.heap.size := by obtain ⟨m, hm⟩ := k1; exact DataW.trod_lt m _ _ _ hm
  obtain ⟨a0, len0, cap0, rfl⟩ := okWide_slice Try.underlying23 (hval 0 23 v0 rfl rfl)
  obtain ⟨z0, w0, s0⟩ : ∃ zs, IsRow .u8 W a0 len0 cap0 zs ∧ cap0 * 1 ≤ 140737488351232 := by
    obtain ⟨fuel, hf⟩ := h0
    rcases open_ints Try.underlying23 Try.underlying5 (by kernel_rfl) hf with ⟨hcs, _⟩ | ⟨x, l, c, zs, hcs, _, hl, hm, hz, hx, hcell, hwz⟩
    · simp [Value.cells] at hcs
      obtain ⟨rfl, rfl, rfl⟩ := hcs
      exact ⟨[], .inl ⟨rfl, rfl, rfl, rfl⟩, by omega⟩
    · simp [Value.cells] at hcs
      obtain ⟨rfl, rfl, rfl⟩ := hcs
      have hz' : zs.length = cap0 := by simpa using hz
      have hd : d0 = .slice (lits .u8 (zs.take len0)) (lits .u8 (zs.drop len0)) := congrArg Prod.fst hx
      have hroom := sized_slice hsz (j := 0) (t := 23) (e := 5) rfl (by rw [hd]; rfl) Try.underlying23
      rw [show Try.prog.bytesOf 5 = 1 from by kernel_rfl] at hroom
      simp only [lits, List.length_map, List.length_take, List.length_drop, reachBytes] at hroom
      exact ⟨zs, .inr ⟨_, rfl, hl, hm, hz', hcell, hwz⟩, by omega⟩
  obtain ⟨a1, len1, cap1, rfl⟩ := okWide_slice Try.underlying23 (hval 1 23 v1 rfl rfl)
  obtain ⟨z1, w1, s1⟩ : ∃ zs, IsRow .u8 W a1 len1 cap1 zs ∧ cap1 * 1 ≤ 140737488351232 := by
    obtain ⟨fuel, hf⟩ := h1
    rcases open_ints Try.underlying23 Try.underlying5 (by kernel_rfl) hf with ⟨hcs, _⟩ | ⟨x, l, c, zs, hcs, _, hl, hm, hz, hx, hcell, hwz⟩
    · simp [Value.cells] at hcs
      obtain ⟨rfl, rfl, rfl⟩ := hcs
      exact ⟨[], .inl ⟨rfl, rfl, rfl, rfl⟩, by omega⟩
    · simp [Value.cells] at hcs
      obtain ⟨rfl, rfl, rfl⟩ := hcs
      have hz' : zs.length = cap1 := by simpa using hz
      have hd : d1 = .slice (lits .u8 (zs.take len1)) (lits .u8 (zs.drop len1)) := congrArg Prod.fst hx
      have hroom := sized_slice hsz (j := 1) (t := 23) (e := 5) rfl (by rw [hd]; rfl) Try.underlying23
      rw [show Try.prog.bytesOf 5 = 1 from by kernel_rfl] at hroom
      simp only [lits, List.length_map, List.length_take, List.length_drop, reachBytes] at hroom
      exact ⟨zs, .inr ⟨_, rfl, hl, hm, hz', hcell, hwz⟩, by omega⟩
  clear hA0 hval0 hsz0
  refine (walk a0 len0 cap0 z0 a1 len1 cap1 z1 W w0 s0 w1 s1).mono fun e W' ⟨he, bel⟩ => ?_
  subst he
  exact ⟨_, rfl, _, _, _, [], _, [], hW', trodAll_mk1 (shut_bool Try.underlying4 _), (trodAll_cons_mk (Below.trod laidOut (by kernel_rfl) (of_decide_eq_true (by kernel_rfl)) k0 bel lt0) (trodAll_cons_mk (Below.trod laidOut (by kernel_rfl) (of_decide_eq_true (by kernel_rfl)) k1 bel lt1) trodAll_mk0)), rfl, bel.frame _, fun h => by cases h⟩

theorem over : Rows.wireJoinsRow.holds Try.pinned (OpenSpec.ofChange Rows.wireJoinsSpec) :=
  OpenClaim.holds_of_wide 7 Try.f7 rfl rfl rfl rfl rfl rfl rfl ⟨rfl, rfl, rfl, rfl, rfl⟩ rfl rfl rfl rfl rfl (by kernel_rfl) Try.func7 (by kernel_rfl)
    (of_decide_eq_true (by kernel_rfl)) (by unfold Func.isWrapper; first | (rw [if_pos (by decide +kernel)]; kernel_rfl) | (rw [if_neg (by decide +kernel)]; exact ⟨rfl, rfl⟩))
    (fun os started H enc _ => lifted os started H enc)

theorem proved : Rows.WireJoinsSaid := over
end Go.Proofs.Ytgegphmfdcninaa.wireJoins
