/-
  UtfBack: FOR EVERY INPUT the law returns true and leaves its arguments as they were.
-/
import Derived.Test.YtaannopaipjcoaaUh
import Derived.Test.YtaannopaipjcoaaRows
import Derived.WalkKit
import Derived.ProofKit
import Derived.OpenShut
import Derived.ShutString
import Derived.ChangeOld
import Derived.Below
import Derived.SizedLaws
import Derived.JoinedCond
import Derived.Test.YtaannopaipjcoaaBulk
namespace Go.Proofs.Ytaannopaipjcoaa.utfBack
open Go.ChangeShapes Go.WideShapes Go.ChangeAt Go.RowKit
open Go.ChangeMaps (open_string shut_string)
set_option linter.unusedVariables false

theorem own : ownKnob Try.prog.godebug = none := by kernel_rfl
theorem laidOut : laidOutB Try.prog = true := by kernel_rfl

theorem grown_ext {B : Nat} {w w' : World} {v : Value} {n : Nat} {xs : List Value} {e : TypeId} (hown : w.ownsRow B e 1 v n xs) (hg : w.grownBy w' v.ownBlock) (hB : B ≤ w.heap.size) : Below B w w' :=
  (Below.refl _ _).grown hg hB (fun k hk => (hown.lt k hk).1)
set_option maxHeartbeats 1000000 in
set_option maxRecDepth 100000 in
theorem back_long (s : ByteArray) (s1 s2 : Value) (w : World) (h : 65535 < s.size) : Calls Try.prog 5 #[.string s, s1, s2] w (Yes w) := by
  have h' : (65535 : Int) < s.size := by omega
  have R := right_any s
  rw [show rightB s = false from by unfold rightB; simp; omega] at R
  replace R := Lib.hid R
  go_enter Try.func5, Try.ntmps5
  go_wp2_with fail
  refine (putraw_long s _ h).mono ?_
  rintro e w' ⟨rfl, rfl⟩
  go_wp2_with fail
  refine (R.out _).mono ?_
  rintro e w2 ⟨rfl, hb2⟩
  go_wp2_with fail
  refine (awake_any _).mono ?_
  rintro e w3 ⟨rfl, hb3⟩
  go_wp2_with fail
  go_ret
  exact ⟨rfl, ext_trans hb2 hb3⟩
set_option maxHeartbeats 2000000 in
set_option maxRecDepth 100000 in
theorem back_ok (s : ByteArray) (s1 s2 : Value) (la lb : List Nat) (w : World) (h : s.size ≤ 65535) (hA : BytesAt w s1 la) (hB : BytesAt w s2 lb) (ha : la.length ≤ 8388608) (hb : lb.length ≤ 8388608) (h1 : ∀ x ∈ la, x < 256) (h2 : ∀ x ∈ lb, x < 256) :
    Calls Try.prog 5 #[.string s, s1, s2] w (Yes w) := by
  obtain ⟨i0, hi, hz0, hz1, hz2⟩ := info_parts info5
  obtain ⟨a1, cap1, e1, -, -⟩ := id hA
  subst e1
  have P := Lib.hid (putraw_any s w h)
  have hlt := rawL_lt s h
  have hlen := rawL_length s
  obtain ⟨p, hp⟩ : ∃ p, p = rawL s := ⟨_, rfl⟩
  have G1 := raw_mid la lb s h
  have G2 := get_mid la lb s h
  unfold PutPost at P
  rw [← hp] at P G1 G2 hlt hlen
  have HA := Lib.hid hA
  have HB := Lib.hid hB
  have H1 := Lib.hid h1
  have H2 := Lib.hid h2
  have HL := Lib.hid hlt
  replace G1 := Lib.hid G1
  replace G2 := Lib.hid G2
  have HPL := Lib.hid hlen
  have hsz : (s.size : Int) ≤ 65535 := by omega
  have hpl : p.length ≤ 65537 := by omega
  clear hA hB h1 h2 hlt hp hlen
  go_enter Try.func5, Try.ntmps5
  go_wp2_with fail
  refine P.out.mono ?_
  rintro e w1 ⟨v, rfl, hown, hb1⟩
  have hP := BytesAt.of_own hown
  obtain ⟨ap, cp, e2, -, -⟩ := id hP
  subst e2
  have HP := Lib.hid hP
  have B1 := Lib.hid hb1
  have hA1 := (HA.out.keep hb1 (Nat.le_refl _)).keep (ext_alloc w1 (.cells #[] 5)) (Nat.le_refl _)
  have hown0 : (w1.alloc (.cells #[] 5)).ownsRow w1.heap.size 5 1 (.slice (some ⟨w1.heap.size, 0, none⟩) 0 0) ([] : List Nat).length (bl []) := World.ownsRow_lit w1 #[] 0 (Nat.le_refl _) (by unfold maxLen; omega) rfl
  clear hown hb1 hP
  go_wp2_with (first
      | (at_builtin; refine wpList_append_bytes _ rfl (.tmp 38) (.tmp 39) 22 rfl w1.heap.size 5 i0 Try.underlying22 hi hz0 hz1 hz2 (.slice (some ⟨w1.heap.size, 0, none⟩) 0 0) [] la rfl hown0 hA1 (by simp; omega) (by simp) ?_; intro v1 w2 hown1 hgrow1 hnil1; have bw2 : Below w1.heap.size w1 w2 := (ext_alloc w1 _).trans (grown_ext hown0 hgrow1 (by simp)); have hP2 := HP.out.keep bw2 (Nat.le_refl _); rw [List.nil_append] at hown1; clear hgrow1 hnil1 hown0 hA1)
      | (at_builtin; refine wpList_append_bytes _ rfl (.tmp 40) (.tmp 41) 22 rfl w1.heap.size 5 i0 Try.underlying22 hi hz0 hz1 hz2 v1 la p rfl hown1 hP2 (by omega) bw2.size ?_; intro v2 w3 hown2 hgrow2 hnil2; have bw3 := bw2.trans (grown_ext hown1 hgrow2 bw2.size); have hB3 := HB.out.keep (ext_trans B1.out bw3) (Nat.le_refl _); clear hgrow2 hnil2 hown1 hP2 bw2)
      | (at_builtin; refine wpList_append_bytes _ rfl (.tmp 42) (.tmp 43) 22 rfl w1.heap.size 5 i0 Try.underlying22 hi hz0 hz1 hz2 v2 (la ++ p) lb rfl hown2 hB3 (by rw [List.length_append]; omega) bw3.size ?_; intro v3 w4 hown3 hgrow3 hnil3; have bw4 := bw3.trans (grown_ext hown2 hgrow3 bw3.size); clear hgrow3 hnil3 hown2 hB3 bw3))
  have hM := BytesAt.of_own hown3
  have hltM : ∀ x ∈ la ++ p ++ lb, x < 256 := by
    intro x hx
    rcases List.mem_append.1 hx with h | h
    · rcases List.mem_append.1 h with h | h
      · exact H1.out x h
      · exact HL.out x h
    · exact H2.out x h
  have hlM : (la ++ p ++ lb).length ≤ 140737488355328 := by rw [List.length_append, List.length_append]; omega
  have B4 := Lib.hid (ext_trans B1.out bw4)
  have X1 := getraw_any v3 _ la.length w4 hM hltM hlM (by omega)
  rw [G1.out] at X1
  replace X1 := Lib.hid X1
  replace hM := Lib.hid hM
  replace hltM := Lib.hid hltM
  replace hlM := Lib.hid hlM
  clear hown3 bw4
  refine X1.out.mono ?_
  rintro e w5 ⟨rfl, nq, rfl⟩
  have hpl2 : ((la.length : Int) + p.length) = ((la.length + (2 + s.size) : Nat) : Int) := by have := HPL.out; omega
  go_wp2_with fail
  clear hpl2
  have X2 := get_any v3 _ la.length (w4.drewN nq) (hM.out.drewN nq) hltM.out hlM.out (by omega)
  have B5 := below_drewN B4.out nq
  have R := right_any s
  rw [G2.out] at X2
  rw [show ((la.length + (2 + s.size) : Nat) : Int) = (la.length : Int) + (2 + (s.size : Int)) from by omega] at X2
  generalize w4.drewN nq = w5 at *
  replace B5 := Lib.hid B5
  clear hM hltM hlM X1 G1 B4
  by_cases hr : rightB s = true
  · rw [if_pos hr] at X2
    rw [hr] at R
    unfold GetPost at X2
    replace X2 := Lib.hid X2
    replace R := Lib.hid R
    clear hr G2
    refine X2.out.mono ?_
    rintro e w6 ⟨rfl, hb6⟩
    replace hb6 := Lib.hid hb6
    go_wp2_with fail
    refine (R.out _).mono ?_
    rintro e w7 ⟨rfl, hb7⟩
    replace hb7 := Lib.hid hb7
    go_wp2_with fail
    refine (awake_any _).mono ?_
    rintro e w8 ⟨rfl, hb8⟩
    go_wp2_with fail
    go_ret
    exact ⟨rfl, ext_trans B5.out (ext_trans hb6.out (ext_trans hb7.out hb8))⟩
  · have hr : rightB s = false := by simpa using hr
    rw [hr] at R X2
    rw [if_neg (by simp)] at X2
    unfold GetPost at X2
    replace X2 := Lib.hid X2
    replace R := Lib.hid R
    clear hr G2
    refine X2.out.mono ?_
    rintro e w6 ⟨rfl, hb6⟩
    replace hb6 := Lib.hid hb6
    go_wp2_with fail
    refine (R.out _).mono ?_
    rintro e w7 ⟨rfl, hb7⟩
    replace hb7 := Lib.hid hb7
    go_wp2_with fail
    refine (awake_any _).mono ?_
    rintro e w8 ⟨rfl, hb8⟩
    go_wp2_with fail
    go_ret
    exact ⟨rfl, ext_trans B5.out (ext_trans hb6.out (ext_trans hb7.out hb8))⟩
theorem walk (s : ByteArray) (a1 : Option Addr) (len1 cap1 : Nat) (z1 : List Int) (a2 : Option Addr) (len2 cap2 : Nat) (z2 : List Int) (w : World) (s0 : s.size ≤ 1048576) (w1 : IsRow .u8 w a1 len1 cap1 z1) (s1 : cap1 * 1 ≤ 8388608) (w2 : IsRow .u8 w a2 len2 cap2 z2) (s2 : cap2 * 1 ≤ 8388608) :
    Calls Try.prog 5 #[.string s, .slice a1 len1 cap1, .slice a2 len2 cap2] w (Yes w) := by
  by_cases h : 65535 < s.size
  · exact back_long s _ _ w h
  · obtain ⟨hB1, he1, h1⟩ := w1.bytes
    obtain ⟨hB2, he2, h2⟩ := w2.bytes
    have l1 := w1.len_le
    have l2 := w2.len_le
    exact back_ok s _ _ _ _ w (by omega) hB1 hB2 (by omega) (by omega) h1 h2

set_option maxRecDepth 100000 in
theorem lifted (os : Os) (started : os.Started) (H : Type) (enc : TypeId × Value → H) (F : Stop.Interp) :
    ReturnsInHanded {} Try.checked os 5 .any ((Rows.OpenSpec.upto Rows.utfBackSpec).pre6 enc Try.prog Try.f5 Rows.utfBackUptoRow.domain false) (((Rows.OpenSpec.upto Rows.utfBackSpec).at F).post enc Try.prog Try.f5 false true false false) := by
  refine returnsInHanded_of_cond (C := Try.checked) (s := Rows.OpenSpec.upto Rows.utfBackSpec) (k := Rows.uptoSmall) rfl own started (by kernel_rfl) Try.func5
    (OpenSpec.witness (enc := enc) (C := Try.checked) (s := Rows.OpenSpec.upto Rows.utfBackSpec) (k := Rows.uptoSmall) rfl false ⟨#[], #[.string ByteArray.empty, .slice none 0 0, .slice none 0 0], []⟩ 8 (by kernel_rfl) (by kernel_rfl) (by kernel_rfl)
      (x := ([.lit (.string []), .nil, .nil], [], [])) (by kernel_rfl) rfl (by kernel_rfl)) ?_
  intro W base args ds gs before hval0 hW hcnd hk _
  have hval : ∀ (j : Nat) t v, Try.f5.params[j]? = some t → args[j]? = some v → Value.okWide Try.prog W .any base t v := hval0
  have hW' := hW
  obtain ⟨p, q, hA0, hV, rfl, hfz, hnd⟩ := hW
  have hA : DataW.TrodAll enc Try.prog W 0 (fun _ => true) true Try.f5.params.toList args.toList ds p := hA0
  rw [Try.params5] at hA hval
  obtain ⟨v0, vs0, d0, ds0, p0, q0, hargs, rfl, rfl, h0, r0⟩ := trodAll_cons hA
  obtain ⟨v1, vs1, d1, ds1, p1, q1, rfl, rfl, rfl, h1, r1⟩ := trodAll_cons r0
  obtain ⟨v2, vs2, d2, ds2, p2, q2, rfl, rfl, rfl, h2, r2⟩ := trodAll_cons r1
  obtain ⟨rfl, rfl, rfl⟩ := trodAll_nil r2
  obtain rfl : args = #[v0, v1, v2] := by cases args; simp_all
  obtain ⟨rfl, rfl⟩ := trodVars_none hV
  have hb0 : Rows.uptoBulk d0 ≤ 1048576 := bulks.le hk (by simp)
  have hb1 : Rows.uptoBulk d1 ≤ 1048576 := bulks.le hk (by simp)
  have hb2 : Rows.uptoBulk d2 ≤ 1048576 := bulks.le hk (by simp)
  have k0 := h0
  have lt0 : ∀ x ∈ p0, x.block < W.heap.size := by obtain ⟨m, hm⟩ := k0; exact DataW.trod_lt m _ _ _ hm
  have k1 := h1
  have lt1 : ∀ x ∈ p1, x.block < W.heap.size := by obtain ⟨m, hm⟩ := k1; exact DataW.trod_lt m _ _ _ hm
  have k2 := h2
  have lt2 : ∀ x ∈ p2, x.block < W.heap.size := by obtain ⟨m, hm⟩ := k2; exact DataW.trod_lt m _ _ _ hm
  obtain ⟨a0, rfl, rfl, rfl, w0⟩ := open_string Try.underlying9 (hval 0 9 v0 rfl rfl) h0
  have s0 : a0.size ≤ 1048576 := by
    have := bulks.string_len hb0
    simp only [Array.length_toList] at this
    exact this
  obtain ⟨a1, len1, cap1, rfl⟩ := okWide_slice Try.underlying22 (hval 1 22 v1 rfl rfl)
  obtain ⟨z1, w1, s1⟩ : ∃ zs, IsRow .u8 W a1 len1 cap1 zs ∧ cap1 * 1 ≤ 8388608 := by
    obtain ⟨fuel, hf⟩ := h1
    rcases open_ints Try.underlying22 Try.underlying5 (by kernel_rfl) hf with ⟨hcs, _⟩ | ⟨x, l, c, zs, hcs, _, hl, hm, hz, hx, hcell, hwz⟩
    · simp [Value.cells] at hcs
      obtain ⟨rfl, rfl, rfl⟩ := hcs
      exact ⟨[], .inl ⟨rfl, rfl, rfl, rfl⟩, by omega⟩
    · simp [Value.cells] at hcs
      obtain ⟨rfl, rfl, rfl⟩ := hcs
      have hz' : zs.length = cap1 := by simpa using hz
      have hd : d1 = .slice (lits .u8 (zs.take len1)) (lits .u8 (zs.drop len1)) := congrArg Prod.fst hx
      have hroom := bulks.slice_len (x := lits .u8 (zs.take len1)) (y := lits .u8 (zs.drop len1)) (by rw [← hd]; exact hb1)
      simp only [lits, List.length_map, List.length_take, List.length_drop] at hroom
      exact ⟨zs, .inr ⟨_, rfl, hl, hm, hz', hcell, hwz⟩, by omega⟩
  obtain ⟨a2, len2, cap2, rfl⟩ := okWide_slice Try.underlying22 (hval 2 22 v2 rfl rfl)
  obtain ⟨z2, w2, s2⟩ : ∃ zs, IsRow .u8 W a2 len2 cap2 zs ∧ cap2 * 1 ≤ 8388608 := by
    obtain ⟨fuel, hf⟩ := h2
    rcases open_ints Try.underlying22 Try.underlying5 (by kernel_rfl) hf with ⟨hcs, _⟩ | ⟨x, l, c, zs, hcs, _, hl, hm, hz, hx, hcell, hwz⟩
    · simp [Value.cells] at hcs
      obtain ⟨rfl, rfl, rfl⟩ := hcs
      exact ⟨[], .inl ⟨rfl, rfl, rfl, rfl⟩, by omega⟩
    · simp [Value.cells] at hcs
      obtain ⟨rfl, rfl, rfl⟩ := hcs
      have hz' : zs.length = cap2 := by simpa using hz
      have hd : d2 = .slice (lits .u8 (zs.take len2)) (lits .u8 (zs.drop len2)) := congrArg Prod.fst hx
      have hroom := bulks.slice_len (x := lits .u8 (zs.take len2)) (y := lits .u8 (zs.drop len2)) (by rw [← hd]; exact hb2)
      simp only [lits, List.length_map, List.length_take, List.length_drop] at hroom
      exact ⟨zs, .inr ⟨_, rfl, hl, hm, hz', hcell, hwz⟩, by omega⟩
  clear hA0 hval0
  refine (walk a0 a1 len1 cap1 z1 a2 len2 cap2 z2 W s0 w1 s1 w2 s2).mono fun e W' ⟨he, bel⟩ => ?_
  subst he
  exact ⟨_, rfl, _, _, _, [], _, [], hW', trodAll_mk1 (shut_bool Try.underlying4 _), (trodAll_cons_mk (Below.trod laidOut (by kernel_rfl) (of_decide_eq_true (by kernel_rfl)) k0 bel lt0) (trodAll_cons_mk (Below.trod laidOut (by kernel_rfl) (of_decide_eq_true (by kernel_rfl)) k1 bel lt1) (trodAll_cons_mk (Below.trod laidOut (by kernel_rfl) (of_decide_eq_true (by kernel_rfl)) k2 bel lt2) trodAll_mk0))), rfl, bel.frame _, fun h => by cases h⟩

theorem over : Rows.utfBackUptoRow.holds Try.pinned (Rows.OpenSpec.upto Rows.utfBackSpec) :=
  OpenClaim.holds_of_cond 5 Try.f5 rfl rfl rfl rfl rfl rfl rfl ⟨rfl, rfl, rfl, rfl, rfl⟩ rfl rfl rfl rfl rfl (by kernel_rfl) Try.func5 (by kernel_rfl)
    (of_decide_eq_true (by kernel_rfl)) (by unfold Func.isWrapper; first | (rw [if_pos (by decide +kernel)]; kernel_rfl) | (rw [if_neg (by decide +kernel)]; exact ⟨rfl, rfl⟩))
    (fun os started H enc _ F => lifted os started H enc F)

theorem proved : Rows.UtfBackUptoSaid := over
end Go.Proofs.Ytaannopaipjcoaa.utfBack
