/-
  SubsAcks: FOR EVERY INPUT the law returns true and leaves its arguments as they were.
-/
import Derived.Test.YtkohlbafpljfjaaSj
import Derived.Test.YtkohlbafpljfjaaRows
import Derived.WalkKit
import Derived.ProofKit
import Derived.OpenShut
import Derived.ShutString
import Derived.ChangeOld
import Derived.Below
import Derived.SizedLaws
import Derived.Lib.SmallJoins
namespace Go.Proofs.Ytkohlbafpljfjaa.subsAcks
open Go.ChangeShapes Go.WideShapes Go.ChangeAt Go.RowKit
open Go.ChangeMaps (open_string shut_string)
set_option linter.unusedVariables false

theorem own : ownKnob Try.prog.godebug = none := by kernel_rfl
theorem laidOut : laidOutB Try.prog = true := by kernel_rfl

set_option maxHeartbeats 2000000 in
set_option maxRecDepth 100000 in
theorem walk (id : Int) (a : Option Addr) (len cap : Nat) (zs : List Int) (s : ByteArray) (w : World) (bi : -9223372036854775808 ≤ id ∧ id ≤ 9223372036854775807) (hr : IsRow .i64 w a len cap zs) (hcap : cap * 8 ≤ 140737488351232) (hs : s.size ≤ 140737488351232) :
    Calls Try.prog 5 #[.int .i64 id, .slice a len cap, .string s] w (Yes w) := by
  obtain ⟨hI, -⟩ := hr.ints
  generalize zs.take len = l at *
  have P := Lib.hid (ack15_any id _ l w bi hI)
  have R := Lib.hid fun w' (hb : Below w.heap.size w w') => ack16_any id _ l w' bi (hI.keep hb (Nat.le_refl _))
  have O1 := Lib.hid fun w' => ofack17_any s w' hs
  have O2 := Lib.hid fun w' => ofack18_any s w' hs
  have BK := Lib.hid (@ack_back id l)
  have SZ := Lib.hid (ack_small id l)
  replace hI := Lib.hid hI
  generalize ackE id l = E at *
  generalize ackL id l = L at *
  generalize ofAckV (txtL s) = V at *
  obtain ⟨Vn, Vl, Ve⟩ := V
  unfold OfAckP at O1 O2
  simp only at O1 O2
  clear hr bi hs hcap
  go_enter Try.func5, Try.ntmps5
  go_wp2_with fail
  refine (P.out).mono ?_
  rintro e w1 ⟨v1, rfl, s1, b1⟩
  replace s1 := Lib.hid s1
  obtain ⟨a1, c1, rfl, -⟩ := s1.out
  replace b1 := Lib.hid b1
  go_wp2_with fail
  refine (R.out _ b1.out).mono ?_
  rintro e w2 ⟨v2, rfl, s2, b2⟩
  have s1' := Lib.hid (s1.out.keep b2 (Nat.le_refl _))
  have k1 := s1'.out.conv (P := Try.prog) Try.underlying23 Try.underlying5 Try.underlying9
  have k2 := s2.conv (P := Try.prog) Try.underlying23 Try.underlying5 Try.underlying9
  obtain ⟨a2, c2, rfl, -⟩ := s2
  have B2 := Lib.hid (ext_trans b1.out b2)
  clear b2 b1 s1 P R
  have SB := Lib.hid (rfl : strB L = strB L)
  obtain ⟨S, gS⟩ : ∃ S, S = strB L := ⟨_, rfl⟩
  rw [← gS] at k1 k2 BK SZ
  replace gS := Lib.hid gS
  go_wp2_with fail
  refine (O1.out _).mono ?_
  rintro e w3 ⟨v3, rfl, i3, b3⟩
  replace i3 := Lib.hid i3
  replace b3 := Lib.hid b3
  clear k1 k2
  go_wp2_with fail
  refine (O2.out _).mono ?_
  rintro e w4 ⟨v4, rfl, i4, b4⟩
  have i3' := Lib.hid (i3.out.keep b4 (Nat.le_refl _))
  replace i4 := Lib.hid i4
  have B4 := Lib.hid (ext_trans B2.out (ext_trans b3.out b4))
  have b34 := Lib.hid (ext_trans b3.out b4)
  clear b4
  go_wp2_with fail
  refine (ints_eq _ _ _ _ i3'.out i4.out).mono ?_
  rintro e w5 ⟨rfl, b5⟩
  have B5 := Lib.hid (ext_trans B4.out b5)
  have s5 := (s1'.out.keep (ext_trans b34.out b5) (Nat.le_refl _))
  have k5 := s5.conv (P := Try.prog) Try.underlying23 Try.underlying5 Try.underlying9
  rw [← gS.out] at k5
  clear b5 s5
  by_cases hE : E = 0
  · subst hE
    obtain ⟨e1, e2⟩ := BK.out rfl
    have O3 := ofack17_any S w5 (by omega)
    rw [e1] at O3
    unfold OfAckP at O3
    simp only at O3
    replace O3 := Lib.hid O3
    replace e1 := Lib.hid e1
    have hI5 := Lib.hid fun w' (hb : Below w5.heap.size w5 w') => hI.out.keep (ext_trans B5.out hb) (Nat.le_refl _)
    clear BK e2
    go_wp2_with fail
    refine (O3.out).mono ?_
    rintro e w6 ⟨v6, rfl, i6, b6⟩
    have hI6 := Lib.hid (hI5.out _ b6)
    have B6 := Lib.hid (ext_trans B5.out b6)
    replace i6 := Lib.hid i6
    clear b6 k5
    go_wp2_with fail
    refine (ints_eq _ _ _ _ i6.out hI6.out).mono ?_
    rintro e w7 ⟨rfl, b7⟩
    have B7 := Lib.hid (ext_trans B6.out b7)
    clear b7
    go_wp2_with fail
    refine (awake_any _).mono ?_
    rintro e w8 ⟨rfl, b8⟩
    go_wp2_with fail
    go_ret
    exact ⟨rfl, ext_trans B7.out b8⟩
  · have hd : (E != 0) = true := by simpa using hE
    have O3 := ofack17_any S w5 (by have := SZ.out; omega)
    generalize ofAckV (txtL S) = V3 at *
    obtain ⟨n3, l3, e3⟩ := V3
    unfold OfAckP at O3
    simp only at O3
    replace O3 := Lib.hid O3
    replace hE := Lib.hid hE
    clear BK
    go_wp2_with fail
    refine (O3.out).mono ?_
    rintro e w6 ⟨v6, rfl, i6, b6⟩
    have B6 := Lib.hid (ext_trans B5.out b6)
    clear b6 k5
    go_wp2_with fail
    refine (awake_any _).mono ?_
    rintro e w8 ⟨rfl, b8⟩
    go_wp2_with fail
    go_ret
    exact ⟨rfl, ext_trans B6.out b8⟩

set_option maxRecDepth 100000 in
theorem lifted (os : Os) (started : os.Started) (H : Type) (enc : TypeId × Value → H) :
    ReturnsInHanded {} Try.checked os 5 .any (Rows.subsAcksSpec.pre6 enc Try.prog Try.f5 Rows.subsAcksRow.domain false) (Rows.subsAcksSpec.post enc Try.prog Try.f5 false true false false) := by
  refine returnsInHanded_of_change_sized (C := Try.checked) own started (by kernel_rfl) Try.func5
    (ChangeSpec.witness6 (enc := enc) (C := Try.checked) false ⟨#[], #[.int .i64 0, .slice none 0 0, .string ByteArray.empty], []⟩ 8 (by kernel_rfl) (by kernel_rfl) (by kernel_rfl) (by kernel_rfl)) ?_
  intro W base args ds gs before hval0 hW hcnd hsz0 _
  have hsz : (DataW.weightsEach Try.prog (Try.f5.params.toList ++ Rows.subsAcksSpec.plain.varTypes Try.prog) (ds ++ gs)).all (· ≤ reachBytes) = true := hsz0
  have hval : ∀ (j : Nat) t v, Try.f5.params[j]? = some t → args[j]? = some v → Value.okWide Try.prog W .any base t v := hval0
  have hW' := hW
  obtain ⟨p, q, hA0, hV, rfl, hfz, hnd⟩ := hW
  have hA : DataW.TrodAll enc Try.prog W 0 (fun _ => true) true Try.f5.params.toList args.toList ds p := hA0
  rw [Try.params5] at hA hval hsz
  obtain ⟨v0, vs0, d0, ds0, p0, q0, hargs, rfl, rfl, h0, r0⟩ := trodAll_cons hA
  obtain ⟨v1, vs1, d1, ds1, p1, q1, rfl, rfl, rfl, h1, r1⟩ := trodAll_cons r0
  obtain ⟨v2, vs2, d2, ds2, p2, q2, rfl, rfl, rfl, h2, r2⟩ := trodAll_cons r1
  obtain ⟨rfl, rfl, rfl⟩ := trodAll_nil r2
  obtain rfl : args = #[v0, v1, v2] := by cases args; simp_all
  obtain ⟨rfl, rfl⟩ := trodVars_none hV
  have k0 := h0
  have lt0 : ∀ x ∈ p0, x.block < W.heap.size := by obtain ⟨m, hm⟩ := k0; exact DataW.trod_lt m _ _ _ hm
  have k1 := h1
  have lt1 : ∀ x ∈ p1, x.block < W.heap.size := by obtain ⟨m, hm⟩ := k1; exact DataW.trod_lt m _ _ _ hm
  have k2 := h2
  have lt2 : ∀ x ∈ p2, x.block < W.heap.size := by obtain ⟨m, hm⟩ := k2; exact DataW.trod_lt m _ _ _ hm
  obtain ⟨a0, rfl, rfl, rfl, w0⟩ := open_int Try.underlying3 (hval 0 3 v0 rfl rfl) h0
  have b0 := wf_i64 w0
  obtain ⟨a1, len1, cap1, rfl⟩ := okWide_slice Try.underlying37 (hval 1 37 v1 rfl rfl)
  obtain ⟨z1, w1, s1⟩ : ∃ zs, IsRow .i64 W a1 len1 cap1 zs ∧ cap1 * 8 ≤ 140737488351232 := by
    obtain ⟨fuel, hf⟩ := h1
    rcases open_ints Try.underlying37 Try.underlying3 (by kernel_rfl) hf with ⟨hcs, _⟩ | ⟨x, l, c, zs, hcs, _, hl, hm, hz, hx, hcell, hwz⟩
    · simp [Value.cells] at hcs
      obtain ⟨rfl, rfl, rfl⟩ := hcs
      exact ⟨[], .inl ⟨rfl, rfl, rfl, rfl⟩, by omega⟩
    · simp [Value.cells] at hcs
      obtain ⟨rfl, rfl, rfl⟩ := hcs
      have hz' : zs.length = cap1 := by simpa using hz
      have hd : d1 = .slice (lits .i64 (zs.take len1)) (lits .i64 (zs.drop len1)) := congrArg Prod.fst hx
      have hroom := sized_slice hsz (j := 1) (t := 37) (e := 3) rfl (by rw [hd]; rfl) Try.underlying37
      rw [show Try.prog.bytesOf 3 = 8 from by kernel_rfl] at hroom
      simp only [lits, List.length_map, List.length_take, List.length_drop, reachBytes] at hroom
      exact ⟨zs, .inr ⟨_, rfl, hl, hm, hz', hcell, hwz⟩, by omega⟩
  obtain ⟨a2, rfl, rfl, rfl, w2⟩ := open_string Try.underlying9 (hval 2 9 v2 rfl rfl) h2
  have s2 : a2.size ≤ 140737488351232 := by
    have := sized_string hsz (j := 2) (t := 9) rfl rfl
    simp only [Array.length_toList, reachBytes] at this
    exact this
  clear hA0 hval0 hsz0
  refine (walk a0 a1 len1 cap1 z1 a2 W b0 w1 s1 s2).mono fun e W' ⟨he, bel⟩ => ?_
  subst he
  exact ⟨_, rfl, _, _, _, [], _, [], hW', trodAll_mk1 (shut_bool Try.underlying4 _), (trodAll_cons_mk (Below.trod laidOut (by kernel_rfl) (of_decide_eq_true (by kernel_rfl)) k0 bel lt0) (trodAll_cons_mk (Below.trod laidOut (by kernel_rfl) (of_decide_eq_true (by kernel_rfl)) k1 bel lt1) (trodAll_cons_mk (Below.trod laidOut (by kernel_rfl) (of_decide_eq_true (by kernel_rfl)) k2 bel lt2) trodAll_mk0))), rfl, bel.frame _, fun h => by cases h⟩

theorem over : Rows.subsAcksRow.holds Try.pinned (OpenSpec.ofChange Rows.subsAcksSpec) :=
  OpenClaim.holds_of_wide 5 Try.f5 rfl rfl rfl rfl rfl rfl rfl ⟨rfl, rfl, rfl, rfl, rfl⟩ rfl rfl rfl rfl rfl (by kernel_rfl) Try.func5 (by kernel_rfl)
    (of_decide_eq_true (by kernel_rfl)) (by unfold Func.isWrapper; first | (rw [if_pos (by decide +kernel)]; kernel_rfl) | (rw [if_neg (by decide +kernel)]; exact ⟨rfl, rfl⟩))
    (fun os started H enc _ => lifted os started H enc)

theorem proved : Rows.SubsAcksSaid := over
end Go.Proofs.Ytkohlbafpljfjaa.subsAcks
