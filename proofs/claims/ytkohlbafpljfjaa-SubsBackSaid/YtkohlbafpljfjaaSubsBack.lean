/-
  SubsBack: FOR EVERY INPUT the law returns true and leaves its arguments as they were.
-/
import Derived.Test.YtkohlbafpljfjaaSt
import Derived.Test.YtkohlbafpljfjaaRows
import Derived.WalkKit
import Derived.ProofKit
import Derived.OpenShut
import Derived.ShutString
import Derived.ChangeOld
import Derived.Below
import Derived.SizedLaws
import Derived.Lib.SmallJoins
namespace Go.Proofs.Ytkohlbafpljfjaa.subsBack
open Go.ChangeShapes Go.WideShapes Go.ChangeAt Go.RowKit
open Go.ChangeMaps (open_string shut_string)
set_option linter.unusedVariables false

theorem own : ownKnob Try.prog.godebug = none := by kernel_rfl
theorem laidOut : laidOutB Try.prog = true := by kernel_rfl

theorem bk_snoc (ends : Bool) (l : List Fi) (k : Nat) (f : Fi) (hf : l[k]? = some f) : fisC ((l.take (k + 1)).map (bk ends)) = fisC ((l.take k).map (bk ends)) ++ [.string (bk ends f).t, .int .i64 (bk ends f).q] := by
  have hk : k < l.length := (List.getElem?_eq_some_iff.1 hf).1
  rw [List.take_succ_eq_append_getElem hk, List.map_append, (List.getElem?_eq_some_iff.1 hf).2]
  simp [fisC, Fi.cells]
set_option maxHeartbeats 4000000 in
set_option maxRecDepth 100000 in
theorem walk (id : Int) (a : Option Addr) (len cap : Nat) (l : List Fi) (ends : Bool) (w : World) (bi : -9223372036854775808 ≤ id ∧ id ≤ 9223372036854775807) (hs : FisAt w (.slice a len cap) l) (hok : ∀ f ∈ l, f.ok) :
    Calls Try.prog 6 #[.int .i64 id, .slice a len cap, .bool ends] w (Yes w) := by
  have P := Lib.hid (put9_any id _ l ends w bi hs hok)
  have BK := @subs_back id l ends
  have PL : putLs id l ends = if putE id l ends = 0 then [(id / 256).toNat, (id % 256).toNat] ++ fisL ends l else [] := rfl
  obtain ⟨a', cap', hv, hlen, hc⟩ := hs
  simp only [Value.slice.injEq] at hv
  obtain ⟨rfl, rfl, rfl⟩ := hv
  generalize putE id l ends = E at *
  generalize putLs id l ends = L at *
  replace hc := Lib.hid hc
  replace hok := Lib.hid hok
  have hlen' : (l.length : Int) ≤ 9223372036854775807 := by omega
  by_cases hE : E = 0
  · subst hE
    obtain ⟨e1, e2, e3, e4⟩ := BK rfl
    have e3' : 1 ≤ (l.length : Int) := by omega
    have e4' : (l.length : Int) ≤ 8 := by omega
    replace e1 := Lib.hid e1
    replace PL := Lib.hid PL
    clear BK
    obtain ⟨i0, hi, hz0, hz1, hz2⟩ := info_parts info47
    replace hi := Lib.hid hi
    replace hz0 := Lib.hid hz0
    replace hz1 := Lib.hid hz1
    replace hz2 := Lib.hid hz2
    go_enter Try.func6, Try.ntmps6
    go_wp2_with fail
    refine (P.out).mono ?_
    rintro e w1 ⟨v1, rfl, s1, b1⟩
    replace s1 := Lib.hid s1
    obtain ⟨a1, c1, rfl, -⟩ := s1.out
    replace b1 := Lib.hid b1
    go_wp2_with fail
    go_loopw [9, 10] (fun c i wr => ∃ k : Nat, i = .int .i64 (k : Int) ∧ k ≤ l.length ∧ wr.ownsRow w1.heap.size 47 2 c k (fisC ((l.take k).map (bk ends))) ∧ Below w1.heap.size w1 wr) (fun _ i _ => l.length - (intOf i).toNat)
    case atStart => exact ⟨0, rfl, by omega, by simpa [fisC] using World.ownsRow_nil _ _ _ _, Below.refl _ _⟩
    case round =>
      obtain ⟨k, rfl, hk, hown, hbw⟩ := hrel
      obtain ⟨va, vc, rfl⟩ := own_slice hown
      have zr : w1.heap.size ≤ wr.heap.size := hbw.size
      have BW := Lib.hid (b1.out.trans (hbw.mono b1.out.size))
      by_cases hend : k = l.length
      · subst hend
        rw [List.take_length] at hown
        have kc := (s1.out.keep hbw (Nat.le_refl _)).conv (P := Try.prog) Try.underlying23 Try.underlying5 Try.underlying9
        have WF : FisAt wr (.slice va l.length vc) (l.map (bk ends)) := FisAt.of_own (by rw [List.length_map]; exact hown) (by rw [List.length_map]; omega)
        replace WF := Lib.hid WF
        have O := of12_any (strB L) ends wr (by omega)
        rw [e1.out] at O
        unfold OfP at O
        simp only at O
        replace O := Lib.hid O
        replace hbw := Lib.hid hbw
        replace e2 := Lib.hid e2
        generalize strB L = S at *
        clear hown
        go_wp2_with fail
        refine (O.out).mono ?_
        rintro e w3 ⟨v3, rfl, i3, b3⟩
        have WF3 := Lib.hid (WF.out.keep b3 (Nat.le_refl _))
        replace i3 := Lib.hid i3
        obtain ⟨a3, c3, hv3, -, -⟩ := i3.out
        rw [List.length_map] at hv3
        subst hv3
        have B3 := Lib.hid (ext_trans BW.out b3)
        clear b3
        go_wp2_with fail
        refine (fis_eq _ _ _ _ i3.out WF3.out).mono ?_
        rintro e w5 ⟨rfl, b5⟩
        have B5 := Lib.hid (ext_trans B3.out b5)
        clear b5
        go_wp2_with fail
        refine (awake_any _).mono ?_
        rintro e w8 ⟨rfl, b8⟩
        go_wp2_with fail
        go_ret
        exact ⟨rfl, ext_trans B5.out b8⟩
      obtain ⟨f, hf⟩ : ∃ f, l[k]? = some f := ⟨_, List.getElem?_eq_getElem (by omega)⟩
      obtain ⟨b, o, rfl, hbl, q0, q1⟩ := fi_at hf BW.out hc.out
      have klt : (k : Int) < (l.length : Int) := by omega
      have SN := bk_snoc ends l k f hf
      replace hf := Lib.hid hf
      replace hbw := Lib.hid hbw
      replace hown := Lib.hid hown
      obtain ⟨t, q⟩ := f
      simp only at q0 q1
      cases ends
      · have e : bk false (⟨t, q⟩ : Fi) = ⟨t, q⟩ := rfl
        rw [e] at SN
        simp only at SN
        replace SN := Lib.hid SN
        clear e
        go_wp2_with (at_builtin; (refine wpList_append_own_at _ rfl (.tmp 45) (.tmp 50) 22 rfl w1.heap.size 47 i0 _ 2 24 Try.underlying22 hi.out hz0.out hz1.out hz2.out rfl (by decide) (.slice va k vc) k _ rfl (hown.out.alloc _) ⟨wr.heap.size, 0, none⟩ 1 1 [.string t, .int .i64 q] rfl rfl (cell_two_at _ _ _ _ _ (by simp)) (by intro u hu; simp at hu; rcases hu with rfl | rfl <;> rfl) (by unfold maxLen; omega) (by omega) (by simp; omega) ?_); intro v4 w4 o4 g4 n4 nb4; clear n4 nb4; have B4 := Lib.hid (((hbw.out.alloc zr (.cells #[.string t, .int .i64 q] 47))).trans (grown2 (hown.out.alloc _) g4 (by simp; omega))); clear g4; replace o4 := Lib.hid o4)
        go_roundw
        case rel => exact ⟨k + 1, by simp, by omega, by rw [SN.out]; exact o4.out, B4.out⟩
        case measure => simp [intOf]; omega
      · have e : bk true (⟨t, q⟩ : Fi) = ⟨t, 0⟩ := rfl
        rw [e] at SN
        simp only at SN
        replace SN := Lib.hid SN
        clear e
        go_wp2_with (at_builtin; (refine wpList_append_own_at _ rfl (.tmp 36) (.tmp 43) 22 rfl w1.heap.size 47 i0 _ 2 24 Try.underlying22 hi.out hz0.out hz1.out hz2.out rfl (by decide) (.slice va k vc) k _ rfl (hown.out.alloc _) ⟨wr.heap.size, 0, none⟩ 1 1 [.string t, .int .i64 0] rfl rfl (cell_two_at _ _ _ _ _ (by simp)) (by intro u hu; simp at hu; rcases hu with rfl | rfl <;> rfl) (by unfold maxLen; omega) (by omega) (by simp; omega) ?_); intro v4 w4 o4 g4 n4 nb4; clear n4 nb4; have B4 := Lib.hid (((hbw.out.alloc zr (.cells #[.string t, .int .i64 0] 47))).trans (grown2 (hown.out.alloc _) g4 (by simp; omega))); clear g4; replace o4 := Lib.hid o4)
        go_roundw
        case rel => exact ⟨k + 1, by simp, by omega, by rw [SN.out]; exact o4.out, B4.out⟩
        case measure => simp [intOf]; omega
  · rw [if_neg hE] at PL
    subst PL
    have hd : (E != 0) = true := by simpa using hE
    replace hE := Lib.hid hE
    clear BK
    go_enter Try.func6, Try.ntmps6
    go_wp2_with fail
    refine (P.out).mono ?_
    rintro e w1 ⟨v1, rfl, s1, b1⟩
    obtain ⟨a1, c1, rfl, -⟩ := s1
    simp only [List.length_nil]
    replace b1 := Lib.hid b1
    go_wp2_with fail
    refine (awake_any _).mono ?_
    rintro e w8 ⟨rfl, b8⟩
    go_wp2_with fail
    go_ret
    exact ⟨rfl, ext_trans b1.out b8⟩

set_option maxRecDepth 100000 in
theorem lifted (os : Os) (started : os.Started) (H : Type) (enc : TypeId × Value → H) :
    ReturnsInHanded {} Try.checked os 6 .any (Rows.subsBackSpec.pre6 enc Try.prog Try.f6 Rows.subsBackRow.domain false) (Rows.subsBackSpec.post enc Try.prog Try.f6 false true false false) := by
  refine returnsInHanded_of_change_sized (C := Try.checked) own started (by kernel_rfl) Try.func6
    (ChangeSpec.witness6 (enc := enc) (C := Try.checked) false ⟨#[], #[.int .i64 0, .slice none 0 0, .bool false], []⟩ 8 (by kernel_rfl) (by kernel_rfl) (by kernel_rfl) (by kernel_rfl)) ?_
  intro W base args ds gs before hval0 hW hcnd hsz0 _
  have hsz : (DataW.weightsEach Try.prog (Try.f6.params.toList ++ Rows.subsBackSpec.plain.varTypes Try.prog) (ds ++ gs)).all (· ≤ reachBytes) = true := hsz0
  have hval : ∀ (j : Nat) t v, Try.f6.params[j]? = some t → args[j]? = some v → Value.okWide Try.prog W .any base t v := hval0
  have hW' := hW
  obtain ⟨p, q, hA0, hV, rfl, hfz, hnd⟩ := hW
  have hA : DataW.TrodAll enc Try.prog W 0 (fun _ => true) true Try.f6.params.toList args.toList ds p := hA0
  rw [Try.params6] at hA hval hsz
  obtain ⟨v0, vs0, d0, ds0, p0, q0, hargs, rfl, rfl, h0, r0⟩ := trodAll_cons hA
  obtain ⟨v1, vs1, d1, ds1, p1, q1, rfl, rfl, rfl, h1, r1⟩ := trodAll_cons r0
  obtain ⟨v2, vs2, d2, ds2, p2, q2, rfl, rfl, rfl, h2, r2⟩ := trodAll_cons r1
  obtain ⟨rfl, rfl, rfl⟩ := trodAll_nil r2
  obtain rfl : args = #[v0, v1, v2] := by cases args; simp_all
  obtain ⟨rfl, rfl⟩ := trodVars_none hV
  have k0 := h0
  have lt0 : ∀ x ∈ p0, x.block < W.heap.size := by obtain ⟨m, hm⟩ := k0; exact DataW.trod_lt m _ _ _ hm
  have k1 := h1
  have lt1 : ∀ x ∈ p1, x.block < W.heap.size := by obtain ⟨m, hm⟩ := k1; exact DataW.trod_lt m _ _ _ hm
  have k2 := h2
  have lt2 : ∀ x ∈ p2, x.block < W.heap.size := by obtain ⟨m, hm⟩ := k2; exact DataW.trod_lt m _ _ _ hm
  obtain ⟨a0, rfl, rfl, rfl, w0⟩ := open_int Try.underlying3 (hval 0 3 v0 rfl rfl) h0
  have b0 := wf_i64 w0
  obtain ⟨a1, len1, cap1, rfl⟩ := okWide_slice Try.underlying22 (hval 1 22 v1 rfl rfl)
  obtain ⟨z1, w1, s1⟩ : ∃ l : List Fi, FisAt W (.slice a1 len1 cap1) l ∧ ∀ f ∈ l, f.ok := by
    obtain ⟨fuel, hf⟩ := h1
    exact open_fis hf (fun n hn => by
      have hm := List.all_eq_true.1 hsz n (DataW.weights_mem_each (j := 1) (t := 22) rfl rfl _ hn)
      simpa [reachBytes] using of_decide_eq_true hm)
  obtain ⟨a2, rfl, rfl, rfl⟩ := open_bool Try.underlying4 (hval 2 4 v2 rfl rfl) h2
  clear hA0 hval0 hsz0
  refine (walk a0 a1 len1 cap1 z1 a2 W b0 w1 s1).mono fun e W' ⟨he, bel⟩ => ?_
  subst he
  exact ⟨_, rfl, _, _, _, [], _, [], hW', trodAll_mk1 (shut_bool Try.underlying4 _), (trodAll_cons_mk (Below.trod laidOut (by kernel_rfl) (of_decide_eq_true (by kernel_rfl)) k0 bel lt0) (trodAll_cons_mk (Below.trod laidOut (by kernel_rfl) (of_decide_eq_true (by kernel_rfl)) k1 bel lt1) (trodAll_cons_mk (Below.trod laidOut (by kernel_rfl) (of_decide_eq_true (by kernel_rfl)) k2 bel lt2) trodAll_mk0))), rfl, bel.frame _, fun h => by cases h⟩

theorem over : Rows.subsBackRow.holds Try.pinned (OpenSpec.ofChange Rows.subsBackSpec) :=
  OpenClaim.holds_of_wide 6 Try.f6 rfl rfl rfl rfl rfl rfl rfl ⟨rfl, rfl, rfl, rfl, rfl⟩ rfl rfl rfl rfl rfl (by kernel_rfl) Try.func6 (by kernel_rfl)
    (of_decide_eq_true (by kernel_rfl)) (by unfold Func.isWrapper; first | (rw [if_pos (by decide +kernel)]; kernel_rfl) | (rw [if_neg (by decide +kernel)]; exact ⟨rfl, rfl⟩))
    (fun os started H enc _ => lifted os started H enc)

theorem proved : Rows.SubsBackSaid := over
end Go.Proofs.Ytkohlbafpljfjaa.subsBack
