/-
  FixedPlays: FOR EVERY INPUT the law returns true and leaves its arguments as they were.
-/
import Derived.Test.YtnhphkiklfajnaaFu
import Derived.Test.YtnhphkiklfajnaaReg
import Derived.Test.YtnhphkiklfajnaaRows
import Derived.WalkKit
import Derived.ProofKit
import Derived.OpenShut
import Derived.ShutString
import Derived.ChangeOld
import Derived.Below
import Derived.SizedLaws
import Derived.Lib.SmallJoins
namespace Go.Proofs.Ytnhphkiklfajnaa.fixedPlays
open Go.ChangeShapes Go.WideShapes Go.ChangeAt Go.RowKit
open Go.ChangeMaps (open_string shut_string)
set_option linter.unusedVariables false

theorem own : ownKnob Try.prog.godebug = none := by kernel_rfl
theorem laidOut : laidOutB Try.prog = true := by kernel_rfl

theorem conv_take {W0 W : World} {v : Value} {l : List Nat} {S : ByteArray} (h : BytesAt W0 v l) (hS : strB l = S) (hW : Below W0.heap.size W0 W) : (convert 23 9 v).run Try.prog W = .ok (.string S) W := by
  have := (h.keep hW (Nat.le_refl _)).conv (P := Try.prog) Try.underlying23 Try.underlying5 Try.underlying9
  rw [hS] at this
  exact this
def Byts (l : List Nat) (w : World) (e : Ending) (w' : World) : Prop := ∃ a n c, e = .returned (.slice a n c) ∧ BytesAt w' (.slice a n c) l ∧ Below w.heap.size w w'
theorem byts_of {l : List Nat} {w : World} {e : Ending} {w' : World} (h : Laid l w e w') : Byts l w e w' := by
  obtain ⟨v, rfl, ho, hb⟩ := h
  have hB := BytesAt.of_own ho
  obtain ⟨a, c, rfl, -, -⟩ := hB
  exact ⟨a, _, c, rfl, BytesAt.of_own ho, hb⟩
theorem b_put4 (n : Nat) (w : World) (h : n ≤ 4294967295) : Calls Try.prog 26 #[.int .u32 n] w (Byts (r4 n) w) := by
  refine (put4_any n w h).mono ?_
  rintro e w' ⟨rfl, rfl⟩
  exact ⟨_, _, _, rfl, BytesAt_lit w (r4 n) _ 4 (row4_bl n) rfl, ext_alloc _ _⟩
theorem b_put8 (n : Nat) (w : World) (h : n ≤ 18446744073709551615) : Calls Try.prog 28 #[.int .u64 n] w (Byts (r8 n) w) := by
  refine (put8_any n w h).mono ?_
  rintro e w' ⟨rfl, rfl⟩
  exact ⟨_, _, _, rfl, BytesAt_lit w (r8 n) _ 8 (row8_bl n) rfl, ext_alloc _ _⟩
theorem b_turn (v : Value) (l : List Nat) (w : World) (hB : BytesAt w v l) (hl : l.length ≤ 140737488351232) : Calls Try.prog 30 #[v] w (Byts l.reverse w) := by
  refine (turn_any v l w hB hl).mono ?_
  rintro e w' ⟨v', rfl, ho, -, hb⟩
  exact byts_of ⟨v', rfl, by rw [List.length_reverse]; exact ho, hb⟩
theorem c_put4 (n : Nat) (w : World) (h : n ≤ 4294967295) : Calls Try.prog 27 #[.int .u32 n] w (Byts (r4 n) w) := (rput4_any n w h).mono fun _ _ h => byts_of h
theorem c_put8 (n : Nat) (w : World) (h : n ≤ 18446744073709551615) : Calls Try.prog 29 #[.int .u64 n] w (Byts (r8 n) w) := (rput8_any n w h).mono fun _ _ h => byts_of h
theorem c_turn (v : Value) (l : List Nat) (w : World) (hB : BytesAt w v l) (hl : l.length ≤ 140737488351232) : Calls Try.prog 31 #[v] w (Byts l.reverse w) := (rturn_any v l w hB hl).mono fun _ _ h => byts_of h
set_option maxHeartbeats 8000000 in
set_option maxRecDepth 100000 in
theorem walk (n : Int) (a : Option Addr) (len cap : Nat) (zs : List Int) (at' : Int) (w : World) (b0 : 0 ≤ n ∧ n ≤ 18446744073709551615) (hr : IsRow .u8 w a len cap zs) (hs : cap * 1 ≤ 140737488351232)
    (b2 : -9223372036854775808 ≤ at' ∧ at' ≤ 9223372036854775807) :
    Calls Try.prog 8 #[.int .u64 n, .slice a len cap, .int .i64 at'] w (Yes w) := by
  obtain ⟨n, rfl⟩ := Int.eq_ofNat_of_zero_le b0.1
  have hn : n ≤ 18446744073709551615 := by omega
  obtain ⟨x, m, e, u, p, g, A, B, C, D⟩ := fixed_gets a len cap zs at' w hr b2
  replace A := Lib.hid A
  replace B := Lib.hid B
  replace C := Lib.hid C
  replace D := Lib.hid D
  replace hn := Lib.hid hn
  clear b0 b2
  replace hr := Lib.hid hr
  replace hs := Lib.hid hs
  go_enter Try.func8, Try.ntmps8
  go_wp2_with fail
  refine (A.out).mono ?_
  rintro e w' ⟨rfl, rfl⟩
  go_wp2_with fail
  refine (B.out).mono ?_
  rintro e w' ⟨rfl, rfl⟩
  go_wp2_with fail
  refine (C.out).mono ?_
  rintro e w' ⟨rfl, rfl⟩
  go_wp2_with fail
  refine (D.out).mono ?_
  rintro e w' ⟨rfl, rfl⟩
  clear A B C D
  go_wp2_with fail
  obtain ⟨m4, gm4⟩ : ∃ m4, m4 = n % 4294967296 := ⟨_, rfl⟩
  have hm4 := Lib.hid (show m4 ≤ 4294967295 by omega)
  have kw : IntKind.u32.wrap (n : Int) = (m4 : Int) := by rw [IntKind.wrap_u32]; omega
  replace gm4 := Lib.hid gm4
  have hB := hr.out.bytes
  generalize (zs.take len).map Int.toNat = ls at hB
  obtain ⟨hB0, hlen, -⟩ := hB
  have hls : ls.length ≤ 140737488351232 := by have := hr.out.len_le; have := hs.out; omega
  replace hB0 := Lib.hid hB0
  replace hlen := Lib.hid hlen
  obtain ⟨S4, H4⟩ : ∃ S, strB (r4 m4) = S := ⟨_, rfl⟩
  obtain ⟨S8, H8⟩ : ∃ S, strB (r8 n) = S := ⟨_, rfl⟩
  obtain ⟨ST, HT⟩ : ∃ S, strB ls.reverse = S := ⟨_, rfl⟩
  replace H4 := Lib.hid H4
  replace H8 := Lib.hid H8
  replace HT := Lib.hid HT
  have T := Lib.hid (Below.refl w.heap.size w)
  refine wp_region_held_drew (S := fun W => Below w.heap.size w W) (by kernel_rfl) (ext_drew w) (fun hS => ?_)
  (refine wpAnyH_take (i := 0) (v := ?_) rfl (by kernel_rfl) (by kernel_rfl) (by kernel_rfl) (fun _ _ _ h => h) (Or.inl ⟨by rfl, ?_⟩) hS ?_; rotate_left; focus (intro W hW; go_simp; try with_reducible rfl))
  go_simp
  (refine wpAnyH_take (i := 1) (v := ?_) rfl (by kernel_rfl) (by kernel_rfl) (by kernel_rfl) (fun _ _ _ h => h) (Or.inl ⟨by rfl, ?_⟩) hS ?_; rotate_left; focus (intro W hW; go_simp; try with_reducible rfl))
  go_simp
  (refine wpAnyH_take (i := 4) (v := ?_) rfl (by kernel_rfl) (by kernel_rfl) (by kernel_rfl) (fun _ _ _ h => h) (Or.inl ⟨by rfl, ?_⟩) hS ?_; rotate_left; focus (intro W hW; go_simp; try with_reducible rfl))
  go_simp
  (refine wpAnyH_take (i := 5) (v := ?_) rfl (by kernel_rfl) (by kernel_rfl) (by kernel_rfl) (fun _ _ _ h => h) (Or.inl ⟨by rfl, ?_⟩) hS ?_; rotate_left; focus (intro W hW; go_simp; try with_reducible rfl))
  go_simp
  refine wpAnyH_ready (rs := [2]) (by kernel_rfl) (by simp) ?_
  refine AllReadyH.cons rfl (fun K hK => ?_) AllReadyH.nil
  go_simp
  go_wp2_with (go_at_call 26; refine (b_put4 m4 _ hm4.out).mono ?_; rintro e wA ⟨aA, nA, cA, rfl, hA, bA⟩)
  have hN := Lib.hid (ext_trans hS bA)
  refine hK.out _ _ hN.out (fun _ => ?_)
  clear hK K bA
  replace hA := Lib.hid hA
  replace T := Lib.hid (ext_trans T.out hN.out)
  clear hS
  refine held_from hN.out (fun hS => ?_)
  clear hN
  go_simp
  (refine wpAnyH_take (i := 3) (v := ?_) rfl (by kernel_rfl) (by kernel_rfl) (by kernel_rfl) (fun _ _ _ h => h) (Or.inl ⟨by rfl, ?_⟩) hS ?_; rotate_left; focus (intro W hW; have kc := conv_take hA.out H4.out hW; go_simp; try with_reducible rfl))
  go_simp
  refine wpAnyH_ready (rs := [6]) (by kernel_rfl) (by simp) ?_
  refine AllReadyH.cons rfl (fun K hK => ?_) AllReadyH.nil
  go_simp
  go_wp2_with (go_at_call 27; refine (c_put4 m4 _ hm4.out).mono ?_; rintro e wB ⟨aB, nB, cB, rfl, hB, bB⟩)
  have hN := Lib.hid (ext_trans hS bB)
  refine hK.out _ _ hN.out (fun _ => ?_)
  clear hK K bB
  replace hB := Lib.hid hB
  replace T := Lib.hid (ext_trans T.out hN.out)
  clear hS
  refine held_from hN.out (fun hS => ?_)
  clear hN
  go_simp
  (refine wpAnyH_take (i := 7) (v := ?_) rfl (by kernel_rfl) (by kernel_rfl) (by kernel_rfl) (fun _ _ _ h => h) (Or.inl ⟨by rfl, ?_⟩) hS ?_; rotate_left; focus (intro W hW; have kc := conv_take hB.out H4.out hW; go_simp; try with_reducible rfl))
  go_simp
  (refine wpAnyH_take (i := 8) (v := ?_) rfl (by kernel_rfl) (by kernel_rfl) (by kernel_rfl) (fun _ _ _ h => h) (Or.inl ⟨by rfl, ?_⟩) hS ?_; rotate_left; focus (intro W hW; go_simp; try with_reducible rfl))
  go_simp
  (refine wpAnyH_take (i := 9) (v := ?_) rfl (by kernel_rfl) (by kernel_rfl) (by kernel_rfl) (fun _ _ _ h => h) (Or.inl ⟨by rfl, ?_⟩) hS ?_; rotate_left; focus (intro W hW; go_simp; try with_reducible rfl))
  go_simp
  (refine wpAnyH_take (i := 10) (v := ?_) rfl (by kernel_rfl) (by kernel_rfl) (by kernel_rfl) (fun _ _ _ h => h) (Or.inl ⟨by rfl, ?_⟩) hS ?_; rotate_left; focus (intro W hW; go_simp; try with_reducible rfl))
  go_simp
  (refine wpAnyH_take (i := 13) (v := ?_) rfl (by kernel_rfl) (by kernel_rfl) (by kernel_rfl) (fun _ _ _ h => h) (Or.inl ⟨by rfl, ?_⟩) hS ?_; rotate_left; focus (intro W hW; go_simp; try with_reducible rfl))
  go_simp
  refine wpAnyH_ready (rs := [11]) (by kernel_rfl) (by simp) ?_
  refine AllReadyH.cons rfl (fun K hK => ?_) AllReadyH.nil
  go_simp
  go_wp2_with (go_at_call 28; refine (b_put8 n _ hn.out).mono ?_; rintro e wC ⟨aC, nC, cC, rfl, hC, bC⟩)
  have hN := Lib.hid (ext_trans hS bC)
  refine hK.out _ _ hN.out (fun _ => ?_)
  clear hK K bC
  replace hC := Lib.hid hC
  replace T := Lib.hid (ext_trans T.out hN.out)
  clear hS
  refine held_from hN.out (fun hS => ?_)
  clear hN
  go_simp
  (refine wpAnyH_take (i := 12) (v := ?_) rfl (by kernel_rfl) (by kernel_rfl) (by kernel_rfl) (fun _ _ _ h => h) (Or.inl ⟨by rfl, ?_⟩) hS ?_; rotate_left; focus (intro W hW; have kc := conv_take hC.out H8.out hW; go_simp; try with_reducible rfl))
  go_simp
  refine wpAnyH_ready (rs := [14]) (by kernel_rfl) (by simp) ?_
  refine AllReadyH.cons rfl (fun K hK => ?_) AllReadyH.nil
  go_simp
  go_wp2_with (go_at_call 29; refine (c_put8 n _ hn.out).mono ?_; rintro e wD ⟨aD, nD, cD, rfl, hD, bD⟩)
  have hN := Lib.hid (ext_trans hS bD)
  refine hK.out _ _ hN.out (fun _ => ?_)
  clear hK K bD
  replace hD := Lib.hid hD
  replace T := Lib.hid (ext_trans T.out hN.out)
  clear hS
  refine held_from hN.out (fun hS => ?_)
  clear hN
  go_simp
  (refine wpAnyH_take (i := 15) (v := ?_) rfl (by kernel_rfl) (by kernel_rfl) (by kernel_rfl) (fun _ _ _ h => h) (Or.inl ⟨by rfl, ?_⟩) hS ?_; rotate_left; focus (intro W hW; have kc := conv_take hD.out H8.out hW; go_simp; try with_reducible rfl))
  go_simp
  (refine wpAnyH_take (i := 16) (v := ?_) rfl (by kernel_rfl) (by kernel_rfl) (by kernel_rfl) (fun _ _ _ h => h) (Or.inl ⟨by rfl, ?_⟩) hS ?_; rotate_left; focus (intro W hW; go_simp; try with_reducible rfl))
  go_simp
  (refine wpAnyH_take (i := 17) (v := ?_) rfl (by kernel_rfl) (by kernel_rfl) (by kernel_rfl) (fun _ _ _ h => h) (Or.inl ⟨by rfl, ?_⟩) hS ?_; rotate_left; focus (intro W hW; go_simp; try with_reducible rfl))
  go_simp
  (refine wpAnyH_take (i := 18) (v := ?_) rfl (by kernel_rfl) (by kernel_rfl) (by kernel_rfl) (fun _ _ _ h => h) (Or.inl ⟨by rfl, ?_⟩) hS ?_; rotate_left; focus (intro W hW; go_simp; try with_reducible rfl))
  go_simp
  (refine wpAnyH_take (i := 19) (v := ?_) rfl (by kernel_rfl) (by kernel_rfl) (by kernel_rfl) (fun _ _ _ h => h) (Or.inl ⟨by rfl, ?_⟩) hS ?_; rotate_left; focus (intro W hW; go_simp; try with_reducible rfl))
  go_simp
  (refine wpAnyH_take (i := 22) (v := ?_) rfl (by kernel_rfl) (by kernel_rfl) (by kernel_rfl) (fun _ _ _ h => h) (Or.inl ⟨by rfl, ?_⟩) hS ?_; rotate_left; focus (intro W hW; go_simp; try with_reducible rfl))
  go_simp
  refine wpAnyH_ready (rs := [20]) (by kernel_rfl) (by simp) ?_
  refine AllReadyH.cons rfl (fun K hK => ?_) AllReadyH.nil
  go_simp
  go_wp2_with (go_at_call 30; refine (b_turn _ ls _ (hB0.out.keep (ext_trans T.out hS) (Nat.le_refl _)) hls).mono ?_; rintro e wE ⟨aE, nE, cE, rfl, hE, bE⟩)
  have hN := Lib.hid (ext_trans hS bE)
  refine hK.out _ _ hN.out (fun _ => ?_)
  clear hK K bE
  replace hE := Lib.hid hE
  replace T := Lib.hid (ext_trans T.out hN.out)
  clear hS
  refine held_from hN.out (fun hS => ?_)
  clear hN
  go_simp
  (refine wpAnyH_take (i := 21) (v := ?_) rfl (by kernel_rfl) (by kernel_rfl) (by kernel_rfl) (fun _ _ _ h => h) (Or.inl ⟨by rfl, ?_⟩) hS ?_; rotate_left; focus (intro W hW; have kc := conv_take hE.out HT.out hW; go_simp; try with_reducible rfl))
  go_simp
  refine wpAnyH_ready (rs := [23]) (by kernel_rfl) (by simp) ?_
  refine AllReadyH.cons rfl (fun K hK => ?_) AllReadyH.nil
  go_simp
  go_wp2_with (go_at_call 31; refine (c_turn _ ls _ (hB0.out.keep (ext_trans T.out hS) (Nat.le_refl _)) hls).mono ?_; rintro e wF ⟨aF, nF, cF, rfl, hF, bF⟩)
  have hN := Lib.hid (ext_trans hS bF)
  refine hK.out _ _ hN.out (fun _ => ?_)
  clear hK K bF
  replace hF := Lib.hid hF
  replace T := Lib.hid (ext_trans T.out hN.out)
  clear hS
  refine held_from hN.out (fun hS => ?_)
  clear hN
  go_simp
  (refine wpAnyH_take (i := 24) (v := ?_) rfl (by kernel_rfl) (by kernel_rfl) (by kernel_rfl) (fun _ _ _ h => h) (Or.inl ⟨by rfl, ?_⟩) hS ?_; rotate_left; focus (intro W hW; have kc := conv_take hF.out HT.out hW; go_simp; try with_reducible rfl))
  go_simp
  (refine wpAnyH_take (i := 25) (v := ?_) rfl (by kernel_rfl) (by kernel_rfl) (by kernel_rfl) (fun _ _ _ h => h) (Or.inl ⟨by rfl, ?_⟩) hS ?_; rotate_left; focus (intro W hW; go_simp; try with_reducible rfl))
  go_simp
  (refine wpAnyH_take (i := 26) (v := ?_) rfl (by kernel_rfl) (by kernel_rfl) (by kernel_rfl) (fun _ _ _ h => h) (Or.inl ⟨by rfl, ?_⟩) hS ?_; rotate_left; focus (intro W hW; go_simp; try with_reducible rfl))
  go_simp
  (refine wpAnyH_take (i := 27) (v := ?_) rfl (by kernel_rfl) (by kernel_rfl) (by kernel_rfl) (fun _ _ _ h => h) (Or.inl ⟨by rfl, ?_⟩) hS ?_; rotate_left; focus (intro W hW; go_simp; try with_reducible rfl))
  go_simp
  refine wpAnyH_ready (rs := [28]) (by kernel_rfl) (by simp) ?_
  refine AllReadyH.cons rfl (fun K hK => ?_) AllReadyH.nil
  go_simp
  go_wp2_with (go_at_call 32; refine (awake2_any _).mono ?_; rintro e wZ ⟨rfl, bZ⟩)
  have hN := Lib.hid (ext_trans hS bZ)
  refine hK.out _ _ hN.out (fun _ => ?_)
  clear hK K bZ
  replace T := Lib.hid (ext_trans T.out hN.out)
  clear hS
  refine held_from hN.out (fun hS => ?_)
  clear hN
  go_simp
  (refine wpAnyH_take (i := 29) (v := ?_) rfl (by kernel_rfl) (by kernel_rfl) (by kernel_rfl) (fun _ _ _ h => h) (Or.inl ⟨by rfl, ?_⟩) hS ?_; rotate_left; focus (intro W hW; go_simp; try with_reducible rfl))
  go_simp
  (refine wpAnyH_take (i := 30) (v := ?_) rfl (by kernel_rfl) (by kernel_rfl) (by kernel_rfl) (fun _ _ _ h => h) (Or.inl ⟨by rfl, ?_⟩) hS ?_; rotate_left; focus (intro W hW; go_simp; try with_reducible rfl))
  go_simp
  refine wpAnyH_done (by kernel_rfl) ?_ _
  go_wp2_with fail
  go_ret
  exact ⟨rfl, ext_trans T.out hS⟩

set_option maxRecDepth 100000 in
theorem lifted (os : Os) (started : os.Started) (H : Type) (enc : TypeId × Value → H) :
    ReturnsInHanded {} Try.checked os 8 .any (Rows.fixedPlaysSpec.pre6 enc Try.prog Try.f8 Rows.fixedPlaysRow.domain false) (Rows.fixedPlaysSpec.post enc Try.prog Try.f8 false true false false) := by
  refine returnsInHanded_of_change_sized (C := Try.checked) own started (by kernel_rfl) Try.func8
    (ChangeSpec.witness6 (enc := enc) (C := Try.checked) false ⟨#[], #[.int .u64 0, .slice none 0 0, .int .i64 0], []⟩ 8 (by kernel_rfl) (by kernel_rfl) (by kernel_rfl) (by kernel_rfl)) ?_
  intro W base args ds gs before hval0 hW hcnd hsz0 _
  have hsz : (DataW.weightsEach Try.prog (Try.f8.params.toList ++ Rows.fixedPlaysSpec.plain.varTypes Try.prog) (ds ++ gs)).all (· ≤ reachBytes) = true := hsz0
  have hval : ∀ (j : Nat) t v, Try.f8.params[j]? = some t → args[j]? = some v → Value.okWide Try.prog W .any base t v := hval0
  have hW' := hW
  obtain ⟨p, q, hA0, hV, rfl, hfz, hnd⟩ := hW
  have hA : DataW.TrodAll enc Try.prog W 0 (fun _ => true) true Try.f8.params.toList args.toList ds p := hA0
  rw [Try.params8] at hA hval hsz
  obtain ⟨v0, vs0, d0, ds0, p0, q0, hargs, rfl, rfl, h0, r0⟩ := trodAll_cons hA
  obtain ⟨v1, vs1, d1, ds1, p1, q1, rfl, rfl, rfl, h1, r1⟩ := trodAll_cons r0
  obtain ⟨v2, vs2, d2, ds2, p2, q2, rfl, rfl, rfl, h2, r2⟩ := trodAll_cons r1
  obtain ⟨rfl, rfl, rfl⟩ := trodAll_nil r2
  obtain rfl : args = #[v0, v1, v2] := by cases args; simp_all
  obtain ⟨rfl, rfl⟩ := trodVars_none hV
  have k0 := h0
  have lt0 : ∀ x ∈ p0, x.block < W.heap.size := by obtain ⟨m, hm⟩ := k0; exact DataW.trod_lt m _ _ _ hm
  have k1 := h1
  have lt1 : ∀ x ∈ p1, x.block < W.heap.size := by obtain ⟨m, hm⟩ := k1; exact DataW.trod_lt m _ _ _ hm
  have k2 := h2
  have lt2 : ∀ x ∈ p2, x.block < W.heap.size := by obtain ⟨m, hm⟩ := k2; exact DataW.trod_lt m _ _ _ hm
  obtain ⟨a0, rfl, rfl, rfl, w0⟩ := open_int Try.underlying22 (hval 0 22 v0 rfl rfl) h0
  have b0 := wf_u64 w0
  obtain ⟨a1, len1, cap1, rfl⟩ := okWide_slice Try.underlying23 (hval 1 23 v1 rfl rfl)
  obtain ⟨z1, w1, s1⟩ : ∃ zs, IsRow .u8 W a1 len1 cap1 zs ∧ cap1 * 1 ≤ 140737488351232 := by
    obtain ⟨fuel, hf⟩ := h1
    rcases open_ints Try.underlying23 Try.underlying5 (by kernel_rfl) hf with ⟨hcs, _⟩ | ⟨x, l, c, zs, hcs, _, hl, hm, hz, hx, hcell, hwz⟩
    · simp [Value.cells] at hcs
      obtain ⟨rfl, rfl, rfl⟩ := hcs
      exact ⟨[], .inl ⟨rfl, rfl, rfl, rfl⟩, by omega⟩
    · simp [Value.cells] at hcs
      obtain ⟨rfl, rfl, rfl⟩ := hcs
      have hz' : zs.length = cap1 := by simpa using hz
      have hd : d1 = .slice (lits .u8 (zs.take len1)) (lits .u8 (zs.drop len1)) := congrArg Prod.fst hx
      have hroom := sized_slice hsz (j := 1) (t := 23) (e := 5) rfl (by rw [hd]; rfl) Try.underlying23
      rw [show Try.prog.bytesOf 5 = 1 from by kernel_rfl] at hroom
      simp only [lits, List.length_map, List.length_take, List.length_drop, reachBytes] at hroom
      exact ⟨zs, .inr ⟨_, rfl, hl, hm, hz', hcell, hwz⟩, by omega⟩
  obtain ⟨a2, rfl, rfl, rfl, w2⟩ := open_int Try.underlying3 (hval 2 3 v2 rfl rfl) h2
  have b2 := wf_i64 w2
  clear hA0 hval0 hsz0
  refine (walk a0 a1 len1 cap1 z1 a2 W b0 w1 s1 b2).mono fun e W' ⟨he, bel⟩ => ?_
  subst he
  exact ⟨_, rfl, _, _, _, [], _, [], hW', trodAll_mk1 (shut_bool Try.underlying4 _), (trodAll_cons_mk (Below.trod laidOut (by kernel_rfl) (of_decide_eq_true (by kernel_rfl)) k0 bel lt0) (trodAll_cons_mk (Below.trod laidOut (by kernel_rfl) (of_decide_eq_true (by kernel_rfl)) k1 bel lt1) (trodAll_cons_mk (Below.trod laidOut (by kernel_rfl) (of_decide_eq_true (by kernel_rfl)) k2 bel lt2) trodAll_mk0))), rfl, bel.frame _, fun h => by cases h⟩

theorem over : Rows.fixedPlaysRow.holds Try.pinned (OpenSpec.ofChange Rows.fixedPlaysSpec) :=
  OpenClaim.holds_of_wide 8 Try.f8 rfl rfl rfl rfl rfl rfl rfl ⟨rfl, rfl, rfl, rfl, rfl⟩ rfl rfl rfl rfl rfl (by kernel_rfl) Try.func8 (by kernel_rfl)
    (of_decide_eq_true (by kernel_rfl)) (by unfold Func.isWrapper; first | (rw [if_pos (by decide +kernel)]; kernel_rfl) | (rw [if_neg (by decide +kernel)]; exact ⟨rfl, rfl⟩))
    (fun os started H enc _ => lifted os started H enc)

theorem proved : Rows.FixedPlaysSaid := over
end Go.Proofs.Ytnhphkiklfajnaa.fixedPlays
