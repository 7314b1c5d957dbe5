/-
  FlightPlays: FOR EVERY INPUT the law returns true and leaves its arguments as they were.
-/
import Derived.Test.YtcjoemejoeekiaaNg
import Derived.Test.YtcjoemejoeekiaaNe
import Derived.Test.YtcjoemejoeekiaaAs
import Derived.Test.YtcjoemejoeekiaaRows
import Derived.WalkKit
import Derived.Deep.RegionHeld3
import Derived.Deep.MidRow
import Derived.ProofKit
import Derived.OpenShut
import Derived.ShutString
import Derived.ChangeOld
import Derived.Below
import Derived.SizedLaws
import Derived.Lib.SmallJoins
namespace Go.Proofs.Ytcjoemejoeekiaa.flightPlays
open Go.ChangeShapes Go.WideShapes Go.ChangeAt Go.RowKit
open Go.ChangeMaps (open_string shut_string)
set_option linter.unusedVariables false
set_option linter.unusedSimpArgs false

theorem own : ownKnob Try.prog.godebug = none := by kernel_rfl
theorem laidOut : laidOutB Try.prog = true := by kernel_rfl

open Fli Que Ids
set_option maxHeartbeats 32000000 in
set_option maxRecDepth 100000 in
theorem walk (ad : Option Addr) (len cap : Nat) (A : List Acs.Ac) (w : World) (h0 : Acs.AcsAt w (.slice ad len cap) A) (ok0 : ∀ f ∈ A, f.ok) :
    Calls Try.prog 8 #[.slice ad len cap] w (Yes w) := by
  obtain ⟨x0, y0, hv0, hl0, hc⟩ := id h0
  simp only [Value.slice.injEq] at hv0
  obtain ⟨rfl, rfl, rfl⟩ := hv0
  have hl0' : (A.length : Int) ≤ 9223372036854775807 := by omega
  replace hc := Lib.hid hc
  clear h0 ok0 hl0
  have N1 := Lib.hid (f_new w)
  go_enter Try.func8, Try.ntmps8
  go_wp2_with fail
  refine N1.out.mono ?_
  rintro e w1 ⟨f, g, rfl, s1, b1⟩
  have S1 : Hid (FB w w (w1.alloc (.cells #[.slice none 0 0] 62)) f g w1.heap.size (fun _ => False) [] [] (.slice none 0 0) []) := Lib.hid ⟨s1.more (ext_alloc w1 _) (by
    rintro k (hk | rfl | hk | hk)
    · exact .inl hk
    · exact .inr ⟨Nat.le_refl _, by simp⟩
    · cases hk
    · exact hk.elim), ⟨heap_alloc_new w1 _, World.ownsRow_nil _ _ _ _⟩, b1.trans ((ext_alloc w1 _).mono b1.size), b1.size, fun k hk => hk.elim⟩
  clear s1 b1 N1
  go_wp2_with fail
  generalize w1.alloc (.cells #[.slice none 0 0] 62) = W0 at *
  generalize w1.heap.size = x at *
  go_loopw [5] (fun iv wr => ∃ (i : Nat) (T : List Bool) (L : List Se) (v : Value), iv = .int .i64 (i : Int) ∧ i ≤ A.length ∧ i ≤ 60 ∧ FB w w wr f g x (fun _ => False) T L v L ∧ Inv L) (fun iv _ => A.length - (intOf iv).toNat)
  case atStart => exact ⟨0, [], [], _, rfl, by omega, by omega, S1.out, fun e he => (by cases he)⟩
  case round =>
    obtain ⟨i, T, L, v, rfl, hi, hi2, h, hI⟩ := hrel
    clear S1
    by_cases hlt : i < A.length ∧ i < 60
    · obtain ⟨hlt0, hlt1⟩ := hlt
      obtain ⟨a, ha⟩ : ∃ a, A[i]? = some a := ⟨_, List.getElem?_eq_getElem hlt0⟩
      obtain ⟨b', o', rfl, -, c0, c1, c2, c3, c4, c5⟩ := Acs.acsAt_at ha h.bw hc.out
      obtain ⟨K, n, t, y, q, r⟩ := a
      simp only at c0 c1 c2 c3 c4 c5
      have DO := Lib.hid (do_both h hI K n t y q r)
      have hlt0' : (i : Int) < (A.length : Int) := by omega
      have hlt1' : (i : Int) < 60 := by omega
      clear h hI ha
      go_wp2_with fail
      refine DO.out.mono ?_
      rintro e w2 ⟨rfl, T2, L2, v2, h2, i2⟩
      have H2 := Lib.hid h2
      have I2 := Lib.hid i2
      have AL := Lib.hid (f_all h2.fs)
      have hL8 := h2.fs.le
      have hL8' : (L2.length : Int) ≤ 8 := by omega
      clear h2 i2 c0 c1 c2 c3 c4 c5 DO
      go_wp2_with fail
      refine AL.out.mono ?_
      rintro e w3 ⟨v3, rfl, o3, b3⟩
      obtain ⟨va, vc, rfl⟩ := own_slice o3
      have H3 := Lib.hid (H2.out.ext b3)
      have O3 := Lib.hid o3
      obtain ⟨xa, xc, hxv⟩ := own_slice H3.out.xf.its
      have c7 := H3.out.xf.c0
      rw [hxv] at c7
      replace hxv := Lib.hid hxv
      have LN : Hid (∀ q, Calls Try.prog 31 #[.pointer (some ⟨f, 0, none⟩)] (w3.drewN q) fun e w' => e = .returned (.int .i64 (L2.length : Nat)) ∧ w' = w3.drewN q) := Lib.hid fun q =>
        (f_len (H3.out.ext (ext_drewN w3 q)).fs).mono fun e w' ⟨he, hw⟩ => ⟨he, hw.symm⟩
      have KX : Hid (∀ W, Below w3.heap.size w3 W → W.cell? ⟨x, 0, none⟩ = some (.slice xa L2.length xc)) := Lib.hid fun W hW => by
        rw [← hxv.out]; exact (H3.out.ext hW).xf.c0
      clear o3 b3 AL
      go_wp2_with fail
      go_quiet (first | (go_at_call 31; exact Calls.quiet_of_same (LN.out _)))
      go_wp2_with fail
      clear c7
      go_loopw [7] (fun kv wr => ∃ k : Nat, kv = .int .i64 (k : Int) ∧ k ≤ L2.length ∧ Below w3.heap.size w3 wr) (fun kv _ => L2.length - (intOf kv).toNat)
      case atStart => exact ⟨0, rfl, by omega, ext_drewN _ _⟩
      case round =>
        obtain ⟨k, rfl, hk, hb8⟩ := hrel
        have HB8 := Lib.hid hb8
        have c8 := KX.out _ hb8
        by_cases hkl : k < L2.length
        · have hkl' : (k : Int) < (L2.length : Int) := by omega
          obtain ⟨y, hy⟩ : ∃ y, L2[k]? = some y := ⟨_, List.getElem?_eq_getElem hkl⟩
          obtain ⟨gb, cb, hvb⟩ := own_slice' O3.out (by omega)
          have o8 := own_keep O3.out hb8
          have G := seC_get L2 k y hy
          obtain ⟨gx, cx, hvx⟩ := own_slice' H3.out.xf.its (by omega)
          have hve := hxv.out.symm.trans hvx
          simp only [Value.slice.injEq] at hvb hve
          obtain ⟨rfl, -, rfl⟩ := hvb
          obtain ⟨rfl, -, rfl⟩ := hve
          have q0 : wr.cell? ⟨gb, k * 6, none⟩ = some (.int .i64 y.i) := own_get o8 (by have := G 0 (by omega); simpa [Se.cells] using this)
          have q1 : wr.cell? ⟨gb, k * 6 + 1, none⟩ = some (.int .i64 y.s) := own_get o8 (by have := G 1 (by omega); simpa [Se.cells] using this)
          have q2 : wr.cell? ⟨gb, k * 6 + 2, none⟩ = some (.string y.t) := own_get o8 (by have := G 2 (by omega); simpa [Se.cells] using this)
          have q3 : wr.cell? ⟨gb, k * 6 + 3, none⟩ = some (.string y.x) := own_get o8 (by have := G 3 (by omega); simpa [Se.cells] using this)
          have q4 : wr.cell? ⟨gb, k * 6 + 4, none⟩ = some (.int .i64 y.q) := own_get o8 (by have := G 4 (by omega); simpa [Se.cells] using this)
          have q5 : wr.cell? ⟨gb, k * 6 + 5, none⟩ = some (.bool y.r) := own_get o8 (by have := G 5 (by omega); simpa [Se.cells] using this)
          have X := fun j hj => (H3.out.ext hb8).xf.at hvx hy (j := j) hj
          have r0 : wr.cell? ⟨gx, k * 6, none⟩ = some (.int .i64 y.i) := by have := X 0 (by omega); simpa [Se.cells] using this
          have r1 : wr.cell? ⟨gx, k * 6 + 1, none⟩ = some (.int .i64 y.s) := by have := X 1 (by omega); simpa [Se.cells] using this
          have r2 : wr.cell? ⟨gx, k * 6 + 2, none⟩ = some (.string y.t) := by have := X 2 (by omega); simpa [Se.cells] using this
          have r3 : wr.cell? ⟨gx, k * 6 + 3, none⟩ = some (.string y.x) := by have := X 3 (by omega); simpa [Se.cells] using this
          have r4 : wr.cell? ⟨gx, k * 6 + 4, none⟩ = some (.int .i64 y.q) := by have := X 4 (by omega); simpa [Se.cells] using this
          have r5 : wr.cell? ⟨gx, k * 6 + 5, none⟩ = some (.bool y.r) := by have := X 5 (by omega); simpa [Se.cells] using this
          clear hb8 o8 G X hvx hy
          go_wp2_with fail
          go_quiet (fail)
          go_wp2_with fail
          go_roundw
          case rel => exact ⟨k + 1, by simp, by omega, below_drewN HB8.out _⟩
          case measure => simp [intOf]; omega
        · obtain rfl : k = L2.length := by omega
          have H8 := Lib.hid (H3.out.ext hb8)
          have AG := Lib.hid (f_again H8.out.fs)
          clear hb8 hkl
          go_wp2_with fail
          refine AG.out.mono ?_
          rintro e w5 ⟨v5, rfl, o5, b5⟩
          have H5 := Lib.hid (H8.out.ext b5)
          have XG := Lib.hid (xagain_any H5.out.xf hL8)
          obtain ⟨pa, pc, rfl⟩ := own_slice o5
          have O5 := Lib.hid o5
          clear o5 b5 AG c8
          go_wp2_with fail
          refine XG.out.mono ?_
          rintro e w6 ⟨v6, rfl, o6, b6⟩
          have H6 := Lib.hid (H5.out.ext b6)
          obtain ⟨ra, rc, rfl⟩ := own_slice o6
          have O6 := Lib.hid o6
          have O56 := Lib.hid (own_keep O5.out b6)
          clear o6 b6 XG
          go_wp2_with fail
          go_loopw [10] (fun kv wr => ∃ k : Nat, kv = .int .i64 (k : Int) ∧ k ≤ L2.length ∧ Below w6.heap.size w6 wr) (fun kv _ => L2.length - (intOf kv).toNat)
          case atStart => exact ⟨0, rfl, by omega, Below.refl _ _⟩
          case round =>
            obtain ⟨k, rfl, hk, hb9⟩ := hrel
            have HB9 := Lib.hid hb9
            by_cases hkl : k < L2.length
            · have hkl' : (k : Int) < (L2.length : Int) := by omega
              have hk0 : (0 : Int) ≤ (k : Int) := by omega
              obtain ⟨y, hy⟩ : ∃ y, L2[k]? = some y := ⟨_, List.getElem?_eq_getElem hkl⟩
              have hkm : k < L2.length := hkl
              obtain ⟨ga, cb, hva⟩ := own_slice' O56.out (by omega)
              obtain ⟨gx, cx, hvx⟩ := own_slice' O6.out (by omega)
              simp only [Value.slice.injEq] at hva hvx
              obtain ⟨rfl, -, rfl⟩ := hva
              obtain ⟨rfl, -, rfl⟩ := hvx
              have G := pkC_get L2 k y hy
              have hlen := pk_len y
              have SM := Lib.hid (same_any y)
              have hi78 := Lib.hid (show (Try.prog.info? 78).map (·.size) = some (pk y).length by rw [hlen]; exact size78)
              generalize pk y = cs at *
              have KS : Hid (∀ W, Below wr.heap.size wr W → W.rangeAt ga (k * 24) cs ∧ W.rangeAt gx (k * 24) cs) := Lib.hid fun W hW => by
                have hW6 := HB9.out.trans (hW.mono HB9.out.size)
                refine ⟨fun j u hj => own_get (own_keep O56.out hW6) ?_, fun j u hj => own_get (own_keep O6.out hW6) ?_⟩
                all_goals
                  rw [G j (by rw [← hlen]; exact (List.getElem?_eq_some_iff.1 hj).1), hj]
              clear hb9 G hy hlen
              go_wp2_with fail
              refine wp_region_held_drew (S := fun W => W.rangeAt ga (k * 24) cs ∧ W.rangeAt gx (k * 24) cs) (by kernel_rfl) (KS.out _ (ext_drew _)) (fun hHeld => ?_)
              refine wpAnyH_take (i := 0) (oi := _) (v := ?zv0) rfl (by kernel_rfl) (by kernel_rfl) (by kernel_rfl) (fun _ _ _ h => h) (Or.inl ⟨by rfl, ?zy0⟩) (by assumption) ?zr0
              case zy0 => (intro w hSw; go_simp <;> with_reducible rfl)
              try simp only [Act.put, List.setIfInBounds_toArray, List.set_cons_zero, List.set_cons_succ]
              refine wpAnyH_take (i := 1) (oi := _) (v := ?zv1) rfl (by kernel_rfl) (by kernel_rfl) (by kernel_rfl) (fun _ _ _ h => h) (Or.inl ⟨by rfl, ?zy1⟩) (by assumption) ?zr1
              case zy1 => (intro w hSw; go_simp <;> with_reducible rfl)
              try simp only [Act.put, List.setIfInBounds_toArray, List.set_cons_zero, List.set_cons_succ]
              refine wpAnyH_take (i := 2) (oi := _) (v := ?zv2) rfl (by kernel_rfl) (by kernel_rfl) (by kernel_rfl) (fun _ _ _ h => h) (Or.inl ⟨by rfl, ?zy2⟩) (by assumption) ?zr2
              case zy2 => (intro w hSw; go_simp <;> with_reducible rfl)
              try simp only [Act.put, List.setIfInBounds_toArray, List.set_cons_zero, List.set_cons_succ]
              refine wpAnyH_take (i := 3) (oi := _) (v := .agg cs.toArray) rfl (by kernel_rfl) (by kernel_rfl) (by kernel_rfl) (fun _ _ _ h => h) (yieldsIf_load_mid (by rfl) 78 _ rfl ga (k * 24) (by rfl) cs _ (fun w hSw => hSw.1) Try.underlying78 rfl hi78.out) (by assumption) ?zr3
              try simp only [Act.put, List.setIfInBounds_toArray, List.set_cons_zero, List.set_cons_succ]
              refine wpAnyH_take (i := 4) (oi := _) (v := ?zv4) rfl (by kernel_rfl) (by kernel_rfl) (by kernel_rfl) (fun _ _ _ h => h) (Or.inl ⟨by rfl, ?zy4⟩) (by assumption) ?zr4
              case zy4 => (intro w hSw; go_simp <;> with_reducible rfl)
              try simp only [Act.put, List.setIfInBounds_toArray, List.set_cons_zero, List.set_cons_succ]
              refine wpAnyH_take (i := 5) (oi := _) (v := ?zv5) rfl (by kernel_rfl) (by kernel_rfl) (by kernel_rfl) (fun _ _ _ h => h) (Or.inl ⟨by rfl, ?zy5⟩) (by assumption) ?zr5
              case zy5 => (intro w hSw; go_simp <;> with_reducible rfl)
              try simp only [Act.put, List.setIfInBounds_toArray, List.set_cons_zero, List.set_cons_succ]
              refine wpAnyH_take (i := 6) (oi := _) (v := ?zv6) rfl (by kernel_rfl) (by kernel_rfl) (by kernel_rfl) (fun _ _ _ h => h) (Or.inl ⟨by rfl, ?zy6⟩) (by assumption) ?zr6
              case zy6 => (intro w hSw; go_simp <;> with_reducible rfl)
              try simp only [Act.put, List.setIfInBounds_toArray, List.set_cons_zero, List.set_cons_succ]
              refine wpAnyH_take (i := 7) (oi := _) (v := .agg cs.toArray) rfl (by kernel_rfl) (by kernel_rfl) (by kernel_rfl) (fun _ _ _ h => h) (yieldsIf_load_mid (by rfl) 78 _ rfl gx (k * 24) (by rfl) cs _ (fun w hSw => hSw.2) Try.underlying78 rfl hi78.out) (by assumption) ?zr7
              try simp only [Act.put, List.setIfInBounds_toArray, List.set_cons_zero, List.set_cons_succ]
              refine wpAnyH_ready (rs := [8]) (by kernel_rfl) (by simp) ?_
              refine AllReadyH.cons (o := _) rfl (fun K hK => ?_) AllReadyH.nil
              go_simp
              refine (SM.out _).mono ?_
              rintro e w7 ⟨rfl, b7⟩
              go_wp2_with fail
              refine hK.out _ _ (KS.out _ (ext_trans (ext_drew _) b7)) (fun hHeld2 => ?_)
              have HB7 := Lib.hid (ext_trans (ext_drew _) b7)
              clear hK K b7
              try simp only [Act.put, List.setIfInBounds_toArray, List.set_cons_zero, List.set_cons_succ]
              refine wpAnyH_take (i := 9) (oi := _) (v := ?zv9) rfl (by kernel_rfl) (by kernel_rfl) (by kernel_rfl) (fun _ _ _ h => h) (Or.inl ⟨by rfl, ?zy9⟩) (by assumption) ?zr9
              case zy9 => (intro w hSw; go_simp <;> with_reducible rfl)
              try simp only [Act.put, List.setIfInBounds_toArray, List.set_cons_zero, List.set_cons_succ]
              refine wpAnyH_done (by kernel_rfl) ?_ _
              clear hHeld hHeld2
              go_wp2_with fail
              go_roundw
              case rel => exact ⟨k + 1, by simp, by omega, HB9.out.trans (HB7.out.mono HB9.out.size)⟩
              case measure => simp [intOf]; omega
            · obtain rfl : k = L2.length := by omega
              clear hb9
              go_wp2_with fail
              go_roundw
              case rel => exact ⟨i + 1, T2, L2, v2, by simp, by omega, by omega, H6.out.ext HB9.out, I2.out⟩
              case measure => simp [intOf]; omega
    · have BW := Lib.hid h.bw
      clear h hI
      by_cases c1 : i < A.length
      all_goals
        first
          | (have c3 : ¬ (i : Int) < 60 := by omega
             have c4 : (i : Int) < (A.length : Int) := by omega)
          | (have c4 : ¬ (i : Int) < (A.length : Int) := by omega)
        clear hlt c1
        go_wp2_with fail
        refine (awake23_any _).mono ?_
        rintro e w2 ⟨rfl, b2⟩
        go_wp2
        go_ret
        exact ⟨rfl, ext_trans BW.out b2⟩

set_option maxRecDepth 100000 in
theorem lifted (os : Os) (started : os.Started) (H : Type) (enc : TypeId × Value → H) :
    ReturnsInHanded {} Try.checked os 8 .any (Rows.flightPlaysSpec.pre6 enc Try.prog Try.f8 Rows.flightPlaysRow.domain false) (Rows.flightPlaysSpec.post enc Try.prog Try.f8 false true false false) := by
  refine returnsInHanded_of_change_sized (C := Try.checked) own started (by kernel_rfl) Try.func8
    (ChangeSpec.witness6 (enc := enc) (C := Try.checked) false ⟨#[], #[.slice none 0 0], []⟩ 8 (by kernel_rfl) (by kernel_rfl) (by kernel_rfl) (by kernel_rfl)) ?_
  intro W base args ds gs before hval0 hW hcnd hsz0 _
  have hsz : (DataW.weightsEach Try.prog (Try.f8.params.toList ++ Rows.flightPlaysSpec.plain.varTypes Try.prog) (ds ++ gs)).all (· ≤ reachBytes) = true := hsz0
  have hval : ∀ (j : Nat) t v, Try.f8.params[j]? = some t → args[j]? = some v → Value.okWide Try.prog W .any base t v := hval0
  have hW' := hW
  obtain ⟨p, q, hA0, hV, rfl, hfz, hnd⟩ := hW
  have hA : DataW.TrodAll enc Try.prog W 0 (fun _ => true) true Try.f8.params.toList args.toList ds p := hA0
  rw [Try.params8] at hA hval hsz
  obtain ⟨v0, vs0, d0, ds0, p0, q0, hargs, rfl, rfl, h0, r0⟩ := trodAll_cons hA
  obtain ⟨rfl, rfl, rfl⟩ := trodAll_nil r0
  obtain rfl : args = #[v0] := by cases args; simp_all
  obtain ⟨rfl, rfl⟩ := trodVars_none hV
  have k0 := h0
  have lt0 : ∀ x ∈ p0, x.block < W.heap.size := by obtain ⟨m, hm⟩ := k0; exact DataW.trod_lt m _ _ _ hm
  obtain ⟨a0, len0, cap0, rfl⟩ := okWide_slice Try.underlying56 (hval 0 56 v0 rfl rfl)
  obtain ⟨z0, w0, s0⟩ : ∃ l : List Acs.Ac, Acs.AcsAt W (.slice a0 len0 cap0) l ∧ ∀ f ∈ l, f.ok := by
    obtain ⟨fuel, hf⟩ := h0
    exact Acs.open_acs hf (fun n hn => by
      have hm := List.all_eq_true.1 hsz n (DataW.weights_mem_each (j := 0) (t := 56) rfl rfl _ hn)
      simpa [reachBytes] using of_decide_eq_true hm)
  clear hA0 hval0 hsz0
  refine (walk a0 len0 cap0 z0 W w0 s0).mono fun e W' ⟨he, bel⟩ => ?_
  subst he
  exact ⟨_, rfl, _, _, _, [], _, [], hW', trodAll_mk1 (shut_bool Try.underlying4 _), (trodAll_cons_mk (Below.trod laidOut (by kernel_rfl) (of_decide_eq_true (by kernel_rfl)) k0 bel lt0) trodAll_mk0), rfl, bel.frame _, fun h => by cases h⟩

theorem over : Rows.flightPlaysRow.holds Try.pinned (OpenSpec.ofChange Rows.flightPlaysSpec) :=
  OpenClaim.holds_of_wide 8 Try.f8 rfl rfl rfl rfl rfl rfl rfl ⟨rfl, rfl, rfl, rfl, rfl⟩ rfl rfl rfl rfl rfl (by kernel_rfl) Try.func8 (by kernel_rfl)
    (of_decide_eq_true (by kernel_rfl)) (by unfold Func.isWrapper; first | (rw [if_pos (by decide +kernel)]; kernel_rfl) | (rw [if_neg (by decide +kernel)]; exact ⟨rfl, rfl⟩))
    (fun os started H enc _ => lifted os started H enc)

theorem proved : Rows.FlightPlaysSaid := over
end Go.Proofs.Ytcjoemejoeekiaa.flightPlays
