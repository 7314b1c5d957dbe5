/-
  HostPlays: FOR EVERY INPUT the law returns true and leaves its arguments as they were.
-/
import Derived.Test.YtdljddghbkcddaaHp
import Derived.Test.YtdljddghbkcddaaRows
import Derived.WalkKit
import Derived.Deep.RegionHeld3
import Derived.ProofKit
import Derived.OpenShut
import Derived.ShutString
import Derived.ChangeOld
import Derived.Below
import Derived.SizedLaws
import Derived.Lib.SmallJoins
namespace Go.Proofs.Ytdljddghbkcddaa.hostPlays
open Go.ChangeShapes Go.WideShapes Go.ChangeAt Go.RowKit
open Go.ChangeMaps (open_string shut_string)
set_option linter.unusedVariables false

theorem own : ownKnob Try.prog.godebug = none := by kernel_rfl
theorem laidOut : laidOutB Try.prog = true := by kernel_rfl

open Hst Go.Maps Go.WideMaps
set_option maxHeartbeats 16000000 in
set_option maxRecDepth 100000 in
theorem walk (a0 : Option Addr) (len0 cap0 : Nat) (z0 : List ByteArray) (a1 : Option Addr) (len1 cap1 : Nat) (z1 : List ByteArray) (w : World) (h0 : StrRow w a0 len0 z0) (h1 : StrRow w a1 len1 z1) :
    Calls Try.prog 6 #[.slice a0 len0 cap0, .slice a1 len1 cap1] w (Yes w) := by
  obtain ⟨e0, m0, c0⟩ := h0
  obtain ⟨e1, m1, c1⟩ := h1
  unfold maxLen at m0 m1
  have HC0 := Lib.hid c0
  have HC1 := Lib.hid c1
  clear e0 e1 c0 c1
  go_enter Try.func6, Try.ntmps6
  go_wp2_with fail
  refine (Hst.new_any w).mono ?_
  rintro e w0 ⟨rfl, hh, hb⟩
  have R0 : Hid (HR w (w0.alloc (.cells #[.slice none 0 0] 59)) (w.heap.size + 1) w.heap.size 0 kn0 D00 w0.heap.size (.slice none 0 0) []) := Lib.hid ⟨hh.keep (ext_alloc _ _), ⟨heap_alloc_new w0 _, rfl, .inl ⟨rfl, rfl⟩⟩, hb.trans ((ext_alloc w0 _).mono hb.size), List.Perm.refl _, List.Pairwise.nil, by omega, Nat.le_refl _, hb.size, fun _ => rfl⟩
  clear hh hb
  go_wp2_with fail
  generalize w0.alloc (.cells #[.slice none 0 0] 59) = W0 at *
  generalize w0.heap.size = x at *
  go_loopw [7] (fun iv wr => ∃ (i n : Nat) (kn : List Host) (D : DataW Unit) (v : Value) (L : List Host), iv = .int .i64 (i : Int) ∧ i ≤ 60 ∧ i ≤ len0 ∧ i ≤ len1 ∧ HR w wr (w.heap.size + 1) w.heap.size n kn D x v L) (fun iv _ => 60 - (intOf iv).toNat)
  case atStart => exact ⟨0, 0, _, _, _, _, rfl, by omega, by omega, by omega, R0.out⟩
  case round =>
    obtain ⟨i, n, kn, D, v, L, rfl, hi, hi0, hi1, h⟩ := hrel
    clear R0
    by_cases hlt : i < len0 ∧ i < len1 ∧ i < 60
    · obtain ⟨l0, l1, l2⟩ := hlt
      have hc0 := HC0.out
      have hc1 := HC1.out
      rcases hc0 with h' | ⟨b0, o0, rfl, hb0, hc0⟩
      · omega
      rcases hc1 with h' | ⟨b1, o1, rfl, hb1, hc1⟩
      · omega
      obtain ⟨hc0, hs0⟩ := hc0 i l0
      obtain ⟨hc1, hs1⟩ := hc1 i l1
      have KS : Hid (∀ W, Below w.heap.size w W → W.cell? ⟨b0, o0 + i, none⟩ = some (.string (z0.getD i ByteArray.empty)) ∧ W.cell? ⟨b1, o1 + i, none⟩ = some (.string (z1.getD i ByteArray.empty))) := Lib.hid fun W hW => ⟨(hW.cell (p := ⟨b0, o0 + i, none⟩) hb0).trans hc0, (hW.cell (p := ⟨b1, o1 + i, none⟩) hb1).trans hc1⟩
      generalize z0.getD i ByteArray.empty = name at *
      generalize z1.getD i ByteArray.empty = text at *
      obtain ⟨c, n', kn', D', L', TA, TB⟩ := take_both h name text hs0
      obtain ⟨d0, d1⟩ := KS.out wr h.bw
      have BW := Lib.hid h.bw
      replace TA := Lib.hid TA
      replace TB := Lib.hid TB
      have j0 : (i : Int) < (len0 : Int) := by omega
      have j1 : (i : Int) < (len1 : Int) := by omega
      have j2 : (i : Int) < 60 := by omega
      clear h hs0 hs1 hc0 hc1
      go_wp2_with fail
      go_region_held3 (fun W => W.cell? ⟨b0, o0 + i, none⟩ = some (.string name) ∧ W.cell? ⟨b1, o1 + i, none⟩ = some (.string text))
        (exact KS.out _ (by first | exact BW.out | exact BW.out.drew | exact I5.bw | exact I5.bw.drew | exact I6.bw | exact I6.bw.drew))
        (first
          | (go_at_call 21; refine (TA.out _ (by first | exact Below.refl _ _ | exact ext_drew _)).mono ?_; rintro e w5 ⟨rfl, I5⟩)
          | (go_at_call 22; refine (TB.out _ (by first | exact I5 | exact I5.ext (ext_drew _))).mono ?_; rintro e w6 ⟨rfl, v6, I6⟩))
      all_goals
        have R6 := Lib.hid (show HR w _ _ _ _ _ _ _ _ _ from (by first | exact I6 | exact I6.ext (ext_drew _)))
        clear I5 I6 TA TB BW d0 d1
        have hpl := R6.out.p.length_eq
        have AL := Lib.hid (all_any _ _ _ _ _ _ R6.out.hs)
        go_wp2_with fail
        refine AL.out.mono ?_
        rintro e w7 ⟨blk, cap, l2, rfl, hbk, hp, hr, hcc, b7⟩
        obtain rfl := rise_uniq hr R6.out.s (hp.trans R6.out.p.symm)
        rw [← hpl]
        have R7 := Lib.hid (R6.out.ext b7)
        have HC := Lib.hid hcc
        have c7 := R7.out.xh.c0
        obtain ⟨va, vc, hv⟩ := own_slice R7.out.xh.its
        rw [hv] at c7
        replace hv := Lib.hid hv
        have hl4 : l2.length ≤ 4 := by have := R7.out.len; omega
        have hl4' : (l2.length : Int) ≤ 4 := by omega
        have LN : Hid (∀ q, Calls Try.prog 24 #[.pointer (some ⟨w.heap.size + 1, 0, none⟩)] (w7.drewN q) fun e w' => e = .returned (.int .i64 (l2.length : Nat)) ∧ w' = w7.drewN q) := Lib.hid fun q => by
          have := Hst.len_any _ _ _ _ _ _ (R7.out.ext (ext_drewN w7 q)).hs
          rw [R7.out.len.1]
          exact this.mono fun e w' ⟨he, hw⟩ => ⟨he, hw.symm⟩
        clear hp hr hcc b7 AL hpl R6
        go_wp2_with fail
        go_quiet (first | (go_at_call 24; exact Calls.quiet_of_same (LN.out _)))
        go_wp2_with fail
        go_loopw [9] (fun kv wr => ∃ k : Nat, kv = .int .i64 (k : Int) ∧ k ≤ l2.length ∧ Below w7.heap.size w7 wr) (fun kv _ => l2.length - (intOf kv).toNat)
        case atStart => exact ⟨0, rfl, by omega, ext_drewN _ _⟩
        case round =>
          obtain ⟨k, rfl, hk, hb8⟩ := hrel
          have HB8 := Lib.hid hb8
          have R8 := R7.out.ext hb8
          have c8 := R8.xh.c0
          rw [hv.out] at c8
          by_cases hkl : k < l2.length
          · have hkl' : (k : Int) < (l2.length : Int) := by omega
            obtain ⟨y, hy⟩ : ∃ y, l2[k]? = some y := ⟨_, List.getElem?_eq_getElem hkl⟩
            obtain ⟨q0, q1⟩ := HC.out k y hy
            have lb : blk < w7.heap.size := World.block_lt_of_cell? w7 _ q0
            have p0 := (hb8.cell (p := ⟨blk, k * 2, none⟩) lb).trans q0
            have p1 := (hb8.cell (p := ⟨blk, k * 2 + 1, none⟩) lb).trans q1
            obtain ⟨gx, cx, hvx⟩ := own_slice' R8.xh.its (by omega)
            obtain ⟨r0, r1⟩ := R8.xh.at hvx hy
            have hve := hv.out.symm.trans hvx
            simp only [Value.slice.injEq] at hve
            obtain ⟨rfl, -, rfl⟩ := hve
            clear R8 hb8 q0 q1 hy
            go_wp2_with fail
            go_quiet (fail)
            go_wp2_with fail
            go_roundw
            case rel => exact ⟨k + 1, by simp, by omega, below_drewN HB8.out _⟩
            case measure => simp [intOf]; omega
          · obtain rfl : k = l2.length := by omega
            clear R8 hb8
            go_wp2_with fail
            go_roundw
            case rel => exact ⟨i + 1, _, _, _, _, l2, by simp, by omega, by omega, by omega, R7.out.ext HB8.out⟩
            case measure => simp [intOf]; omega
    · have BW := Lib.hid h.bw
      clear h HC0 HC1
      by_cases c1 : i < len0
      · by_cases c2 : i < len1
        · have c3 : ¬ (i : Int) < 60 := by omega
          have c4 : (i : Int) < (len0 : Int) := by omega
          have c5 : (i : Int) < (len1 : Int) := by omega
          clear hlt c1 c2
          go_wp2_with fail
          refine (awake34_any _).mono ?_
          rintro e w2 ⟨rfl, b2⟩
          go_wp2
          go_ret
          exact ⟨rfl, ext_trans BW.out b2⟩
        · have c4 : (i : Int) < (len0 : Int) := by omega
          have c5 : ¬ (i : Int) < (len1 : Int) := by omega
          clear hlt c1 c2
          go_wp2_with fail
          refine (awake34_any _).mono ?_
          rintro e w2 ⟨rfl, b2⟩
          go_wp2
          go_ret
          exact ⟨rfl, ext_trans BW.out b2⟩
      · have c4 : ¬ (i : Int) < (len0 : Int) := by omega
        clear hlt c1
        go_wp2_with fail
        refine (awake34_any _).mono ?_
        rintro e w2 ⟨rfl, b2⟩
        go_wp2
        go_ret
        exact ⟨rfl, ext_trans BW.out b2⟩

set_option maxRecDepth 100000 in
theorem lifted (os : Os) (started : os.Started) (H : Type) (enc : TypeId × Value → H) :
    ReturnsInHanded {} Try.checked os 6 .any (Rows.hostPlaysSpec.pre6 enc Try.prog Try.f6 Rows.hostPlaysRow.domain false) (Rows.hostPlaysSpec.post enc Try.prog Try.f6 false true false false) := by
  refine returnsInHanded_of_change_sized (C := Try.checked) own started (by kernel_rfl) Try.func6
    (ChangeSpec.witness6 (enc := enc) (C := Try.checked) false ⟨#[], #[.slice none 0 0, .slice none 0 0], []⟩ 8 (by kernel_rfl) (by kernel_rfl) (by kernel_rfl) (by kernel_rfl)) ?_
  intro W base args ds gs before hval0 hW hcnd hsz0 _
  have hsz : (DataW.weightsEach Try.prog (Try.f6.params.toList ++ Rows.hostPlaysSpec.plain.varTypes Try.prog) (ds ++ gs)).all (· ≤ reachBytes) = true := hsz0
  have hval : ∀ (j : Nat) t v, Try.f6.params[j]? = some t → args[j]? = some v → Value.okWide Try.prog W .any base t v := hval0
  have hW' := hW
  obtain ⟨p, q, hA0, hV, rfl, hfz, hnd⟩ := hW
  have hA : DataW.TrodAll enc Try.prog W 0 (fun _ => true) true Try.f6.params.toList args.toList ds p := hA0
  rw [Try.params6] at hA hval hsz
  obtain ⟨v0, vs0, d0, ds0, p0, q0, hargs, rfl, rfl, h0, r0⟩ := trodAll_cons hA
  obtain ⟨v1, vs1, d1, ds1, p1, q1, rfl, rfl, rfl, h1, r1⟩ := trodAll_cons r0
  obtain ⟨rfl, rfl, rfl⟩ := trodAll_nil r1
  obtain rfl : args = #[v0, v1] := by cases args; simp_all
  obtain ⟨rfl, rfl⟩ := trodVars_none hV
  have k0 := h0
  have lt0 : ∀ x ∈ p0, x.block < W.heap.size := by obtain ⟨m, hm⟩ := k0; exact DataW.trod_lt m _ _ _ hm
  have k1 := h1
  have lt1 : ∀ x ∈ p1, x.block < W.heap.size := by obtain ⟨m, hm⟩ := k1; exact DataW.trod_lt m _ _ _ hm
  obtain ⟨a0, len0, cap0, rfl⟩ := okWide_slice Try.underlying53 (hval 0 53 v0 rfl rfl)
  obtain ⟨z0, w0⟩ : ∃ ss, StrRow W a0 len0 ss := by
    obtain ⟨fuel, hf⟩ := h0
    exact open_str_arg Try.underlying53 Try.underlying9 (by kernel_rfl) hf
  obtain ⟨a1, len1, cap1, rfl⟩ := okWide_slice Try.underlying53 (hval 1 53 v1 rfl rfl)
  obtain ⟨z1, w1⟩ : ∃ ss, StrRow W a1 len1 ss := by
    obtain ⟨fuel, hf⟩ := h1
    exact open_str_arg Try.underlying53 Try.underlying9 (by kernel_rfl) hf
  clear hA0 hval0 hsz0
  refine (walk a0 len0 cap0 z0 a1 len1 cap1 z1 W w0 w1).mono fun e W' ⟨he, bel⟩ => ?_
  subst he
  exact ⟨_, rfl, _, _, _, [], _, [], hW', trodAll_mk1 (shut_bool Try.underlying4 _), (trodAll_cons_mk (Below.trod laidOut (by kernel_rfl) (of_decide_eq_true (by kernel_rfl)) k0 bel lt0) (trodAll_cons_mk (Below.trod laidOut (by kernel_rfl) (of_decide_eq_true (by kernel_rfl)) k1 bel lt1) trodAll_mk0)), rfl, bel.frame _, fun h => by cases h⟩

theorem over : Rows.hostPlaysRow.holds Try.pinned (OpenSpec.ofChange Rows.hostPlaysSpec) :=
  OpenClaim.holds_of_wide 6 Try.f6 rfl rfl rfl rfl rfl rfl rfl ⟨rfl, rfl, rfl, rfl, rfl⟩ rfl rfl rfl rfl rfl (by kernel_rfl) Try.func6 (by kernel_rfl)
    (of_decide_eq_true (by kernel_rfl)) (by unfold Func.isWrapper; first | (rw [if_pos (by decide +kernel)]; kernel_rfl) | (rw [if_neg (by decide +kernel)]; exact ⟨rfl, rfl⟩))
    (fun os started H enc _ => lifted os started H enc)

theorem proved : Rows.HostPlaysSaid := over
end Go.Proofs.Ytdljddghbkcddaa.hostPlays
