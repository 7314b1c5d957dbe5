/-
  FlightOne: FOR EVERY INPUT the law returns true and leaves its arguments as they were.
-/
import Derived.Test.YtcjoemejoeekiaaFi
import Derived.Test.YtcjoemejoeekiaaAs
import Derived.Test.YtcjoemejoeekiaaByt
import Derived.Test.YtcjoemejoeekiaaRows
import Derived.WalkKit
import Derived.Deep.RegionHeld3
import Derived.ProofKit
import Derived.OpenShut
import Derived.ShutString
import Derived.ChangeOld
import Derived.Below
import Derived.SizedLaws
import Derived.Lib.SmallJoins
namespace Go.Proofs.Ytcjoemejoeekiaa.flightOne
open Go.ChangeShapes Go.WideShapes Go.ChangeAt Go.RowKit
open Go.ChangeMaps (open_string shut_string)
set_option linter.unusedVariables false

theorem own : ownKnob Try.prog.godebug = none := by kernel_rfl
theorem laidOut : laidOutB Try.prog = true := by kernel_rfl

open Fli Que Ids
set_option maxHeartbeats 32000000 in
set_option maxRecDepth 100000 in
theorem walk (ad : Option Addr) (len cap : Nat) (A : List Acs.Ac) (w : World) (h0 : Acs.AcsAt w (.slice ad len cap) A) (ok0 : ∀ f ∈ A, f.ok) :
    Calls Try.prog 9 #[.slice ad len cap] w (Yes w) := by
  obtain ⟨x0, y0, hv0, hl0, hc⟩ := id h0
  simp only [Value.slice.injEq] at hv0
  obtain ⟨rfl, rfl, rfl⟩ := hv0
  have hl0' : (A.length : Int) ≤ 9223372036854775807 := by omega
  replace hc := Lib.hid hc
  clear h0 ok0 hl0
  have N1 := Lib.hid (f_new w)
  go_enter Try.func9, Try.ntmps9
  go_wp2_with fail
  refine N1.out.mono ?_
  rintro e w1 ⟨f, g, rfl, s1, b1⟩
  have S1 := Lib.hid s1
  have B1 := Lib.hid b1
  clear s1 b1 N1
  go_wp2_with fail
  go_loopw [4] (fun iv wr => ∃ (i : Nat) (T : List Bool) (L : List Se), iv = .int .i64 (i : Int) ∧ i ≤ A.length ∧ i ≤ 80 ∧ Fs (fun k => k < w.heap.size) wr f g T L ∧ Inv L ∧ Below w.heap.size w wr) (fun iv _ => A.length - (intOf iv).toNat)
  case atStart => exact ⟨0, [], [], rfl, by omega, by omega, S1.out, fun e he => (by cases he), B1.out⟩
  case round =>
    obtain ⟨i, T, L, rfl, hi, hi2, h, hI, hb⟩ := hrel
    by_cases hlt : i < A.length ∧ i < 80
    · obtain ⟨hlt0, hlt1⟩ := hlt
      obtain ⟨a, ha⟩ : ∃ a, A[i]? = some a := ⟨_, List.getElem?_eq_getElem hlt0⟩
      have hx := heap_alloc_new wr (.cells #[.slice none 0 0] 62)
      have hbx := ext_alloc wr (.cells #[.slice none 0 0] 62)
      have h1 : Fs (fun k => k < w.heap.size ∨ k = wr.heap.size) (wr.alloc (.cells #[.slice none 0 0] 62)) f g T L := h.more hbx (by
        rintro k (hk | rfl)
        · exact .inl hk
        · exact .inr ⟨Nat.le_refl _, by simp⟩)
      obtain ⟨b', o', rfl, -, c0, c1, c2, c3, c4, c5⟩ := Acs.acsAt_at ha (hb.trans (hbx.mono hb.size)) hc.out
      obtain ⟨K, n, t, y, q, r⟩ := a
      simp only at c0 c1 c2 c3 c4 c5
      have hW1 : Below w.heap.size w (wr.alloc (.cells #[.slice none 0 0] 62)) := hb.trans (hbx.mono hb.size)
      have hsz : ¬ wr.heap.size < w.heap.size := by have := hb.size; omega
      have DO := Lib.hid (do_any (A0 := fun k => k < w.heap.size) (x := wr.heap.size) h1 hI hx hsz K n t y q r)
      have hlt0' : (i : Int) < (A.length : Int) := by omega
      have hlt1' : (i : Int) < 80 := by omega
      replace hW1 := Lib.hid hW1
      clear h hI hb h1 hx hbx ha hsz
      go_wp2_with fail
      refine DO.out.mono ?_
      rintro e w2 ⟨bb, T2, L2, rfl, s2, k2, i2⟩
      have S2 := Lib.hid s2
      have I2 := Lib.hid i2
      have B2 := Lib.hid (hW1.out.trans (k2.below hW1.out.size (fun k hk => hk)))
      have AL := Lib.hid (f_all s2)
      have hL8 := s2.le
      have hL8' : (L2.length : Int) ≤ 8 := by omega
      clear s2 i2 k2 c0 c1 c2 c3 c4 c5 DO hW1
      go_wp2_with fail
      refine AL.out.mono ?_
      rintro e w3 ⟨v3, rfl, o3, b3⟩
      obtain ⟨va, vc, rfl⟩ := own_slice o3
      have S3 := Lib.hid (S2.out.ext b3)
      have B3 := Lib.hid (B2.out.trans (b3.mono B2.out.size))
      have O3 := Lib.hid o3
      clear o3 b3 AL
      have AT : Hid (∀ W, Below w3.heap.size w3 W → ∀ (k : Nat) (e : Se), L2[k]? = some e → ∃ gb, va = some ⟨gb, 0, none⟩ ∧ W.cell? ⟨gb, k * 6, none⟩ = some (.int .i64 e.i) ∧ W.cell? ⟨gb, k * 6 + 1, none⟩ = some (.int .i64 e.s) ∧ W.cell? ⟨gb, k * 6 + 4, none⟩ = some (.int .i64 e.q)) := Lib.hid fun W hW k e he => by
        have hk := (List.getElem?_eq_some_iff.1 he).1
        obtain ⟨gb, cb, hv⟩ := own_slice' O3.out (by omega)
        have o := own_keep O3.out hW
        simp only [Value.slice.injEq] at hv
        obtain ⟨rfl, -, rfl⟩ := hv
        have G := seC_get L2 k e he
        exact ⟨gb, rfl, own_get o (by have := G 0 (by omega); simpa [Se.cells] using this), own_get o (by have := G 1 (by omega); simpa [Se.cells] using this), own_get o (by have := G 4 (by omega); simpa [Se.cells] using this)⟩
      have ID : Hid (∀ (k : Nat) (e : Se), L2[k]? = some e → 1 ≤ e.i ∧ e.i ≤ 8) := Lib.hid fun k e he => by
        obtain ⟨j, h1, h2⟩ := S2.out.ids e (List.mem_of_getElem? he)
        have hj : j < T2.length := by
          apply Classical.byContradiction
          intro hn
          rw [List.getD_eq_getElem?_getD, List.getElem?_eq_none (by omega)] at h2
          cases h2
        obtain ⟨v, r, d, av⟩ := S2.out.ex
        have := d.le
        omega
      have ND : Hid (∀ (j k : Nat) (x y : Se), j < k → L2[j]? = some x → L2[k]? = some y → (x.i == y.i) = false) := Lib.hid fun j k x y hjk hx hy => by
        obtain ⟨h1, rfl⟩ := List.getElem?_eq_some_iff.1 hx
        obtain ⟨h2, rfl⟩ := List.getElem?_eq_some_iff.1 hy
        have := List.pairwise_iff_getElem.1 S2.out.nd j k h1 h2 hjk
        simpa using this
      go_wp2_with fail
      go_loopw [6, 7] (fun kv jv wq => ∃ k : Nat, kv = .int .i64 (k : Int) ∧ k ≤ L2.length ∧ Below w3.heap.size w3 wq) (fun kv _ _ => L2.length - (intOf kv).toNat)
      case atStart => exact ⟨0, rfl, by omega, Below.refl _ _⟩
      case round =>
        obtain ⟨k, rfl, hk, hbq⟩ := hrel
        have HB := Lib.hid hbq
        by_cases hke : k = L2.length
        · subst hke
          clear hbq
          go_wp2_with fail
          go_roundw
          case rel => exact ⟨i + 1, T2, L2, by simp, by omega, by omega, S3.out.ext HB.out, I2.out, B3.out.trans (HB.out.mono B3.out.size)⟩
          case measure => simp [intOf]; omega
        · have klt : k < L2.length := by omega
          have klt' : (k : Int) < (L2.length : Int) := by omega
          obtain ⟨y, hy⟩ : ∃ y, L2[k]? = some y := ⟨_, List.getElem?_eq_getElem klt⟩
          obtain ⟨gb, rfl, q0, q1, q4⟩ := AT.out _ hbq k y hy
          obtain ⟨y1, y8⟩ := ID.out k y hy
          have y0 : ¬ y.i < 1 := by omega
          have y9 : ¬ 65535 < y.i := by omega
          have y0' : decide (y.i < 1) = false := decide_eq_false y0
          have y9' : decide (65535 < y.i) = false := decide_eq_false y9
          have hIy := I2.out y (List.mem_of_getElem? hy)
          clear hbq
          have KQ := Lib.hid (fun W (hW : Below wr.heap.size wr W) => (⟨(hW.cell (World.block_lt_of_cell? wr _ q0)).trans q0, (hW.cell (World.block_lt_of_cell? wr _ q1)).trans q1, (hW.cell (World.block_lt_of_cell? wr _ q4)).trans q4⟩ : W.cell? ⟨gb, k * 6, none⟩ = some (.int .i64 y.i) ∧ W.cell? ⟨gb, k * 6 + 1, none⟩ = some (.int .i64 y.s) ∧ W.cell? ⟨gb, k * 6 + 4, none⟩ = some (.int .i64 y.q)))
          rcases hIy with ⟨e1, e2⟩ | ⟨e1 | e1, e2⟩
          · rw [e1] at q1 KQ
            rw [e2] at q4 KQ
            replace e1 := Lib.hid e1
            replace e2 := Lib.hid e2
            go_wp2_with fail
            go_region_held3 (fun W => W.cell? ⟨gb, k * 6, none⟩ = some (.int .i64 y.i) ∧ W.cell? ⟨gb, k * 6 + 1, none⟩ = some (.int .i64 1) ∧ W.cell? ⟨gb, k * 6 + 4, none⟩ = some (.int .i64 1))
              (exact KQ.out _ (by first | exact Below.refl _ _ | exact ext_drew _ | exact ext_trans (ext_drew _) (ext_drew _) | exact ext_drewN _ _))
              (fail)
            all_goals
              go_wp2_with fail
              go_loopw [7] (fun jv wq => ∃ j : Nat, jv = .int .i64 (j : Int) ∧ j ≤ k ∧ Below w3.heap.size w3 wq) (fun jv _ => k - (intOf jv).toNat)
              case atStart => exact ⟨0, rfl, by omega, by first | exact HB.out | exact HB.out.drew | exact HB.out.drew.drew | exact below_drewN HB.out _⟩
              case round =>
                obtain ⟨j, rfl, hj, hbj⟩ := hrel
                have HJ := Lib.hid hbj
                by_cases hje : j = k
                · subst hje
                  clear hbj
                  go_wp2_with fail
                  go_roundw
                  case rel => exact ⟨j + 1, by simp, by omega, HJ.out⟩
                  case measure => simp [intOf]; omega
                · have jlt : j < k := by omega
                  have jlt' : (j : Int) < (k : Int) := by omega
                  have jlt2 : (j : Int) < (L2.length : Int) := by omega
                  obtain ⟨x, hx⟩ : ∃ x, L2[j]? = some x := ⟨_, List.getElem?_eq_getElem (by omega)⟩
                  obtain ⟨gb2, hg2, p0, -, -⟩ := AT.out _ hbj j x hx
                  obtain ⟨gb3, hg3, p1, -, -⟩ := AT.out _ hbj k y hy
                  simp only [Option.some.injEq, Addr.mk.injEq, and_true] at hg2 hg3
                  subst hg2
                  obtain rfl : gb = gb3 := hg3
                  have hne := ND.out j k x y jlt hx hy
                  clear hbj hje
                  go_wp2_with fail
                  go_quiet (fail)
                  go_wp2_with fail
                  go_roundw
                  case rel => exact ⟨j + 1, by simp, by omega, below_drewN HJ.out _⟩
                  case measure => simp [intOf]; omega
          · rw [e1] at q1 KQ
            rw [e2] at q4 KQ
            replace e1 := Lib.hid e1
            replace e2 := Lib.hid e2
            go_wp2_with fail
            go_region_held3 (fun W => W.cell? ⟨gb, k * 6, none⟩ = some (.int .i64 y.i) ∧ W.cell? ⟨gb, k * 6 + 1, none⟩ = some (.int .i64 2) ∧ W.cell? ⟨gb, k * 6 + 4, none⟩ = some (.int .i64 2))
              (exact KQ.out _ (by first | exact Below.refl _ _ | exact ext_drew _ | exact ext_trans (ext_drew _) (ext_drew _) | exact ext_drewN _ _))
              (fail)
            all_goals
              go_wp2_with fail
              go_loopw [7] (fun jv wq => ∃ j : Nat, jv = .int .i64 (j : Int) ∧ j ≤ k ∧ Below w3.heap.size w3 wq) (fun jv _ => k - (intOf jv).toNat)
              case atStart => exact ⟨0, rfl, by omega, by first | exact HB.out | exact HB.out.drew | exact HB.out.drew.drew | exact below_drewN HB.out _⟩
              case round =>
                obtain ⟨j, rfl, hj, hbj⟩ := hrel
                have HJ := Lib.hid hbj
                by_cases hje : j = k
                · subst hje
                  clear hbj
                  go_wp2_with fail
                  go_roundw
                  case rel => exact ⟨j + 1, by simp, by omega, HJ.out⟩
                  case measure => simp [intOf]; omega
                · have jlt : j < k := by omega
                  have jlt' : (j : Int) < (k : Int) := by omega
                  have jlt2 : (j : Int) < (L2.length : Int) := by omega
                  obtain ⟨x, hx⟩ : ∃ x, L2[j]? = some x := ⟨_, List.getElem?_eq_getElem (by omega)⟩
                  obtain ⟨gb2, hg2, p0, -, -⟩ := AT.out _ hbj j x hx
                  obtain ⟨gb3, hg3, p1, -, -⟩ := AT.out _ hbj k y hy
                  simp only [Option.some.injEq, Addr.mk.injEq, and_true] at hg2 hg3
                  subst hg2
                  obtain rfl : gb = gb3 := hg3
                  have hne := ND.out j k x y jlt hx hy
                  clear hbj hje
                  go_wp2_with fail
                  go_quiet (fail)
                  go_wp2_with fail
                  go_roundw
                  case rel => exact ⟨j + 1, by simp, by omega, below_drewN HJ.out _⟩
                  case measure => simp [intOf]; omega
          · rw [e1] at q1 KQ
            rw [e2] at q4 KQ
            replace e1 := Lib.hid e1
            replace e2 := Lib.hid e2
            go_wp2_with fail
            go_region_held3 (fun W => W.cell? ⟨gb, k * 6, none⟩ = some (.int .i64 y.i) ∧ W.cell? ⟨gb, k * 6 + 1, none⟩ = some (.int .i64 3) ∧ W.cell? ⟨gb, k * 6 + 4, none⟩ = some (.int .i64 2))
              (exact KQ.out _ (by first | exact Below.refl _ _ | exact ext_drew _ | exact ext_trans (ext_drew _) (ext_drew _) | exact ext_drewN _ _))
              (fail)
            all_goals
              go_wp2_with fail
              go_loopw [7] (fun jv wq => ∃ j : Nat, jv = .int .i64 (j : Int) ∧ j ≤ k ∧ Below w3.heap.size w3 wq) (fun jv _ => k - (intOf jv).toNat)
              case atStart => exact ⟨0, rfl, by omega, by first | exact HB.out | exact HB.out.drew | exact HB.out.drew.drew | exact below_drewN HB.out _⟩
              case round =>
                obtain ⟨j, rfl, hj, hbj⟩ := hrel
                have HJ := Lib.hid hbj
                by_cases hje : j = k
                · subst hje
                  clear hbj
                  go_wp2_with fail
                  go_roundw
                  case rel => exact ⟨j + 1, by simp, by omega, HJ.out⟩
                  case measure => simp [intOf]; omega
                · have jlt : j < k := by omega
                  have jlt' : (j : Int) < (k : Int) := by omega
                  have jlt2 : (j : Int) < (L2.length : Int) := by omega
                  obtain ⟨x, hx⟩ : ∃ x, L2[j]? = some x := ⟨_, List.getElem?_eq_getElem (by omega)⟩
                  obtain ⟨gb2, hg2, p0, -, -⟩ := AT.out _ hbj j x hx
                  obtain ⟨gb3, hg3, p1, -, -⟩ := AT.out _ hbj k y hy
                  simp only [Option.some.injEq, Addr.mk.injEq, and_true] at hg2 hg3
                  subst hg2
                  obtain rfl : gb = gb3 := hg3
                  have hne := ND.out j k x y jlt hx hy
                  clear hbj hje
                  go_wp2_with fail
                  go_quiet (fail)
                  go_wp2_with fail
                  go_roundw
                  case rel => exact ⟨j + 1, by simp, by omega, below_drewN HJ.out _⟩
                  case measure => simp [intOf]; omega
    · have BW := Lib.hid hb
      clear h hI hb
      by_cases c1 : i < A.length
      all_goals
        first
          | (have c3 : ¬ (i : Int) < 80 := by omega
             have c4 : (i : Int) < (A.length : Int) := by omega)
          | (have c4 : ¬ (i : Int) < (A.length : Int) := by omega)
        clear hlt c1
        go_wp2_with fail
        refine (awake23_any _).mono ?_
        rintro e w2 ⟨rfl, b2⟩
        go_wp2
        go_ret
        exact ⟨rfl, ext_trans BW.out b2⟩

set_option maxRecDepth 100000 in
theorem lifted (os : Os) (started : os.Started) (H : Type) (enc : TypeId × Value → H) :
    ReturnsInHanded {} Try.checked os 9 .any (Rows.flightOneSpec.pre6 enc Try.prog Try.f9 Rows.flightOneRow.domain false) (Rows.flightOneSpec.post enc Try.prog Try.f9 false true false false) := by
  refine returnsInHanded_of_change_sized (C := Try.checked) own started (by kernel_rfl) Try.func9
    (ChangeSpec.witness6 (enc := enc) (C := Try.checked) false ⟨#[], #[.slice none 0 0], []⟩ 8 (by kernel_rfl) (by kernel_rfl) (by kernel_rfl) (by kernel_rfl)) ?_
  intro W base args ds gs before hval0 hW hcnd hsz0 _
  have hsz : (DataW.weightsEach Try.prog (Try.f9.params.toList ++ Rows.flightOneSpec.plain.varTypes Try.prog) (ds ++ gs)).all (· ≤ reachBytes) = true := hsz0
  have hval : ∀ (j : Nat) t v, Try.f9.params[j]? = some t → args[j]? = some v → Value.okWide Try.prog W .any base t v := hval0
  have hW' := hW
  obtain ⟨p, q, hA0, hV, rfl, hfz, hnd⟩ := hW
  have hA : DataW.TrodAll enc Try.prog W 0 (fun _ => true) true Try.f9.params.toList args.toList ds p := hA0
  rw [Try.params9] at hA hval hsz
  obtain ⟨v0, vs0, d0, ds0, p0, q0, hargs, rfl, rfl, h0, r0⟩ := trodAll_cons hA
  obtain ⟨rfl, rfl, rfl⟩ := trodAll_nil r0
  obtain rfl : args = #[v0] := by cases args; simp_all
  obtain ⟨rfl, rfl⟩ := trodVars_none hV
  have k0 := h0
  have lt0 : ∀ x ∈ p0, x.block < W.heap.size := by obtain ⟨m, hm⟩ := k0; exact DataW.trod_lt m _ _ _ hm
  obtain ⟨a0, len0, cap0, rfl⟩ := okWide_slice Try.underlying56 (hval 0 56 v0 rfl rfl)
  obtain ⟨z0, w0, s0⟩ : ∃ l : List Acs.Ac, Acs.AcsAt W (.slice a0 len0 cap0) l ∧ ∀ f ∈ l, f.ok := by
    obtain ⟨fuel, hf⟩ := h0
    exact Acs.open_acs hf (fun n hn => by
      have hm := List.all_eq_true.1 hsz n (DataW.weights_mem_each (j := 0) (t := 56) rfl rfl _ hn)
      simpa [reachBytes] using of_decide_eq_true hm)
  clear hA0 hval0 hsz0
  refine (walk a0 len0 cap0 z0 W w0 s0).mono fun e W' ⟨he, bel⟩ => ?_
  subst he
  exact ⟨_, rfl, _, _, _, [], _, [], hW', trodAll_mk1 (shut_bool Try.underlying4 _), (trodAll_cons_mk (Below.trod laidOut (by kernel_rfl) (of_decide_eq_true (by kernel_rfl)) k0 bel lt0) trodAll_mk0), rfl, bel.frame _, fun h => by cases h⟩

theorem over : Rows.flightOneRow.holds Try.pinned (OpenSpec.ofChange Rows.flightOneSpec) :=
  OpenClaim.holds_of_wide 9 Try.f9 rfl rfl rfl rfl rfl rfl rfl ⟨rfl, rfl, rfl, rfl, rfl⟩ rfl rfl rfl rfl rfl (by kernel_rfl) Try.func9 (by kernel_rfl)
    (of_decide_eq_true (by kernel_rfl)) (by unfold Func.isWrapper; first | (rw [if_pos (by decide +kernel)]; kernel_rfl) | (rw [if_neg (by decide +kernel)]; exact ⟨rfl, rfl⟩))
    (fun os started H enc _ => lifted os started H enc)

theorem proved : Rows.FlightOneSaid := over
end Go.Proofs.Ytcjoemejoeekiaa.flightOne
