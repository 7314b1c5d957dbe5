/-
  RateApart: FOR EVERY INPUT the law returns true and leaves its arguments as they were.
-/
import Derived.Test.YtoijdmchkjmpgaaRe
import Derived.Test.YtoijdmchkjmpgaaByt
import Derived.Test.YtoijdmchkjmpgaaBl
import Derived.Test.YtoijdmchkjmpgaaRows
import Derived.WalkKit
import Derived.ProofKit
import Derived.OpenShut
import Derived.ShutString
import Derived.ChangeOld
import Derived.Below
import Derived.SizedLaws
import Derived.Lib.SmallJoins
namespace Go.Proofs.Ytoijdmchkjmpgaa.rateApart
open Go.ChangeShapes Go.WideShapes Go.ChangeAt Go.RowKit
open Go.ChangeMaps (open_string shut_string)
set_option linter.unusedVariables false

theorem own : ownKnob Try.prog.godebug = none := by kernel_rfl
theorem laidOut : laidOutB Try.prog = true := by kernel_rfl

open Rte Que
set_option maxHeartbeats 16000000 in
set_option maxRecDepth 100000 in
theorem walk (m : Int) (a : Option Addr) (len cap : Nat) (z : List Int) (a2 : Option Addr) (len2 cap2 : Nat) (F2 : Nat → Bool) (w : World) (b0 : 0 ≤ m ∧ m ≤ 255) (h1 : IsRow .u8 w a len cap z) (s1 : cap * 1 ≤ 140737488351232) (h2 : IsBools w a2 len2 F2) :
    Calls Try.prog 11 #[.int .u8 m, .slice a len cap, .slice a2 len2 cap2] w (Yes w) := by
  obtain ⟨hl, hlc⟩ := h1.len_le
  have hl' : (len : Int) ≤ 9223372036854775807 := by omega
  have C0 := Lib.hid h1.cellAt
  obtain ⟨h2l, h2c⟩ := h2
  have hl2' : (len2 : Int) ≤ 9223372036854775807 := by unfold maxLen at h2l; omega
  replace h2c := Lib.hid h2c
  have x0 : 0 ≤ m := b0.1
  have x1 : m ≤ 255 := b0.2
  have NW := Lib.hid (rnew m w (by omega))
  clear b0 h1 h2l hl hlc s1
  go_enter Try.func11, Try.ntmps11
  go_wp2_with fail
  refine NW.out.mono ?_
  rintro e w1 ⟨rfl, r1, b1, z1⟩
  have S1 : Hid (St w w1 m 0 0 (-1) []) := Lib.hid ⟨r1, b1, by omega, by omega, rfl, .inl ⟨rfl, rfl⟩⟩
  clear r1 b1 z1 NW
  go_wp2_with fail
  go_loopw [9, 10, 11] (fun nv lv iv wr => ∃ (i : Nat) (now last : Int) (G : List Gr), iv = .int .i64 (i : Int) ∧ nv = .int .i64 now ∧ lv = .int .i64 last ∧ i ≤ len ∧ i ≤ 80 ∧ St w wr m i now last G) (fun _ _ iv _ => len - (intOf iv).toNat)
  case atStart => exact ⟨0, 0, -1, [], rfl, rfl, rfl, by omega, by omega, S1.out⟩
  case round =>
    obtain ⟨i, now, last, G, rfl, rfl, rfl, hi, hi2, h⟩ := hrel
    by_cases hlt : i < len ∧ i < 80
    · obtain ⟨hlt0, hlt1⟩ := hlt
      obtain ⟨b0, o0, rfl, hcell, hz0, hz1⟩ : ∃ b0 o, a = some ⟨b0, o, none⟩ ∧ wr.cell? ⟨b0, o + i, none⟩ = some (.int .u8 (z.getD i 0)) ∧ 0 ≤ z.getD i 0 ∧ z.getD i 0 ≤ 255 := by
        rcases C0.out with h' | ⟨b0, o, ha, hb0, h'⟩
        · omega
        · exact ⟨b0, o, ha, (h.bw.cell (by simpa using hb0)).trans (h' i hlt0).1, wf_u8 (h' i hlt0).2⟩
      generalize z.getD i 0 = d at *
      have hlt0' : (i : Int) < (len : Int) := by omega
      have hlt1' : (i : Int) < 80 := by omega
      have n0 := h.n0
      have n1 := h.n1
      have nn : now ≤ 20400 := by omega
      have AB := Lib.hid (ask_b h hlt1 d ⟨hz0, hz1⟩)
      have AA := Lib.hid (ask_a h hlt1 d ⟨hz0, hz1⟩)
      have hla : (-1 : Int) ≤ last ∧ last ≤ 20400 := by
        rcases h.la with ⟨h, -⟩ | ⟨h0, h1, -⟩ <;> omega
      obtain ⟨hla0, hla1⟩ := hla
      by_cases ho : i < len2
      · have ho' : (i : Int) < (len2 : Int) := by omega
        obtain ⟨b2, o2, rfl, hc2⟩ : ∃ b o, a2 = some ⟨b, o, none⟩ ∧ wr.cell? ⟨b, o + i, none⟩ = some (.bool (F2 i)) := by
          rcases h2c.out with h' | ⟨b, o, ha, hb0, h'⟩
          · omega
          · exact ⟨b, o, ha, (h.bw.cell (by simpa using hb0)).trans (h' i ho)⟩
        cases hf : F2 i
        · rw [hf] at hc2
          replace hf := Lib.hid hf
          clear h AB n1
          go_wp2_with fail
          refine AA.out.mono ?_
          rintro e w3 ⟨bb, G3, rfl, hbb, s3⟩
          replace s3 := Lib.hid s3
          clear AA
          by_cases hl0 : last < 0
          · obtain rfl : bb = true := by rw [hbb, decide_eq_true hl0]; rfl
            rw [if_pos rfl] at s3
            clear hbb
            go_wp2_with fail
            go_roundw
            case rel => exact ⟨i + 1, _, _, _, by simp, rfl, rfl, by omega, by omega, s3.out⟩
            case measure => simp [intOf]; omega
          · by_cases hge : m ≤ now + d - last
            · obtain rfl : bb = true := by rw [hbb, decide_eq_true hge, Bool.or_true]
              rw [if_pos rfl] at s3
              clear hbb
              go_wp2_with fail
              go_roundw
              case rel => exact ⟨i + 1, _, _, _, by simp, rfl, rfl, by omega, by omega, s3.out⟩
              case measure => simp [intOf]; omega
            · obtain rfl : bb = false := by rw [hbb, decide_eq_false hl0, decide_eq_false hge]; rfl
              rw [if_neg (by simp)] at s3
              clear hbb
              go_wp2_with fail
              go_roundw
              case rel => exact ⟨i + 1, _, _, _, by simp, rfl, rfl, by omega, by omega, s3.out⟩
              case measure => simp [intOf]; omega
        · rw [hf] at hc2
          replace hf := Lib.hid hf
          clear h AA n1
          go_wp2_with fail
          refine AB.out.mono ?_
          rintro e w3 ⟨bb, G3, rfl, s3⟩
          replace s3 := Lib.hid s3
          clear AB
          go_wp2_with fail
          go_roundw
          case rel => exact ⟨i + 1, _, _, _, by simp, rfl, rfl, by omega, by omega, s3.out⟩
          case measure => simp [intOf]; omega
      · have ho' : ¬ (i : Int) < (len2 : Int) := by omega
        clear h AB n1
        go_wp2_with fail
        refine AA.out.mono ?_
        rintro e w3 ⟨bb, G3, rfl, hbb, s3⟩
        replace s3 := Lib.hid s3
        clear AA
        by_cases hl0 : last < 0
        · obtain rfl : bb = true := by rw [hbb, decide_eq_true hl0]; rfl
          rw [if_pos rfl] at s3
          clear hbb
          go_wp2_with fail
          go_roundw
          case rel => exact ⟨i + 1, _, _, _, by simp, rfl, rfl, by omega, by omega, s3.out⟩
          case measure => simp [intOf]; omega
        · by_cases hge : m ≤ now + d - last
          · obtain rfl : bb = true := by rw [hbb, decide_eq_true hge, Bool.or_true]
            rw [if_pos rfl] at s3
            clear hbb
            go_wp2_with fail
            go_roundw
            case rel => exact ⟨i + 1, _, _, _, by simp, rfl, rfl, by omega, by omega, s3.out⟩
            case measure => simp [intOf]; omega
          · obtain rfl : bb = false := by rw [hbb, decide_eq_false hl0, decide_eq_false hge]; rfl
            rw [if_neg (by simp)] at s3
            clear hbb
            go_wp2_with fail
            go_roundw
            case rel => exact ⟨i + 1, _, _, _, by simp, rfl, rfl, by omega, by omega, s3.out⟩
            case measure => simp [intOf]; omega
    · have LA := Lib.hid (last_a h)
      clear h
      by_cases c1 : i < len
      all_goals
        first
          | (have c3 : ¬ (i : Int) < 80 := by omega
             have c4 : (i : Int) < (len : Int) := by omega)
          | (have c4 : ¬ (i : Int) < (len : Int) := by omega)
        clear hlt c1
        go_wp2_with fail
        refine LA.out.mono ?_
        rintro e w3 ⟨hee, b3⟩
        have B3 := Lib.hid b3
        clear b3
        rcases hee with ⟨rfl, rfl⟩ | ⟨l0, rfl⟩
        all_goals
          go_wp2_with fail
          refine (awake35_any _).mono ?_
          rintro e w2 ⟨rfl, b2⟩
          go_wp2
          go_ret
          exact ⟨rfl, ext_trans B3.out b2⟩

set_option maxRecDepth 100000 in
theorem lifted (os : Os) (started : os.Started) (H : Type) (enc : TypeId × Value → H) :
    ReturnsInHanded {} Try.checked os 11 .any (Rows.rateApartSpec.pre6 enc Try.prog Try.f11 Rows.rateApartRow.domain false) (Rows.rateApartSpec.post enc Try.prog Try.f11 false true false false) := by
  refine returnsInHanded_of_change_sized (C := Try.checked) own started (by kernel_rfl) Try.func11
    (ChangeSpec.witness6 (enc := enc) (C := Try.checked) false ⟨#[], #[.int .u8 0, .slice none 0 0, .slice none 0 0], []⟩ 8 (by kernel_rfl) (by kernel_rfl) (by kernel_rfl) (by kernel_rfl)) ?_
  intro W base args ds gs before hval0 hW hcnd hsz0 _
  have hsz : (DataW.weightsEach Try.prog (Try.f11.params.toList ++ Rows.rateApartSpec.plain.varTypes Try.prog) (ds ++ gs)).all (· ≤ reachBytes) = true := hsz0
  have hval : ∀ (j : Nat) t v, Try.f11.params[j]? = some t → args[j]? = some v → Value.okWide Try.prog W .any base t v := hval0
  have hW' := hW
  obtain ⟨p, q, hA0, hV, rfl, hfz, hnd⟩ := hW
  have hA : DataW.TrodAll enc Try.prog W 0 (fun _ => true) true Try.f11.params.toList args.toList ds p := hA0
  rw [Try.params11] at hA hval hsz
  obtain ⟨v0, vs0, d0, ds0, p0, q0, hargs, rfl, rfl, h0, r0⟩ := trodAll_cons hA
  obtain ⟨v1, vs1, d1, ds1, p1, q1, rfl, rfl, rfl, h1, r1⟩ := trodAll_cons r0
  obtain ⟨v2, vs2, d2, ds2, p2, q2, rfl, rfl, rfl, h2, r2⟩ := trodAll_cons r1
  obtain ⟨rfl, rfl, rfl⟩ := trodAll_nil r2
  obtain rfl : args = #[v0, v1, v2] := by cases args; simp_all
  obtain ⟨rfl, rfl⟩ := trodVars_none hV
  have k0 := h0
  have lt0 : ∀ x ∈ p0, x.block < W.heap.size := by obtain ⟨m, hm⟩ := k0; exact DataW.trod_lt m _ _ _ hm
  have k1 := h1
  have lt1 : ∀ x ∈ p1, x.block < W.heap.size := by obtain ⟨m, hm⟩ := k1; exact DataW.trod_lt m _ _ _ hm
  have k2 := h2
  have lt2 : ∀ x ∈ p2, x.block < W.heap.size := by obtain ⟨m, hm⟩ := k2; exact DataW.trod_lt m _ _ _ hm
  obtain ⟨a0, rfl, rfl, rfl, w0⟩ := open_int Try.underlying5 (hval 0 5 v0 rfl rfl) h0
  have b0 := wf_u8 w0
  obtain ⟨a1, len1, cap1, rfl⟩ := okWide_slice Try.underlying41 (hval 1 41 v1 rfl rfl)
  obtain ⟨z1, w1, s1⟩ : ∃ zs, IsRow .u8 W a1 len1 cap1 zs ∧ cap1 * 1 ≤ 140737488351232 := by
    obtain ⟨fuel, hf⟩ := h1
    rcases open_ints Try.underlying41 Try.underlying5 (by kernel_rfl) hf with ⟨hcs, _⟩ | ⟨x, l, c, zs, hcs, _, hl, hm, hz, hx, hcell, hwz⟩
    · simp [Value.cells] at hcs
      obtain ⟨rfl, rfl, rfl⟩ := hcs
      exact ⟨[], .inl ⟨rfl, rfl, rfl, rfl⟩, by omega⟩
    · simp [Value.cells] at hcs
      obtain ⟨rfl, rfl, rfl⟩ := hcs
      have hz' : zs.length = cap1 := by simpa using hz
      have hd : d1 = .slice (lits .u8 (zs.take len1)) (lits .u8 (zs.drop len1)) := congrArg Prod.fst hx
      have hroom := sized_slice hsz (j := 1) (t := 41) (e := 5) rfl (by rw [hd]; rfl) Try.underlying41
      rw [show Try.prog.bytesOf 5 = 1 from by kernel_rfl] at hroom
      simp only [lits, List.length_map, List.length_take, List.length_drop, reachBytes] at hroom
      exact ⟨zs, .inr ⟨_, rfl, hl, hm, hz', hcell, hwz⟩, by omega⟩
  obtain ⟨a2, len2, cap2, rfl⟩ := okWide_slice Try.underlying66 (hval 2 66 v2 rfl rfl)
  obtain ⟨z2, w2⟩ : ∃ B, IsBools W a2 len2 B := by
    obtain ⟨fuel, hf⟩ := h2
    exact open_bools_arg Try.underlying66 Try.underlying4 (by kernel_rfl) hf
  clear hA0 hval0 hsz0
  refine (walk a0 a1 len1 cap1 z1 a2 len2 cap2 z2 W b0 w1 s1 w2).mono fun e W' ⟨he, bel⟩ => ?_
  subst he
  exact ⟨_, rfl, _, _, _, [], _, [], hW', trodAll_mk1 (shut_bool Try.underlying4 _), (trodAll_cons_mk (Below.trod laidOut (by kernel_rfl) (of_decide_eq_true (by kernel_rfl)) k0 bel lt0) (trodAll_cons_mk (Below.trod laidOut (by kernel_rfl) (of_decide_eq_true (by kernel_rfl)) k1 bel lt1) (trodAll_cons_mk (Below.trod laidOut (by kernel_rfl) (of_decide_eq_true (by kernel_rfl)) k2 bel lt2) trodAll_mk0))), rfl, bel.frame _, fun h => by cases h⟩

theorem over : Rows.rateApartRow.holds Try.pinned (OpenSpec.ofChange Rows.rateApartSpec) :=
  OpenClaim.holds_of_wide 11 Try.f11 rfl rfl rfl rfl rfl rfl rfl ⟨rfl, rfl, rfl, rfl, rfl⟩ rfl rfl rfl rfl rfl (by kernel_rfl) Try.func11 (by kernel_rfl)
    (of_decide_eq_true (by kernel_rfl)) (by unfold Func.isWrapper; first | (rw [if_pos (by decide +kernel)]; kernel_rfl) | (rw [if_neg (by decide +kernel)]; exact ⟨rfl, rfl⟩))
    (fun os started H enc _ => lifted os started H enc)

theorem proved : Rows.RateApartSaid := over
end Go.Proofs.Ytoijdmchkjmpgaa.rateApart
