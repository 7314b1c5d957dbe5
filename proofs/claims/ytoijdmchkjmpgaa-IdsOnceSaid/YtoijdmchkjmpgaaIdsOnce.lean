/-
  IdsOnce: FOR EVERY INPUT the law returns true and leaves its arguments as they were.
-/
import Derived.Test.YtoijdmchkjmpgaaIo
import Derived.Test.YtoijdmchkjmpgaaByt
import Derived.Test.YtoijdmchkjmpgaaRows
import Derived.WalkKit
import Derived.ProofKit
import Derived.OpenShut
import Derived.ShutString
import Derived.ChangeOld
import Derived.Below
import Derived.SizedLaws
import Derived.Lib.SmallJoins
namespace Go.Proofs.Ytoijdmchkjmpgaa.idsOnce
open Go.ChangeShapes Go.WideShapes Go.ChangeAt Go.RowKit
open Go.ChangeMaps (open_string shut_string)
set_option linter.unusedVariables false

theorem own : ownKnob Try.prog.godebug = none := by kernel_rfl
theorem laidOut : laidOutB Try.prog = true := by kernel_rfl

open Ids Que Hp
def Tk (B : Nat) (w : World) (wr : World) (len i n : Nat) : Prop := ∃ T, Ds (fun k => k < w.heap.size) wr w.heap.size n T ∧ Below w.heap.size w wr ∧ i ≤ len ∧ i ≤ 120
set_option maxHeartbeats 16000000 in
set_option maxRecDepth 100000 in
theorem walk (m : Int) (a : Option Addr) (len cap : Nat) (z : List Int) (w : World) (b0 : 0 ≤ m ∧ m ≤ 255) (h1 : IsRow .u8 w a len cap z) (s1 : cap * 1 ≤ 140737488351232) :
    Calls Try.prog 4 #[.int .u8 m, .slice a len cap] w (Yes w) := by
  obtain ⟨hl, hlc⟩ := h1.len_le
  have hl' : (len : Int) ≤ 9223372036854775807 := by omega
  have C0 := Lib.hid h1.cellAt
  clear h1
  have x0 : 0 ≤ m := b0.1
  have x1 : m ≤ 255 := b0.2
  clear b0
  obtain ⟨n, hn⟩ : ∃ n : Nat, (n : Int) = 1 + m % 30 := ⟨(1 + m % 30).toNat, by omega⟩
  have n1 : 1 ≤ n := by omega
  have n2 : n ≤ 30 := by omega
  have NW := Lib.hid (new_ids n w n1 (by omega))
  have r0 : 0 ≤ m % 30 := by omega
  have r1 : m % 30 ≤ 29 := by omega
  replace hn := Lib.hid hn
  go_enter Try.func4, Try.ntmps4
  go_wp2_with fail
  rw [show 1 + m % 30 = (n : Int) from hn.out.symm]
  clear r0 r1 x0 x1 hn
  refine NW.out.mono ?_
  rintro e w1 ⟨rfl, d1, b1⟩
  have D1 := Lib.hid d1
  replace b1 := Lib.hid b1
  clear d1 NW
  have hn1 : (1 : Int) ≤ (n : Int) := by omega
  have hn2 : (n : Int) ≤ 30 := by omega
  go_wp2_with fail
  go_loopw [8] (fun iv wr => ∃ (i : Nat) (T : List Bool), iv = .int .i64 (i : Int) ∧ i ≤ len ∧ i ≤ 120 ∧ Ds (fun k => k < w.heap.size) wr w.heap.size n T ∧ Below w.heap.size w wr) (fun iv _ => len - (intOf iv).toNat)
  case atStart => exact ⟨0, [], rfl, by omega, by omega, D1.out, b1.out⟩
  case round =>
    obtain ⟨i, T, rfl, hi, hi2, d, hb⟩ := hrel
    by_cases hlt : i < len ∧ i < 120
    · obtain ⟨hlt0, hlt1⟩ := hlt
      obtain ⟨b0, o0, rfl, hcell, hz0, hz1⟩ : ∃ b0 o, a = some ⟨b0, o, none⟩ ∧ wr.cell? ⟨b0, o + i, none⟩ = some (.int .u8 (z.getD i 0)) ∧ 0 ≤ z.getD i 0 ∧ z.getD i 0 ≤ 255 := by
        rcases C0.out with h | ⟨b0, o, ha, hb0, h⟩
        · omega
        · exact ⟨b0, o, ha, (hb.cell (by simpa using hb0)).trans (h i hlt0).1, wf_u8 (h i hlt0).2⟩
      generalize z.getD i 0 = c at *
      have hlt0' : (i : Int) < (len : Int) := by omega
      have hlt1' : (i : Int) < 120 := by omega
      by_cases h3 : c % 3 = 0
      · have h3b : (c % 3 == 0) = true := by simpa using h3
        obtain ⟨q, hq⟩ : ∃ q : Nat, c % (n : Int) = (q : Int) := ⟨(c % (n : Int)).toNat, by have := Int.emod_nonneg c (show (n : Int) ≠ 0 by omega); omega⟩
        have hqn : q < n := by have := Int.emod_lt_of_pos c (show (0 : Int) < (n : Int) by omega); omega
        have GV := give_any d hqn
        rw [show (q : Int) + 1 = 1 + (q : Int) by omega] at GV
        replace GV := Lib.hid GV
        have hq40 : (q : Int) ≤ 30 := by omega
        replace hb := Lib.hid hb
        clear h3 d
        go_wp2_with fail
        refine GV.out.mono ?_
        rintro e w2 ⟨cc, T2, rfl, d2, k2⟩
        have D2 := Lib.hid d2
        have B2 := Lib.hid (hb.out.trans (k2.below hb.out.size (fun k hk => hk)))
        clear d2 k2 GV
        go_wp2_with fail
        go_roundw
        case rel => exact ⟨i + 1, T2, by simp, by omega, by omega, D2.out, B2.out⟩
        case measure => simp [intOf]; omega
      · have h3b : (c % 3 == 0) = false := by simpa using h3
        have A := Lib.hid (all_ids d)
        have D := Lib.hid d
        replace hb := Lib.hid hb
        clear h3 d
        go_wp2_with fail
        refine A.out.mono ?_
        rintro e w3 ⟨v, rfl, o3, b3⟩
        have hLt := lstF_len_trues T
        obtain ⟨R, hLs, hR⟩ := lstF_split T T.length (Nat.le_refl _)
        have hTn := D.out.le
        obtain ⟨va, vc, rfl⟩ := own_slice o3
        have D3 := Lib.hid (D.out.row b3 o3)
        have B3 := Lib.hid (hb.out.trans (b3.mono hb.out.size))
        obtain ⟨L, hL⟩ : ∃ L, L = lstF T T.length := ⟨_, rfl⟩
        rw [← hL] at o3 hLt hLs D3 ⊢
        have hL30 : (L.length : Int) ≤ 30 := by have := trues_le T; omega
        have O3 := Lib.hid o3
        have hqL : nxt T ≤ L.length := by rw [hL]; exact lst_ge T
        replace hL := Lib.hid hL
        have B33 := Lib.hid b3
        clear o3 b3 A hLs hR R
        by_cases hf : trues T = n
        · have TF := Lib.hid (take_full D3.out hf)
          have hLn : (L.length : Int) = (n : Int) := by omega
          have DD := Lib.hid (fun m => D.out.ext (ext_trans B33.out (ext_drewN w3 m)))
          have BB := Lib.hid (fun m => below_drewN B3.out m)
          clear hf hLt
          go_wp2_with fail
          refine TF.out.mono ?_
          rintro e w4 ⟨m, rfl, rfl⟩
          go_wp2_with fail
          go_roundw
          case rel => exact ⟨i + 1, T, by simp, by omega, by omega, DD.out m, BB.out m⟩
          case measure => simp [intOf]; omega
        · have TK := Lib.hid (take_ok D3.out (by have := trues_le T; omega))
          have hqn : (nxt T : Int) + 1 ≤ (n : Int) := by
            have h1 := (tk_get T).1
            have h2 : (tk T).length ≤ n := by
              obtain ⟨tv, bv, H, ii, G, av⟩ := D.out.ex
              exact tk_len G (by have := trues_le T; omega) hTn
            omega
          have hq0 : (0 : Int) ≤ (nxt T : Int) := by omega
          clear hf
          go_wp2_with fail
          refine TK.out.mono ?_
          rintro e w5 ⟨rfl, d5, k5⟩
          have HS := has_in d5 (tk_get T).1
          rw [(tk_get T).2] at HS
          replace HS := Lib.hid HS
          have O5 := Lib.hid (k5.row O3.out (fun k hk => .inr hk))
          have D5 := Lib.hid (d5.weaken (A := fun k => k < w.heap.size) (fun k hk => .inl hk))
          have B5 := Lib.hid (B3.out.trans (k5.below (B := w.heap.size) B3.out.size (fun k hk => .inl hk)))
          clear d5 k5 TK
          go_wp2_with fail
          go_loopw [12] (fun tv wq => ∃ k : Nat, tv = .int .i64 (k : Int) ∧ k ≤ L.length ∧ w5 = wq) (fun tv _ => L.length - (intOf tv).toNat)
          case atStart => exact ⟨0, rfl, by omega, rfl⟩
          case round =>
            obtain ⟨k, rfl, hk, rfl⟩ := hrel
            by_cases hke : k = L.length
            · subst hke
              go_wp2_with fail
              go_loopw [13, 14] (fun cv tv wq => ∃ k : Nat, tv = .int .i64 (k : Int) ∧ k ≤ L.length ∧ cv = .int .i64 ((min k (nxt T) : Nat) : Int) ∧ w5 = wq) (fun _ tv _ => L.length - (intOf tv).toNat)
              case atStart => exact ⟨0, rfl, by omega, by simp, rfl⟩
              case round =>
                obtain ⟨k, rfl, hk, rfl, rfl⟩ := hrel
                by_cases hke : k = L.length
                · subst hke
                  rw [Nat.min_eq_right hqL]
                  go_wp2_with fail
                  refine HS.out.mono ?_
                  rintro e w6 ⟨rfl, rfl⟩
                  go_wp2_with fail
                  go_roundw
                  case rel => exact ⟨i + 1, _, by simp, by omega, by omega, D5.out, B5.out⟩
                  case measure => simp [intOf]; omega
                · have klt : k < L.length := by omega
                  have klt' : (k : Int) < (L.length : Int) := by omega
                  obtain ⟨x, hx⟩ : ∃ x, L[k]? = some x := ⟨_, List.getElem?_eq_getElem klt⟩
                  obtain ⟨hx1, hx2⟩ := lst_at hL.out hx
                  obtain ⟨gl, cl, hv⟩ := own_slice' O5.out (by omega)
                  have cx : w5.cell? ⟨gl, k, none⟩ = some (.int .i64 x) := by
                    have := O5.out
                    rw [hv] at this
                    exact own_get this (by simp [il, hx])
                  simp only [Value.slice.injEq] at hv
                  obtain ⟨rfl, -, rfl⟩ := hv
                  replace hx := Lib.hid hx
                  by_cases hkq : k < nxt T
                  · have hxl : x < (nxt T : Int) + 1 := by have := hx1 hkq; omega
                    have hm : (min k (nxt T) : Nat) = k := Nat.min_eq_left (by omega)
                    rw [hm]
                    have hm2 := Lib.hid (show (min (k + 1) (nxt T) : Nat) = k + 1 from Nat.min_eq_left (by omega))
                    have hk30 : (k : Int) ≤ 30 := by omega
                    clear hx1 hx2 hke hm
                    go_wp2_with fail
                    go_roundw
                    case rel => exact ⟨k + 1, by simp, by omega, by rw [hm2.out]; simp, trivial⟩
                    case measure => simp [intOf]; omega
                  · have hxl : ¬ x < (nxt T : Int) + 1 := by have := hx2 (by omega); omega
                    have hm : (min k (nxt T) : Nat) = nxt T := Nat.min_eq_right (by omega)
                    rw [hm]
                    have hm2 := Lib.hid (show (min (k + 1) (nxt T) : Nat) = nxt T from Nat.min_eq_right (by omega))
                    clear hx1 hx2 hke hm
                    go_wp2_with fail
                    go_roundw
                    case rel => exact ⟨k + 1, by simp, by omega, by rw [hm2.out], trivial⟩
                    case measure => simp [intOf]; omega
            · have klt : k < L.length := by omega
              have klt' : (k : Int) < (L.length : Int) := by omega
              obtain ⟨x, hx⟩ : ∃ x, L[k]? = some x := ⟨_, List.getElem?_eq_getElem klt⟩
              obtain ⟨hx1, hx2⟩ := lst_at hL.out hx
              obtain ⟨gl, cl, hv⟩ := own_slice' O5.out (by omega)
              have cx : w5.cell? ⟨gl, k, none⟩ = some (.int .i64 x) := by
                have := O5.out
                rw [hv] at this
                exact own_get this (by simp [il, hx])
              simp only [Value.slice.injEq] at hv
              obtain ⟨rfl, -, rfl⟩ := hv
              have hne : (x == (nxt T : Int) + 1) = false := by
                rw [beq_eq_false_iff_ne]
                by_cases hkq : k < nxt T
                · have := hx1 hkq; omega
                · have := hx2 (by omega); omega
              replace hx := Lib.hid hx
              clear hx1 hx2 hke
              go_wp2_with fail
              go_roundw
              case rel => exact ⟨k + 1, by simp, by omega, trivial⟩
              case measure => simp [intOf]; omega
    · have BW := Lib.hid hb
      clear d hb
      by_cases c1 : i < len
      all_goals
        first
          | (have c3 : ¬ (i : Int) < 120 := by omega
             have c4 : (i : Int) < (len : Int) := by omega)
          | (have c4 : ¬ (i : Int) < (len : Int) := by omega)
        clear hlt c1
        go_wp2_with fail
        refine (awake21_any _).mono ?_
        rintro e w2 ⟨rfl, b2⟩
        go_wp2
        go_ret
        exact ⟨rfl, ext_trans BW.out b2⟩

set_option maxRecDepth 100000 in
theorem lifted (os : Os) (started : os.Started) (H : Type) (enc : TypeId × Value → H) :
    ReturnsInHanded {} Try.checked os 4 .any (Rows.idsOnceSpec.pre6 enc Try.prog Try.f4 Rows.idsOnceRow.domain false) (Rows.idsOnceSpec.post enc Try.prog Try.f4 false true false false) := by
  refine returnsInHanded_of_change_sized (C := Try.checked) own started (by kernel_rfl) Try.func4
    (ChangeSpec.witness6 (enc := enc) (C := Try.checked) false ⟨#[], #[.int .u8 0, .slice none 0 0], []⟩ 8 (by kernel_rfl) (by kernel_rfl) (by kernel_rfl) (by kernel_rfl)) ?_
  intro W base args ds gs before hval0 hW hcnd hsz0 _
  have hsz : (DataW.weightsEach Try.prog (Try.f4.params.toList ++ Rows.idsOnceSpec.plain.varTypes Try.prog) (ds ++ gs)).all (· ≤ reachBytes) = true := hsz0
  have hval : ∀ (j : Nat) t v, Try.f4.params[j]? = some t → args[j]? = some v → Value.okWide Try.prog W .any base t v := hval0
  have hW' := hW
  obtain ⟨p, q, hA0, hV, rfl, hfz, hnd⟩ := hW
  have hA : DataW.TrodAll enc Try.prog W 0 (fun _ => true) true Try.f4.params.toList args.toList ds p := hA0
  rw [Try.params4] at hA hval hsz
  obtain ⟨v0, vs0, d0, ds0, p0, q0, hargs, rfl, rfl, h0, r0⟩ := trodAll_cons hA
  obtain ⟨v1, vs1, d1, ds1, p1, q1, rfl, rfl, rfl, h1, r1⟩ := trodAll_cons r0
  obtain ⟨rfl, rfl, rfl⟩ := trodAll_nil r1
  obtain rfl : args = #[v0, v1] := by cases args; simp_all
  obtain ⟨rfl, rfl⟩ := trodVars_none hV
  have k0 := h0
  have lt0 : ∀ x ∈ p0, x.block < W.heap.size := by obtain ⟨m, hm⟩ := k0; exact DataW.trod_lt m _ _ _ hm
  have k1 := h1
  have lt1 : ∀ x ∈ p1, x.block < W.heap.size := by obtain ⟨m, hm⟩ := k1; exact DataW.trod_lt m _ _ _ hm
  obtain ⟨a0, rfl, rfl, rfl, w0⟩ := open_int Try.underlying5 (hval 0 5 v0 rfl rfl) h0
  have b0 := wf_u8 w0
  obtain ⟨a1, len1, cap1, rfl⟩ := okWide_slice Try.underlying41 (hval 1 41 v1 rfl rfl)
  obtain ⟨z1, w1, s1⟩ : ∃ zs, IsRow .u8 W a1 len1 cap1 zs ∧ cap1 * 1 ≤ 140737488351232 := by
    obtain ⟨fuel, hf⟩ := h1
    rcases open_ints Try.underlying41 Try.underlying5 (by kernel_rfl) hf with ⟨hcs, _⟩ | ⟨x, l, c, zs, hcs, _, hl, hm, hz, hx, hcell, hwz⟩
    · simp [Value.cells] at hcs
      obtain ⟨rfl, rfl, rfl⟩ := hcs
      exact ⟨[], .inl ⟨rfl, rfl, rfl, rfl⟩, by omega⟩
    · simp [Value.cells] at hcs
      obtain ⟨rfl, rfl, rfl⟩ := hcs
      have hz' : zs.length = cap1 := by simpa using hz
      have hd : d1 = .slice (lits .u8 (zs.take len1)) (lits .u8 (zs.drop len1)) := congrArg Prod.fst hx
      have hroom := sized_slice hsz (j := 1) (t := 41) (e := 5) rfl (by rw [hd]; rfl) Try.underlying41
      rw [show Try.prog.bytesOf 5 = 1 from by kernel_rfl] at hroom
      simp only [lits, List.length_map, List.length_take, List.length_drop, reachBytes] at hroom
      exact ⟨zs, .inr ⟨_, rfl, hl, hm, hz', hcell, hwz⟩, by omega⟩
  clear hA0 hval0 hsz0
  refine (walk a0 a1 len1 cap1 z1 W b0 w1 s1).mono fun e W' ⟨he, bel⟩ => ?_
  subst he
  exact ⟨_, rfl, _, _, _, [], _, [], hW', trodAll_mk1 (shut_bool Try.underlying4 _), (trodAll_cons_mk (Below.trod laidOut (by kernel_rfl) (of_decide_eq_true (by kernel_rfl)) k0 bel lt0) (trodAll_cons_mk (Below.trod laidOut (by kernel_rfl) (of_decide_eq_true (by kernel_rfl)) k1 bel lt1) trodAll_mk0)), rfl, bel.frame _, fun h => by cases h⟩

theorem over : Rows.idsOnceRow.holds Try.pinned (OpenSpec.ofChange Rows.idsOnceSpec) :=
  OpenClaim.holds_of_wide 4 Try.f4 rfl rfl rfl rfl rfl rfl rfl ⟨rfl, rfl, rfl, rfl, rfl⟩ rfl rfl rfl rfl rfl (by kernel_rfl) Try.func4 (by kernel_rfl)
    (of_decide_eq_true (by kernel_rfl)) (by unfold Func.isWrapper; first | (rw [if_pos (by decide +kernel)]; kernel_rfl) | (rw [if_neg (by decide +kernel)]; exact ⟨rfl, rfl⟩))
    (fun os started H enc _ => lifted os started H enc)

theorem proved : Rows.IdsOnceSaid := over
end Go.Proofs.Ytoijdmchkjmpgaa.idsOnce
