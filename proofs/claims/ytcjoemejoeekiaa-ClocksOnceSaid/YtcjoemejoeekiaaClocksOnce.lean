/-
  ClocksOnce: FOR EVERY INPUT the law returns true and leaves its arguments as they were.
-/
import Derived.Test.YtcjoemejoeekiaaByt
import Derived.Test.YtcjoemejoeekiaaCt
import Derived.Test.YtcjoemejoeekiaaCp
import Derived.Test.YtcjoemejoeekiaaRows
import Derived.WalkKit
import Derived.ProofKit
import Derived.OpenShut
import Derived.ShutString
import Derived.ChangeOld
import Derived.Below
import Derived.SizedLaws
import Derived.Lib.SmallJoins
namespace Go.Proofs.Ytcjoemejoeekiaa.clocksOnce
open Go.ChangeShapes Go.WideShapes Go.ChangeAt Go.RowKit
open Go.ChangeMaps (open_string shut_string)
set_option linter.unusedVariables false

theorem own : ownKnob Try.prog.godebug = none := by kernel_rfl
theorem laidOut : laidOutB Try.prog = true := by kernel_rfl

open Cl Que Hp
def fw : Option Int → Int
  | none => 0
  | some d => d + 1
set_option maxHeartbeats 16000000 in
set_option maxRecDepth 100000 in
theorem walk (a0 : Option Addr) (len0 cap0 : Nat) (z0 : List Int) (a1 : Option Addr) (len1 cap1 : Nat) (z1 : List Int) (w : World) (h0 : IsRow .u16 w a0 len0 cap0 z0) (s0 : cap0 * 2 ≤ 140737488351232) (h1 : IsRow .u16 w a1 len1 cap1 z1) (s1 : cap1 * 2 ≤ 140737488351232) :
    Calls Try.prog 4 #[.slice a0 len0 cap0, .slice a1 len1 cap1] w (Yes w) := by
  obtain ⟨hl0, hlc0⟩ := h0.len_le
  obtain ⟨hl1, hlc1⟩ := h1.len_le
  have hl0' : (len0 : Int) ≤ 9223372036854775807 := by omega
  have hl1' : (len1 : Int) ≤ 9223372036854775807 := by omega
  have C0 := Lib.hid h0.cellAt
  have C1 := Lib.hid h1.cellAt
  have al := alen39
  clear h0 h1
  have N1 := Lib.hid (dnew w)
  go_enter Try.func4, Try.ntmps4
  go_wp2_with fail
  refine N1.out.mono ?_
  rintro e w1 ⟨rfl, d1, b1⟩
  have O1 : Hid (Oc w.heap.size (w1.alloc (.cells #[.int .i64 0, .int .i64 0, .int .i64 0, .int .i64 0, .int .i64 0, .int .i64 0, .int .i64 0, .int .i64 0] 39)) (w.heap.size + 2) 0 [] 39 w1.heap.size (row8 fw [])) := Lib.hid (Oc.of d1 (ext_alloc _ _) (heap_alloc_new w1 _) d1.bw (by decide))
  have B1 : Hid (Below w.heap.size w (w1.alloc (.cells #[.int .i64 0, .int .i64 0, .int .i64 0, .int .i64 0, .int .i64 0, .int .i64 0, .int .i64 0, .int .i64 0] 39))) := Lib.hid (b1.trans ((ext_alloc w1 _).mono b1.size))
  clear d1 b1 N1
  go_wp2_with fail
  generalize w1.alloc (.cells #[.int .i64 0, .int .i64 0, .int .i64 0, .int .i64 0, .int .i64 0, .int .i64 0, .int .i64 0, .int .i64 0] 39) = W1 at *
  generalize w1.heap.size = p at *
  go_loopw [7] (fun iv wr => ∃ (i : Nat) (L : List Tm), iv = .int .i64 (i : Int) ∧ i ≤ len0 ∧ i ≤ 40 ∧ Oc w.heap.size wr (w.heap.size + 2) i L 39 p (row8 fw L) ∧ Below w.heap.size w wr) (fun iv _ => len0 - (intOf iv).toNat)
  case atStart => exact ⟨0, [], rfl, by omega, by omega, O1.out, B1.out⟩
  case round =>
    obtain ⟨i, L, rfl, hi, hi2, h, hb⟩ := hrel
    clear O1 B1
    by_cases hlt : i < len0 ∧ i < 40
    · obtain ⟨hlt0, hlt1⟩ := hlt
      obtain ⟨b0, o0, rfl, hb0, hcell, hz0, hz1⟩ : ∃ b0 o, a0 = some ⟨b0, o, none⟩ ∧ b0 < w.heap.size ∧ w.cell? ⟨b0, o + i, none⟩ = some (.int .u16 (z0.getD i 0)) ∧ 0 ≤ z0.getD i 0 ∧ z0.getD i 0 ≤ 65535 := by
        rcases C0.out with h | ⟨b0, o, ha, hb0, h⟩
        · omega
        · exact ⟨b0, o, ha, by simpa using hb0, (h i hlt0).1, wf_u16 (h i hlt0).2⟩
      generalize z0.getD i 0 = y at *
      have hlt0' : (i : Int) < (len0 : Int) := by omega
      have hlt1' : (i : Int) < 40 := by omega
      obtain ⟨q, hq⟩ : ∃ q : Nat, (i : Int) % 8 = (q : Int) := ⟨i % 8, by omega⟩
      have q8 : q < 8 := by omega
      have q8' : (q : Int) < 8 := by omega
      have S1 := Lib.hid (oset0 h (by omega) (who := (q : Int)) (due := y) (by omega) (by omega) (by omega) (by omega))
      have hc1 := (hb.cell (p := ⟨b0, o0 + i, none⟩) hb0).trans hcell
      replace hb := Lib.hid hb
      clear h
      go_wp2_with fail
      refine S1.out.mono ?_
      rintro e w3 ⟨rfl, h3, b3⟩
      have hc3 := (b3.cell (p := ⟨b0, o0 + i, none⟩) hb0).trans hc1
      have hw3 : w3.cell? ⟨p, q, none⟩ = some (.int .i64 (fw (dueL L (q : Int)))) := (h3.cell q).trans (row8_at fw L q8)
      have fz3 := h3.free q
      have B3 := Lib.hid (hb.out.trans b3)
      have ST := h3.store q (.int .i64 (y + 1))
      rw [show (Value.int .i64 (y + 1)) = .int .i64 (fw (some y)) from rfl, row8_put fw L q y] at ST
      rw [show (Value.int .i64 (fw (some y))) = .int .i64 (y + 1) from rfl] at ST
      have ST1 := Lib.hid ST.1
      have ST2 := Lib.hid (B3.out.trans ST.2)
      clear h3 b3 S1 hc1 hcell ST
      go_wp2_with fail
      go_roundw
      case rel => exact ⟨i + 1, _, by simp, by omega, by omega, ST1.out, ST2.out⟩
      case measure => simp [intOf]; omega
    · have O1 := Lib.hid h
      have B1 := Lib.hid hb
      clear h hb C0
      by_cases c1 : i < len0
      all_goals
        first
          | (have c3 : ¬ (i : Int) < 40 := by omega
             have c4 : (i : Int) < (len0 : Int) := by omega)
          | (have c4 : ¬ (i : Int) < (len0 : Int) := by omega)
        clear hlt c1
        go_wp2_with fail
        go_loopw [8] (fun iv wr => ∃ (j : Nat) (M : List Tm), iv = .int .i64 (j : Int) ∧ j ≤ len1 ∧ j ≤ 20 ∧ Oc w.heap.size wr (w.heap.size + 2) i M 39 p (row8 fw M) ∧ Below w.heap.size w wr) (fun iv _ => len1 - (intOf iv).toNat)
        case atStart => exact ⟨0, L, rfl, by omega, by omega, O1.out, B1.out⟩
        case round =>
          obtain ⟨j, M, rfl, hj, hj2, h, hb⟩ := hrel
          clear O1 B1
          by_cases hlt : j < len1 ∧ j < 20
          · obtain ⟨hlt0, hlt1⟩ := hlt
            obtain ⟨b1, o1, rfl, hb1, hcell, hz0, hz1⟩ : ∃ b1 o, a1 = some ⟨b1, o, none⟩ ∧ b1 < w.heap.size ∧ w.cell? ⟨b1, o + j, none⟩ = some (.int .u16 (z1.getD j 0)) ∧ 0 ≤ z1.getD j 0 ∧ z1.getD j 0 ≤ 65535 := by
              rcases C1.out with h | ⟨b0, o, ha, hb0, h⟩
              · omega
              · exact ⟨b0, o, ha, by simpa using hb0, (h j hlt0).1, wf_u16 (h j hlt0).2⟩
            generalize z1.getD j 0 = y at *
            have hlt0' : (j : Int) < (len1 : Int) := by omega
            have hlt1' : (j : Int) < 20 := by omega
            have F1 := Lib.hid (ofire h (by omega) y)
            have hc1 := (hb.cell (p := ⟨b1, o1 + j, none⟩) hb1).trans hcell
            have ND := Lib.hid h.nd
            have RG := Lib.hid h.rg
            replace hb := Lib.hid hb
            clear h
            go_wp2_with fail
            refine F1.out.mono ?_
            rintro e w3 ⟨o, l, R, rfl, ho, hf, h3, b3⟩
            obtain ⟨va, vc, hv⟩ := own_slice ho
            have l8 := fired_len hf
            have hl8 : l.length ≤ 8 := by
              have := pig 8 (M.map Tm.k) ND.out (fun x hx => by
                obtain ⟨y, hy, rfl⟩ := List.mem_map.1 hx
                have := RG.out y hy
                omega)
              rw [List.length_map] at this
              omega
            have hl8' : (l.length : Int) ≤ 8 := by omega
            have R3 : Hid (∃ S, (S.map Tm.k).Nodup ∧ (∀ x ∈ S, 0 ≤ x.k ∧ x.k < 8 ∧ 0 ≤ x.d) ∧ Fired y (l.drop 0) S R ∧ Oc w.heap.size w3 (w.heap.size + 2) i R 39 p (row8 fw S)) := Lib.hid ⟨M, ND.out, fun x hx => by have := RG.out x hx; omega, hf, h3⟩
            have B3 := Lib.hid (hb.out.trans b3)
            have HO := Lib.hid ho
            replace hv := Lib.hid hv
            clear h3 b3 ho hf F1 ND RG hc1 l8
            rw [hv.out]
            go_wp2_with fail
            go_loopw [10] (fun kv wr => ∃ (k : Nat) (S : List Tm), kv = .int .i64 (k : Int) ∧ k ≤ l.length ∧ (S.map Tm.k).Nodup ∧ (∀ x ∈ S, 0 ≤ x.k ∧ x.k < 8 ∧ 0 ≤ x.d) ∧ Fired y (l.drop k) S R ∧ Oc w.heap.size wr (w.heap.size + 2) i R 39 p (row8 fw S) ∧ (∃ B, wr.ownsRow B 3 1 o l.length (il l)) ∧ Below w.heap.size w wr) (fun kv _ => 100 - (intOf kv).toNat)
            case atStart =>
              obtain ⟨S, q1, q2, q3, q4⟩ := R3.out
              exact ⟨0, S, rfl, by omega, q1, q2, q3, q4, ⟨_, HO.out⟩, B3.out⟩
            case round =>
              obtain ⟨k, S, rfl, hk, nd, rg, hf, h, ⟨B, ho⟩, hb⟩ := hrel
              clear R3 B3 HO
              by_cases hkl : k < l.length
              · have hkl' : (k : Int) < (l.length : Int) := by omega
                obtain ⟨x0, hx0⟩ : ∃ x, l[k]? = some x := ⟨_, List.getElem?_eq_getElem hkl⟩
                rw [List.drop_eq_getElem_cons hkl] at hf
                obtain ⟨x, S2, hxk, hxd, hp, hm, hf2⟩ := hf
                have hx0' : l[k] = x0 := by rw [List.getElem?_eq_getElem hkl] at hx0; exact Option.some.inj hx0
                rw [hx0'] at hxk
                subst hxk
                have hxr := rg x hm.1
                obtain ⟨q, hq⟩ : ∃ q : Nat, x.k = (q : Int) := ⟨x.k.toNat, by omega⟩
                have q8 : q < 8 := by omega
                have q8' : (q : Int) < 8 := by omega
                have hd : dueL S (q : Int) = some x.d := by rw [← hq]; exact dueL_of nd hm.1
                obtain ⟨g, cc, hv2⟩ := own_slice' ho (by omega)
                have e1 := row_get ho hv2 hx0
                rw [hq] at e1
                have e2 : wr.cell? ⟨p, q, none⟩ = some (.int .i64 (x.d + 1)) := by
                  rw [h.cell q, row8_at fw S q8, hd]; rfl
                have fz := h.free q
                have e3 := (hb.cell (p := ⟨b1, o1 + j, none⟩) hb1).trans hcell
                have hpop : ∀ a : Int, dueL S2 a = if a = (q : Int) then none else dueL S a := fun a => by rw [← hq]; exact dueL_pop nd hp a
                have RW : Hid (∀ n, Oc w.heap.size ((wr.drewN n).setCell ⟨p, q, none⟩ (.int .i64 0)) (w.heap.size + 2) i R 39 p (row8 fw S2) ∧ (∃ B, ((wr.drewN n).setCell ⟨p, q, none⟩ (.int .i64 0)).ownsRow B 3 1 o l.length (il l)) ∧ Below w.heap.size w ((wr.drewN n).setCell ⟨p, q, none⟩ (.int .i64 0))) := Lib.hid fun n => by
                  have hD := h.keep (ext_drewN wr n)
                  have ST := hD.store q (.int .i64 0)
                  rw [show (Value.int .i64 0) = .int .i64 (fw none) from rfl, row8_set fw hpop] at ST
                  exact ⟨ST.1, ⟨B, hD.row (own_keep ho (ext_drewN wr n)) q _⟩, (hb.trans ((ext_drewN wr n).mono hb.size)).trans ST.2⟩
                have hnd2 : Hid ((S2.map Tm.k).Nodup) := Lib.hid (by have := (hp.map Tm.k).nodup_iff.1 nd; rw [List.map_cons, List.nodup_cons] at this; exact this.2)
                have hrg2 : Hid (∀ x ∈ S2, 0 ≤ x.k ∧ x.k < 8 ∧ 0 ≤ x.d) := Lib.hid fun z hz => rg z (hp.mem_iff.2 (List.mem_cons_of_mem _ hz))
                replace hf2 := Lib.hid hf2
                have n1 : ¬ y < x.d := by omega
                have n2 : (x.d + 1 == 0) = false := by rw [beq_eq_false_iff_ne]; omega
                have xd0 := hxr.2.2
                have ew1 : IntKind.i64.wrap (x.d + 1 - 1) = x.d := by rw [IntWalk.i64_in _ (by omega)]; omega
                have ew2 : IntKind.i64.wrap x.d = x.d := IntWalk.i64_in _ (by omega)
                have ew3 : IntKind.i64.wrap y = y := IntWalk.i64_in _ (by omega)
                have hve := hv.out.symm.trans hv2
                simp only [Value.slice.injEq] at hve
                obtain ⟨rfl, -, rfl⟩ := hve
                generalize x.d = xd at *
                clear hx0' nd rg hp hm h ho hb hpop hd hxr hx0 hq
                go_wp2_with fail
                go_quiet (fail)
                go_wp2_with fail
                go_roundw
                case rel => exact ⟨k + 1, S2, by simp, by omega, hnd2.out, hrg2.out, hf2.out, (RW.out _).1, (RW.out _).2.1, (RW.out _).2.2⟩
                case measure => simp [intOf]; omega
              · obtain rfl : k = l.length := by omega
                rw [List.drop_length] at hf
                obtain ⟨pR, hlate⟩ := hf
                rw [row8_perm fw nd pR.symm] at h
                have LT : Hid (∀ (u : Int) (d : Int), dueL R u = some d → y < d ∧ d ≤ 9223372036854775807 ∧ 0 ≤ d) := Lib.hid fun u d hd => by
                  have h1 := dueL_some hd
                  have h2 := hlate _ (pR.mem_iff.1 h1)
                  have h3 := h.rg _ h1
                  simp only at h2 h3
                  omega
                have H4 := Lib.hid h
                have B4 := Lib.hid hb
                clear h hb nd rg hlate pR ho hkl
                go_wp2_with fail
                go_loopw [11] (fun uv wr => ∃ u : Nat, uv = .int .i64 (u : Int) ∧ u ≤ 8 ∧ Oc w.heap.size wr (w.heap.size + 2) i R 39 p (row8 fw R) ∧ Below w.heap.size w wr) (fun uv _ => 8 - (intOf uv).toNat)
                case atStart => exact ⟨0, rfl, by omega, H4.out, B4.out⟩
                case round =>
                  obtain ⟨u, rfl, hu, h, hb⟩ := hrel
                  clear H4 B4
                  by_cases hu8 : u < 8
                  · have hu8' : (u : Int) < 8 := by omega
                    have c1 : wr.cell? ⟨p, u, none⟩ = some (.int .i64 (fw (dueL R (u : Int)))) := by rw [h.cell u, row8_at fw R hu8]
                    have e3 := (hb.cell (p := ⟨b1, o1 + j, none⟩) hb1).trans hcell
                    have RW : Hid (∀ n, Oc w.heap.size (wr.drewN n) (w.heap.size + 2) i R 39 p (row8 fw R) ∧ Below w.heap.size w (wr.drewN n)) := Lib.hid fun n => ⟨h.keep (ext_drewN wr n), hb.trans ((ext_drewN wr n).mono hb.size)⟩
                    clear h hb
                    cases hd : dueL R (u : Int) with
                    | none =>
                      rw [hd] at c1
                      replace c1 : wr.cell? ⟨p, u, none⟩ = some (.int .i64 0) := c1
                      clear hd
                      go_wp2_with fail
                      go_quiet (fail)
                      go_wp2_with fail
                      go_roundw
                      case rel => exact ⟨u + 1, by simp, by omega, (RW.out _).1, (RW.out _).2⟩
                      case measure => simp [intOf]; omega
                    | some d =>
                      obtain ⟨d1, d2, d3⟩ := LT.out _ _ hd
                      rw [hd] at c1
                      replace c1 : wr.cell? ⟨p, u, none⟩ = some (.int .i64 (d + 1)) := c1
                      have d4 : ¬ d ≤ y := by omega
                      have d5 : (0 : Int) < d + 1 := by omega
                      clear hd
                      go_wp2_with fail
                      have ew1 : IntKind.i64.wrap d = d := IntWalk.i64_in _ (by omega)
                      have ew2 : IntKind.i64.wrap y = y := IntWalk.i64_in _ (by omega)
                      go_quiet (fail)
                      go_wp2_with fail
                      go_roundw
                      case rel => exact ⟨u + 1, by simp, by omega, (RW.out _).1, (RW.out _).2⟩
                      case measure => simp [intOf]; omega
                  · obtain rfl : u = 8 := by omega
                    have H5 := Lib.hid h
                    have B5 := Lib.hid hb
                    clear h hb
                    go_wp2_with fail
                    go_roundw
                    case rel => exact ⟨j + 1, R, by simp, by omega, by omega, H5.out, B5.out⟩
                    case measure => simp [intOf]; omega
          · have BW := Lib.hid hb
            clear h hb
            by_cases c5 : j < len1
            all_goals
              first
                | (have c6 : ¬ (j : Int) < 20 := by omega
                   have c7 : (j : Int) < (len1 : Int) := by omega)
                | (have c7 : ¬ (j : Int) < (len1 : Int) := by omega)
              clear hlt c5
              go_wp2_with fail
              refine (awake26_any _).mono ?_
              rintro e w2 ⟨rfl, b2⟩
              go_wp2
              go_ret
              exact ⟨rfl, ext_trans BW.out b2⟩

set_option maxRecDepth 100000 in
theorem lifted (os : Os) (started : os.Started) (H : Type) (enc : TypeId × Value → H) :
    ReturnsInHanded {} Try.checked os 4 .any (Rows.clocksOnceSpec.pre6 enc Try.prog Try.f4 Rows.clocksOnceRow.domain false) (Rows.clocksOnceSpec.post enc Try.prog Try.f4 false true false false) := by
  refine returnsInHanded_of_change_sized (C := Try.checked) own started (by kernel_rfl) Try.func4
    (ChangeSpec.witness6 (enc := enc) (C := Try.checked) false ⟨#[], #[.slice none 0 0, .slice none 0 0], []⟩ 8 (by kernel_rfl) (by kernel_rfl) (by kernel_rfl) (by kernel_rfl)) ?_
  intro W base args ds gs before hval0 hW hcnd hsz0 _
  have hsz : (DataW.weightsEach Try.prog (Try.f4.params.toList ++ Rows.clocksOnceSpec.plain.varTypes Try.prog) (ds ++ gs)).all (· ≤ reachBytes) = true := hsz0
  have hval : ∀ (j : Nat) t v, Try.f4.params[j]? = some t → args[j]? = some v → Value.okWide Try.prog W .any base t v := hval0
  have hW' := hW
  obtain ⟨p, q, hA0, hV, rfl, hfz, hnd⟩ := hW
  have hA : DataW.TrodAll enc Try.prog W 0 (fun _ => true) true Try.f4.params.toList args.toList ds p := hA0
  rw [Try.params4] at hA hval hsz
  obtain ⟨v0, vs0, d0, ds0, p0, q0, hargs, rfl, rfl, h0, r0⟩ := trodAll_cons hA
  obtain ⟨v1, vs1, d1, ds1, p1, q1, rfl, rfl, rfl, h1, r1⟩ := trodAll_cons r0
  obtain ⟨rfl, rfl, rfl⟩ := trodAll_nil r1
  obtain rfl : args = #[v0, v1] := by cases args; simp_all
  obtain ⟨rfl, rfl⟩ := trodVars_none hV
  have k0 := h0
  have lt0 : ∀ x ∈ p0, x.block < W.heap.size := by obtain ⟨m, hm⟩ := k0; exact DataW.trod_lt m _ _ _ hm
  have k1 := h1
  have lt1 : ∀ x ∈ p1, x.block < W.heap.size := by obtain ⟨m, hm⟩ := k1; exact DataW.trod_lt m _ _ _ hm
  obtain ⟨a0, len0, cap0, rfl⟩ := okWide_slice Try.underlying45 (hval 0 45 v0 rfl rfl)
  obtain ⟨z0, w0, s0⟩ : ∃ zs, IsRow .u16 W a0 len0 cap0 zs ∧ cap0 * 2 ≤ 140737488351232 := by
    obtain ⟨fuel, hf⟩ := h0
    rcases open_ints Try.underlying45 Try.underlying46 (by kernel_rfl) hf with ⟨hcs, _⟩ | ⟨x, l, c, zs, hcs, _, hl, hm, hz, hx, hcell, hwz⟩
    · simp [Value.cells] at hcs
      obtain ⟨rfl, rfl, rfl⟩ := hcs
      exact ⟨[], .inl ⟨rfl, rfl, rfl, rfl⟩, by omega⟩
    · simp [Value.cells] at hcs
      obtain ⟨rfl, rfl, rfl⟩ := hcs
      have hz' : zs.length = cap0 := by simpa using hz
      have hd : d0 = .slice (lits .u16 (zs.take len0)) (lits .u16 (zs.drop len0)) := congrArg Prod.fst hx
      have hroom := sized_slice hsz (j := 0) (t := 45) (e := 46) rfl (by rw [hd]; rfl) Try.underlying45
      rw [show Try.prog.bytesOf 46 = 2 from by kernel_rfl] at hroom
      simp only [lits, List.length_map, List.length_take, List.length_drop, reachBytes] at hroom
      exact ⟨zs, .inr ⟨_, rfl, hl, hm, hz', hcell, hwz⟩, by omega⟩
  obtain ⟨a1, len1, cap1, rfl⟩ := okWide_slice Try.underlying45 (hval 1 45 v1 rfl rfl)
  obtain ⟨z1, w1, s1⟩ : ∃ zs, IsRow .u16 W a1 len1 cap1 zs ∧ cap1 * 2 ≤ 140737488351232 := by
    obtain ⟨fuel, hf⟩ := h1
    rcases open_ints Try.underlying45 Try.underlying46 (by kernel_rfl) hf with ⟨hcs, _⟩ | ⟨x, l, c, zs, hcs, _, hl, hm, hz, hx, hcell, hwz⟩
    · simp [Value.cells] at hcs
      obtain ⟨rfl, rfl, rfl⟩ := hcs
      exact ⟨[], .inl ⟨rfl, rfl, rfl, rfl⟩, by omega⟩
    · simp [Value.cells] at hcs
      obtain ⟨rfl, rfl, rfl⟩ := hcs
      have hz' : zs.length = cap1 := by simpa using hz
      have hd : d1 = .slice (lits .u16 (zs.take len1)) (lits .u16 (zs.drop len1)) := congrArg Prod.fst hx
      have hroom := sized_slice hsz (j := 1) (t := 45) (e := 46) rfl (by rw [hd]; rfl) Try.underlying45
      rw [show Try.prog.bytesOf 46 = 2 from by kernel_rfl] at hroom
      simp only [lits, List.length_map, List.length_take, List.length_drop, reachBytes] at hroom
      exact ⟨zs, .inr ⟨_, rfl, hl, hm, hz', hcell, hwz⟩, by omega⟩
  clear hA0 hval0 hsz0
  refine (walk a0 len0 cap0 z0 a1 len1 cap1 z1 W w0 s0 w1 s1).mono fun e W' ⟨he, bel⟩ => ?_
  subst he
  exact ⟨_, rfl, _, _, _, [], _, [], hW', trodAll_mk1 (shut_bool Try.underlying4 _), (trodAll_cons_mk (Below.trod laidOut (by kernel_rfl) (of_decide_eq_true (by kernel_rfl)) k0 bel lt0) (trodAll_cons_mk (Below.trod laidOut (by kernel_rfl) (of_decide_eq_true (by kernel_rfl)) k1 bel lt1) trodAll_mk0)), rfl, bel.frame _, fun h => by cases h⟩

theorem over : Rows.clocksOnceRow.holds Try.pinned (OpenSpec.ofChange Rows.clocksOnceSpec) :=
  OpenClaim.holds_of_wide 4 Try.f4 rfl rfl rfl rfl rfl rfl rfl ⟨rfl, rfl, rfl, rfl, rfl⟩ rfl rfl rfl rfl rfl (by kernel_rfl) Try.func4 (by kernel_rfl)
    (of_decide_eq_true (by kernel_rfl)) (by unfold Func.isWrapper; first | (rw [if_pos (by decide +kernel)]; kernel_rfl) | (rw [if_neg (by decide +kernel)]; exact ⟨rfl, rfl⟩))
    (fun os started H enc _ => lifted os started H enc)

theorem proved : Rows.ClocksOnceSaid := over
end Go.Proofs.Ytcjoemejoeekiaa.clocksOnce
