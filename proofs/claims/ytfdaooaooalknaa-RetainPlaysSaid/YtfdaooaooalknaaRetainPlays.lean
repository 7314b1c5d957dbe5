/-
  RetainPlays: FOR EVERY INPUT the law returns true and leaves its arguments as they were.
-/
import Derived.Test.YtfdaooaooalknaaQf
import Derived.Test.YtfdaooaooalknaaRows
import Derived.Deep.QuietTactic
import Derived.BigQuiet
import Derived.Deep.RegionHeld3
import Derived.WalkKit
import Derived.ProofKit
import Derived.OpenShut
import Derived.ShutString
import Derived.ChangeOld
import Derived.Below
import Derived.SizedLaws
import Derived.Lib.SmallJoins
namespace Go.Proofs.Ytfdaooaooalknaa.retainPlays
set_option linter.unusedSimpArgs false
open Go.ChangeShapes Go.WideShapes Go.ChangeAt Go.RowKit
open Go.ChangeMaps (open_string shut_string)
set_option linter.unusedVariables false

theorem own : ownKnob Try.prog.godebug = none := by kernel_rfl
theorem laidOut : laidOutB Try.prog = true := by kernel_rfl

open Go.Maps Go.WideMaps
set_option maxHeartbeats 32000000 in
set_option maxRecDepth 100000 in
theorem walk (a : Option Addr) (len cap : Nat) (A : List Mg) (fa : Option Addr) (flen fcap : Nat) (FS : List ByteArray) (w : World) (h0 : MsAt w (.slice a len cap) A) (ok0 : ∀ f ∈ A, f.ok) (hS : StrRow w fa flen FS) (hSm : ∀ i, i < flen → (FS.getD i ByteArray.empty).size ≤ 140737488351232) :
    Calls Try.prog 3 #[.slice a len cap, .slice fa flen fcap] w (Yes w) := by
  obtain ⟨x0, y0, hv0, hl0, hc⟩ := id h0
  simp only [Value.slice.injEq] at hv0
  obtain ⟨rfl, rfl, rfl⟩ := hv0
  have hl0' : (A.length : Int) ≤ 9223372036854775807 := by omega
  obtain ⟨-, hfl, hfc⟩ := hS
  have hfl' : (flen : Int) ≤ 9223372036854775807 := by unfold maxLen at hfl; omega
  replace h0 := Lib.hid h0
  replace hc := Lib.hid hc
  replace ok0 := Lib.hid ok0
  replace hfc := Lib.hid hfc
  replace hSm := Lib.hid hSm
  clear hl0 hfl
  have S0 := Lib.hid (bth_start w)
  go_enter Try.func3, Try.ntmps3
  go_wp2_with fail
  refine (new_any w).mono ?_
  rintro e w1 ⟨rfl, rfl⟩
  go_wp2_with fail
  generalize (((w.alloc (.map #[] 0)).alloc (.cells #[.map (some w.heap.size)] 48)).alloc (.cells #[.slice none 0 0] 28)) = w2 at *
  go_loopw [7] (fun iv wr => ∃ (k : Nat) (D : DataW Value) (L : List Mg), iv = .int .i64 (k : Int) ∧ k ≤ A.length ∧ k ≤ 80 ∧ Bth w wr k D L) (fun iv _ => A.length - (intOf iv).toNat)
  case atStart => exact ⟨0, _, _, rfl, by omega, by omega, S0.out⟩
  case round =>
    obtain ⟨k, D, L, rfl, hk1, hk2, hb⟩ := hrel
    by_cases hlt : k < A.length ∧ k < 80
    · obtain ⟨hlt0, hlt1⟩ := hlt
      obtain ⟨f, hf⟩ : ∃ f, A[k]? = some f := ⟨_, List.getElem?_eq_getElem hlt0⟩
      obtain ⟨ft, fx, fok⟩ := ok0.out f (List.mem_of_getElem? hf)
      obtain ⟨b, o, rfl, hb0, c0, c1, c2, c3⟩ := msAt_at hf hb.bw hc.out
      have K1 := Lib.hid (bth_keep hb (by omega) f.a0 f.a1 f.a2 f.a3 ft)
      have CS := Lib.hid (fun W (hb : Below w.heap.size w W) => (show W.cell? ⟨b, o + k * 4, none⟩ = some (.string f.a0) ∧ W.cell? ⟨b, o + k * 4 + 1, none⟩ = some (.string f.a1) ∧ W.cell? ⟨b, o + k * 4 + 2, none⟩ = some (.int .i64 f.a2) ∧ W.cell? ⟨b, o + k * 4 + 3, none⟩ = some (.bool f.a3) from by
        obtain ⟨b', o', e', -, d⟩ := msAt_at hf hb hc.out
        simp only [Option.some.injEq, Addr.mk.injEq, and_true] at e'
        obtain ⟨rfl, rfl⟩ := e'
        exact d))
      have hlt0' : (k : Int) < (A.length : Int) := by omega
      have hlt1' : (k : Int) < 80 := by omega
      have hbw := Lib.hid hb.bw
      replace hf := Lib.hid hf
      clear ft fx fok hb
      go_wp2_with fail
      refine K1.out.mono ?_
      rintro e w3 ⟨rfl, z3, b3, K2⟩
      have B3 := hbw.out.trans b3
      clear c0 c1 c2 c3 K1 b3
      obtain ⟨c0, c1, c2, c3⟩ := CS.out w3 B3
      replace K2 := Lib.hid K2
      replace B3 := Lib.hid B3
      go_wp2_with fail
      refine K2.out.mono ?_
      rintro e w4 ⟨rfl, b4, hb4⟩
      clear c0 c1 c2 c3 K2 b4 CS B3
      generalize xH L f.a0 f.a1 = H at *
      generalize xE L f.a0 f.a1 = E at *
      generalize kD D f.a0 f.a1 f.a2 = D4 at *
      generalize kL L f.a0 f.a1 f.a2 = L4 at *
      obtain ⟨v, xr, xo⟩ := hb4.xs.blk
      obtain ⟨va, vc, rfl⟩ := own_slice xo
      have cv : w4.cell? ⟨w.heap.size + 1 + 1, 0, none⟩ = some (.slice va L4.length vc) := by rw [cell_of_row w4 _ 0 _ 28 (0, 0) xr]; rfl
      have hgx : w.heap.size + 1 + 1 < w4.heap.size := by have := hb4.sz; omega
      have KO := Lib.hid (fun W (hW : Below w4.heap.size w4 W) => (hW.cell (p := ⟨w.heap.size + 1 + 1, 0, none⟩) hgx).trans cv)
      have LA := fun W (hW : Below w4.heap.size w4 W) => len_any W (w.heap.size + 1) w.heap.size (k + 1) D4 (hb4.sv.keep hW) (by omega)
      rw [← hb4.full] at LA
      replace LA := Lib.hid LA
      have hl4 : (L4.length : Int) ≤ 32 := by have := hb4.le; omega
      replace hb4 := Lib.hid hb4
      clear xr xo
      go_wp2_with fail
      go_region_held3 (fun W => W.cell? ⟨w.heap.size + 1 + 1, 0, none⟩ = some (.slice va L4.length vc))
        (first | exact KO.out _ (by first | exact Below.refl _ _ | exact ext_drew _ | assumption))
        (first | (go_at_call 8; refine (LA.out _ (by first | exact Below.refl _ _ | exact ext_drew _ | assumption)).mono ?_; rintro e w5 ⟨rfl, b5⟩; have b6 : Below w4.heap.size w4 w5 := ext_trans (by first | exact ext_drew _ | exact Below.refl _ _ ) b5; clear b5))
      all_goals
        clear KO LA cv
        have hb5 := Lib.hid (hb4.out.keep b6)
        clear hb4 b6
        go_wp2_with fail
        go_roundw
        case rel => exact ⟨k + 1, D4, L4, by simp, by omega, by omega, hb5.out⟩
        case measure => simp [intOf]; omega
    · by_cases hb1 : k < A.length
      all_goals
        first
          | have hb2 : ¬ (k : Int) < 80 := by omega
            have hb1' : (k : Int) < (A.length : Int) := by omega
          | have hb2 : ¬ (k : Int) < (A.length : Int) := by omega
        replace hb := Lib.hid hb
        clear hlt
        go_wp2_with fail
        go_loopw [12] (fun iv wv => ∃ j : Nat, iv = .int .i64 (j : Int) ∧ j ≤ flen ∧ j ≤ 20 ∧ Bth w wv k D L) (fun iv _ => flen - (intOf iv).toNat)
        case atStart => exact ⟨0, rfl, by omega, by omega, hb.out⟩
        case round =>
          obtain ⟨j, rfl, hj1, hj2, hv⟩ := hrel
          by_cases hlt : j < flen ∧ j < 20
          · obtain ⟨hlt0, hlt1⟩ := hlt
            obtain ⟨b, o, rfl, hbl, hce⟩ := hfc.out.resolve_left (by omega)
            have hct := (hce j hlt0).1
            have hts := hSm.out j hlt0
            generalize FS.getD j ByteArray.empty = t at *
            have TC := Lib.hid (fun W (hW : Below w.heap.size w W) => (hW.cell (p := ⟨b, o + j, none⟩) hbl).trans hct)
            have c0 := TC.out wr hv.bw
            have G1 := bth_get hv t hts
            have XG := fun W (hX : Xs W (w.heap.size + 2) (w.heap.size + 3) L) => xget W (w.heap.size + 2) (w.heap.size + 3) L t hX hv.ls.up (by have := hv.le; omega)
            obtain ⟨⟨z0, z1, z2, z3⟩, hz⟩ : ∃ z, z = xg t L := ⟨_, rfl⟩
            rw [← hz] at G1 XG
            unfold mV at G1 XG
            generalize thr t L = th at *
            have hlt0' : (j : Int) < (flen : Int) := by omega
            have hlt1' : (j : Int) < 20 := by omega
            replace G1 := Lib.hid G1
            replace XG := Lib.hid XG
            replace hv := Lib.hid hv
            clear hce hz
            go_wp2_with fail
            refine G1.out.mono ?_
            rintro e w3 ⟨rfl, b3⟩
            have A3 := ext_trans b3 (ext_alloc w3 (.cells #[.string z0, .string z1, .int .i64 z2, .bool z3] 33))
            have M3 : MsgAt (w3.alloc (.cells #[.string z0, .string z1, .int .i64 z2, .bool z3] 33)) w3.heap.size z0 z1 z2 z3 := heap_alloc_new w3 _
            have h3 := hv.out.keep A3
            have c3 := TC.out _ h3.bw
            have XX := Lib.hid (XG.out _ h3.xs)
            replace A3 := Lib.hid A3
            replace M3 := Lib.hid M3
            replace h3 := Lib.hid h3
            clear G1 b3 hv c0
            go_wp2_with fail
            refine XX.out.mono ?_
            rintro e w5 ⟨rfl, b5⟩
            have A5 := ext_trans b5 (ext_alloc w5 (.cells #[.string z0, .string z1, .int .i64 z2, .bool z3] 33))
            have h5 := h3.out.keep A5
            have M3b := M3.out.keep A5 M3.out.lt
            have M5 : MsgAt (w5.alloc (.cells #[.string z0, .string z1, .int .i64 z2, .bool z3] 33)) w5.heap.size z0 z1 z2 z3 := heap_alloc_new w5 _
            obtain ⟨x0, x1, x2, x3, -⟩ := M3b.cells
            obtain ⟨y0, y1, y2, y3, -⟩ := M5.cells
            have c5 := TC.out _ h5.bw
            have KO := fun W (hW : Below (w5.alloc (.cells #[.string z0, .string z1, .int .i64 z2, .bool z3] 33)).heap.size (w5.alloc (.cells #[.string z0, .string z1, .int .i64 z2, .bool z3] 33)) W) => (show W.cell? ⟨w3.heap.size, 0, none⟩ = some (.string z0) ∧ W.cell? ⟨w3.heap.size, 1, none⟩ = some (.string z1) ∧ W.cell? ⟨w3.heap.size, 2, none⟩ = some (.int .i64 z2) ∧ W.cell? ⟨w3.heap.size, 3, none⟩ = some (.bool z3) ∧ W.cell? ⟨w5.heap.size, 0, none⟩ = some (.string z0) ∧ W.cell? ⟨w5.heap.size, 1, none⟩ = some (.string z1) ∧ W.cell? ⟨w5.heap.size, 2, none⟩ = some (.int .i64 z2) ∧ W.cell? ⟨w5.heap.size, 3, none⟩ = some (.bool z3) ∧ W.cell? ⟨b, o + j, none⟩ = some (.string t) from
              ⟨(hW.cell (World.block_lt_of_cell? _ _ x0)).trans x0, (hW.cell (World.block_lt_of_cell? _ _ x1)).trans x1, (hW.cell (World.block_lt_of_cell? _ _ x2)).trans x2, (hW.cell (World.block_lt_of_cell? _ _ x3)).trans x3, (hW.cell (World.block_lt_of_cell? _ _ y0)).trans y0, (hW.cell (World.block_lt_of_cell? _ _ y1)).trans y1, (hW.cell (World.block_lt_of_cell? _ _ y2)).trans y2, (hW.cell (World.block_lt_of_cell? _ _ y3)).trans y3, (hW.cell (World.block_lt_of_cell? _ _ c5)).trans c5⟩)
            have FN := fun W (hW : Below (w5.alloc (.cells #[.string z0, .string z1, .int .i64 z2, .bool z3] 33)).heap.size (w5.alloc (.cells #[.string z0, .string z1, .int .i64 z2, .bool z3] 33)) W) => find_any W (w.heap.size + 1) w.heap.size k D t (h5.keep hW).sv h5.gd hts
            have XF := fun W (hW : Below (w5.alloc (.cells #[.string z0, .string z1, .int .i64 z2, .bool z3] 33)).heap.size (w5.alloc (.cells #[.string z0, .string z1, .int .i64 z2, .bool z3] 33)) W) => xfilter W (w.heap.size + 2) (w.heap.size + 3) L t (h5.keep hW).xs h5.le h5.small hts
            have LF : ∀ L6, Lst D (matchB t) L6 → L6 = L.filter (fun f => matchB t f.a0) := fun L6 h6 => h6.one h5.ls.filter
            have hlf : (L.filter fun f => matchB t f.a0).length ≤ 100000 := by
              have := List.length_filter_le (fun f : Mg => matchB t f.a0) L
              have := h5.le
              omega
            generalize hw5 : w5.alloc (.cells #[.string z0, .string z1, .int .i64 z2, .bool z3] 33) = w5a at *
            replace hw5 := Lib.hid hw5
            replace KO := Lib.hid KO
            replace FN := Lib.hid FN
            replace XF := Lib.hid XF
            replace LF := Lib.hid LF
            replace hlf := Lib.hid hlf
            replace h5 := Lib.hid h5
            clear M3 M3b M5 A5 A3 b5 XX h3 c3 XG
            rw [← hw5.out] at x0 x1 x2 x3 y0 y1 y2 y3 c5
            go_wp2_with fail
            generalize hw5' : w5.alloc (.cells #[.string z0, .string z1, .int .i64 z2, .bool z3] 33) = w5b at *
            obtain rfl : w5b = w5a := hw5.out
            replace hw5' := Lib.hid hw5'
            clear hw5
            go_region_held3 (fun W => W.cell? ⟨w3.heap.size, 0, none⟩ = some (.string z0) ∧ W.cell? ⟨w3.heap.size, 1, none⟩ = some (.string z1) ∧ W.cell? ⟨w3.heap.size, 2, none⟩ = some (.int .i64 z2) ∧ W.cell? ⟨w3.heap.size, 3, none⟩ = some (.bool z3) ∧ W.cell? ⟨w5.heap.size, 0, none⟩ = some (.string z0) ∧ W.cell? ⟨w5.heap.size, 1, none⟩ = some (.string z1) ∧ W.cell? ⟨w5.heap.size, 2, none⟩ = some (.int .i64 z2) ∧ W.cell? ⟨w5.heap.size, 3, none⟩ = some (.bool z3) ∧ W.cell? ⟨b, o + j, none⟩ = some (.string t))
              (first | exact KO.out _ (by first | exact Below.refl _ _ | exact ext_drew _ | assumption))
              (first
                | (go_at_call 12; refine (FN.out _ (by first | exact Below.refl _ _ | exact ext_drew _ | assumption)).mono ?_; rintro e w6 ⟨v6, L6, rfl, m6, l6, b6⟩; obtain rfl := LF.out L6 l6; have B6 : Below w5b.heap.size w5b w6 := ext_trans (by first | exact Below.refl _ _ | exact ext_drew _ | assumption) b6; clear b6 l6)
                | (go_at_call 13; refine (XF.out _ (by first | exact Below.refl _ _ | exact ext_drew _ | assumption)).mono ?_; rintro e w7 ⟨v7, rfl, m7, b7⟩; have B7 : Below w5b.heap.size w5b w7 := ext_trans (by first | exact Below.refl _ _ | exact ext_drew _ | assumption) b7; have B67 : Below w6.heap.size w6 w7 := ext_trans (by first | exact Below.refl _ _ | exact ext_drew _) b7; clear b7)
                | (go_at_call 11; refine (same_eq ((m6.keep B67 (Nat.le_refl _)).keep (by first | exact Below.refl _ _ | exact ext_drew _) (Nat.le_refl _)) (m7.keep (by first | exact Below.refl _ _ | exact ext_drew _) (Nat.le_refl _)) hlf.out).mono ?_; rintro e w8 ⟨rfl, b8⟩; have B8 : Below w5b.heap.size w5b w8 := ext_trans (by first | exact Below.refl _ _ | exact ext_drew _ | assumption) b8; clear b8))
            all_goals
              clear KO FN XF LF hlf m6 m7 B6 B7 B67 TC
              have h8 := Lib.hid (h5.out.keep B8)
              clear h5 B8 x0 x1 x2 x3 y0 y1 y2 y3 c5
              go_wp2_with fail
              go_roundw
              case rel => exact ⟨j + 1, by simp, by omega, by omega, by first | exact h8.out | exact h8.out.keep (ext_drew _)⟩
              case measure => simp [intOf]; omega
          · obtain ⟨v, xr, xo⟩ := hv.xs.blk
            obtain ⟨va, vc, rfl⟩ := own_slice xo
            have cv : wr.cell? ⟨w.heap.size + 1 + 1, 0, none⟩ = some (.slice va L.length vc) := by rw [cell_of_row wr _ 0 _ 28 (0, 0) xr]; rfl
            have hgx : w.heap.size + 1 + 1 < wr.heap.size := by have := hv.sz; omega
            have KO := Lib.hid (fun W (hW : Below wr.heap.size wr W) => (hW.cell (p := ⟨w.heap.size + 1 + 1, 0, none⟩) hgx).trans cv)
            have AN := Lib.hid (fun W (hW : Below wr.heap.size wr W) => all_any W (w.heap.size + 1) w.heap.size k D (hv.sv.keep hW) hv.gd)
            have MX := Lib.hid (MsAt.of_own xo (by have := hv.le; omega))
            have LF := Lib.hid (fun L6 (h6 : Lst D (fun _ => true) L6) => h6.one hv.ls)
            have hle : L.length ≤ 100000 := by have := hv.le; omega
            have hbw := Lib.hid hv.bw
            replace hle := Lib.hid hle
            clear xr xo hv
            by_cases hb3 : j < flen
            all_goals
              first
                | have hb4 : ¬ (j : Int) < 20 := by omega
                  have hb5 : (j : Int) < (flen : Int) := by omega
                | have hb4 : ¬ (j : Int) < (flen : Int) := by omega
              clear hlt
              go_wp2_with fail
              go_region_held3 (fun W => W.cell? ⟨w.heap.size + 1 + 1, 0, none⟩ = some (.slice va L.length vc))
                (first | exact KO.out _ (by first | exact Below.refl _ _ | exact ext_drew _ | assumption))
                (first
                  | (go_at_call 14; refine (AN.out _ (by first | exact Below.refl _ _ | exact ext_drew _ | assumption)).mono ?_; rintro e w6 ⟨v6, L6, rfl, m6, l6, b6⟩; have e6 := Lib.hid (LF.out L6 l6); have B6 : Below wr.heap.size wr w6 := ext_trans (by first | exact Below.refl _ _ | exact ext_drew _ | assumption) b6; clear b6 l6)
                  | (go_at_call 11; refine (same_eq ((e6.out ▸ m6).keep (by first | exact Below.refl _ _ | exact ext_drew _) (Nat.le_refl _)) (MX.out.keep (ext_trans B6 (by first | exact Below.refl _ _ | exact ext_drew _)) (Nat.le_refl _)) hle.out).mono ?_; rintro e w8 ⟨rfl, b8⟩; have B8 : Below wr.heap.size wr w8 := ext_trans B6 (ext_trans (by first | exact Below.refl _ _ | exact ext_drew _) b8); clear b8)
                  | (go_at_call 15; refine (awake_any _).mono ?_; rintro e w9 ⟨rfl, b9⟩; have B9 : Below wr.heap.size wr w9 := ext_trans B8 (ext_trans (by first | exact Below.refl _ _ | exact ext_drew _) b9); clear b9))
              all_goals
                have BZ := Lib.hid (hbw.out.trans (B9.mono hbw.out.size))
                clear KO AN MX LF B6 B8 B9 m6
                go_wp2_with fail
                go_ret
                exact ⟨rfl, by first | exact BZ.out | exact BZ.out.trans ((ext_drew _).mono BZ.out.size)⟩

set_option maxRecDepth 100000 in
theorem lifted (os : Os) (started : os.Started) (H : Type) (enc : TypeId × Value → H) :
    ReturnsInHanded {} Try.checked os 3 .any (Rows.retainPlaysSpec.pre6 enc Try.prog Try.f3 Rows.retainPlaysRow.domain false) (Rows.retainPlaysSpec.post enc Try.prog Try.f3 false true false false) := by
  refine returnsInHanded_of_change_sized (C := Try.checked) own started (by kernel_rfl) Try.func3
    (ChangeSpec.witness6 (enc := enc) (C := Try.checked) false ⟨#[], #[.slice none 0 0, .slice none 0 0], []⟩ 8 (by kernel_rfl) (by kernel_rfl) (by kernel_rfl) (by kernel_rfl)) ?_
  intro W base args ds gs before hval0 hW hcnd hsz0 _
  have hsz : (DataW.weightsEach Try.prog (Try.f3.params.toList ++ Rows.retainPlaysSpec.plain.varTypes Try.prog) (ds ++ gs)).all (· ≤ reachBytes) = true := hsz0
  have hval : ∀ (j : Nat) t v, Try.f3.params[j]? = some t → args[j]? = some v → Value.okWide Try.prog W .any base t v := hval0
  have hW' := hW
  obtain ⟨p, q, hA0, hV, rfl, hfz, hnd⟩ := hW
  have hA : DataW.TrodAll enc Try.prog W 0 (fun _ => true) true Try.f3.params.toList args.toList ds p := hA0
  rw [Try.params3] at hA hval hsz
  obtain ⟨v0, vs0, d0, ds0, p0, q0, hargs, rfl, rfl, h0, r0⟩ := trodAll_cons hA
  obtain ⟨v1, vs1, d1, ds1, p1, q1, rfl, rfl, rfl, h1, r1⟩ := trodAll_cons r0
  obtain ⟨rfl, rfl, rfl⟩ := trodAll_nil r1
  obtain rfl : args = #[v0, v1] := by cases args; simp_all
  obtain ⟨rfl, rfl⟩ := trodVars_none hV
  have k0 := h0
  have lt0 : ∀ x ∈ p0, x.block < W.heap.size := by obtain ⟨m, hm⟩ := k0; exact DataW.trod_lt m _ _ _ hm
  have k1 := h1
  have lt1 : ∀ x ∈ p1, x.block < W.heap.size := by obtain ⟨m, hm⟩ := k1; exact DataW.trod_lt m _ _ _ hm
  obtain ⟨a0, len0, cap0, rfl⟩ := okWide_slice Try.underlying22 (hval 0 22 v0 rfl rfl)
  obtain ⟨z0, w0, s0⟩ : ∃ l : List Mg, MsAt W (.slice a0 len0 cap0) l ∧ ∀ f ∈ l, f.ok := by
    obtain ⟨fuel, hf⟩ := h0
    exact open_ms hf (fun n hn => by
      have hm := List.all_eq_true.1 hsz n (DataW.weights_mem_each (j := 0) (t := 22) rfl rfl _ hn)
      simpa [reachBytes] using of_decide_eq_true hm)
  obtain ⟨a1, len1, cap1, rfl⟩ := okWide_slice Try.underlying23 (hval 1 23 v1 rfl rfl)
  obtain ⟨z1, w1, sm1⟩ : ∃ ss, StrRow W a1 len1 ss ∧ ∀ i, i < len1 → (ss.getD i ByteArray.empty).size ≤ 140737488351232 := by
    obtain ⟨fuel, hf⟩ := h1
    exact open_str_small Try.underlying23 Try.underlying9 (by kernel_rfl) hf (fun n hn => by
      have hm := List.all_eq_true.1 hsz n (DataW.weights_mem_each (j := 1) (t := 23) rfl rfl _ hn)
      simpa [reachBytes] using of_decide_eq_true hm)
  clear hA0 hval0 hsz0
  refine (walk a0 len0 cap0 z0 a1 len1 cap1 z1 W w0 s0 w1 sm1).mono fun e W' ⟨he, bel⟩ => ?_
  subst he
  exact ⟨_, rfl, _, _, _, [], _, [], hW', trodAll_mk1 (shut_bool Try.underlying4 _), (trodAll_cons_mk (Below.trod laidOut (by kernel_rfl) (of_decide_eq_true (by kernel_rfl)) k0 bel lt0) (trodAll_cons_mk (Below.trod laidOut (by kernel_rfl) (of_decide_eq_true (by kernel_rfl)) k1 bel lt1) trodAll_mk0)), rfl, bel.frame _, fun h => by cases h⟩

theorem over : Rows.retainPlaysRow.holds Try.pinned (OpenSpec.ofChange Rows.retainPlaysSpec) :=
  OpenClaim.holds_of_wide 3 Try.f3 rfl rfl rfl rfl rfl rfl rfl ⟨rfl, rfl, rfl, rfl, rfl⟩ rfl rfl rfl rfl rfl (by kernel_rfl) Try.func3 (by kernel_rfl)
    (of_decide_eq_true (by kernel_rfl)) (by unfold Func.isWrapper; first | (rw [if_pos (by decide +kernel)]; kernel_rfl) | (rw [if_neg (by decide +kernel)]; exact ⟨rfl, rfl⟩))
    (fun os started H enc _ => lifted os started H enc)

theorem proved : Rows.RetainPlaysSaid := over
end Go.Proofs.Ytfdaooaooalknaa.retainPlays
