/-
  DeviceLives: FOR EVERY INPUT the law returns true and leaves its arguments as they were.
-/
import Derived.Test.YtdljddghbkcddaaDe
import Derived.Test.YtdljddghbkcddaaByt
import Derived.Test.YtdljddghbkcddaaRows
import Derived.WalkKit
import Derived.Deep.RegionHeld3
import Derived.ProofKit
import Derived.OpenShut
import Derived.ShutString
import Derived.ChangeOld
import Derived.Below
import Derived.SizedLaws
import Derived.Lib.SmallJoins
namespace Go.Proofs.Ytdljddghbkcddaa.deviceLives
open Go.ChangeShapes Go.WideShapes Go.ChangeAt Go.RowKit
open Go.ChangeMaps (open_string shut_string)
set_option linter.unusedVariables false

theorem own : ownKnob Try.prog.godebug = none := by kernel_rfl
theorem laidOut : laidOutB Try.prog = true := by kernel_rfl

theorem its_lit (w : World) (f : It) : ItsAt (w.alloc (.cells f.cells.toArray 49)) (.slice (some ⟨w.heap.size, 0, none⟩) 1 1) [f] := by
  refine ⟨some ⟨w.heap.size, 0, none⟩, 1, rfl, by simp, .inr ⟨w.heap.size, 0, rfl, by simp, fun i g hi j u hu => ?_⟩⟩
  have hi0 : i = 0 := by
    have := (List.getElem?_eq_some_iff.1 hi).1
    simp at this; omega
  subst hi0
  simp at hi
  subst hi
  rw [World.cell?_alloc_at _ _ _ _ rfl]
  simpa using hu
theorem one_at (w : World) (q : Nat) : BytesAt (w.alloc (.cells #[.int .u8 (q : Int)] 5)) (.slice (some ⟨w.heap.size, 0, none⟩) 1 1) [q] := by
  refine ⟨_, 1, rfl, ⟨by simp, fun h => by cases h⟩, .inr ⟨w.heap.size, 0, rfl, by simp, fun i hi => ?_⟩⟩
  rw [World.cell?_alloc_at _ _ _ _ rfl]
  have : i = 0 := by simp at hi; omega
  subst this; simp
/-- Between two rounds. -/
structure Lv (w wr : World) (len : Nat) (k b d : Nat) (on : Bool) (v : Value) (L : List It) : Prop where
  kl : k ≤ len
  k8 : k ≤ 80
  bk : b ≤ k
  db : d + (if on then 1 else 0) ≤ b
  dv : Dv 79 wr w.heap.size tD on v L (b : Nat)
  bw : Below w.heap.size w wr
set_option maxHeartbeats 8000000 in
set_option maxRecDepth 100000 in
theorem walk (a : Option Addr) (len cap : Nat) (z : List Int) (w : World) (h0 : IsRow .u8 w a len cap z) (s0 : cap * 1 ≤ 140737488351232) :
    Calls Try.prog 5 #[.slice a len cap] w (Yes w) := by
  obtain ⟨hl, hlc⟩ := h0.len_le
  have hl' : (len : Int) ≤ 9223372036854775807 := by omega
  have C0 := Lib.hid h0.cellAt
  have NW := Lib.hid (new_any tD w tD_ne)
  clear h0
  go_enter Try.func5, Try.ntmps5
  go_wp2_with fail
  refine (NW.out).mono ?_
  rintro e w1 ⟨rfl, t1, b1⟩
  replace b1 := Lib.hid b1
  replace t1 := Lib.hid t1
  go_wp2_with fail
  go_loopw [5, 6, 7] (fun bo di i wr => ∃ (k b d : Nat) (on : Bool) (v : Value) (L : List It), i = .int .i64 (k : Int) ∧ bo = .int .i64 (b : Int) ∧ di = .int .i64 (d : Int) ∧ Lv w wr len k b d on v L) (fun _ _ i _ => len - (intOf i).toNat)
  case atStart => exact ⟨0, 0, 0, false, _, [], rfl, rfl, rfl, by omega, by omega, by omega, by simp, t1.out, b1.out⟩
  case round =>
    obtain ⟨k, b, d, on, v, L, rfl, rfl, rfl, hkl, hk8, hbk, hdb, hdv, hbw⟩ := hrel
    have wlt := hdv.lt
    by_cases hlt : k < len ∧ k < 80
    · obtain ⟨hlt0, hlt1⟩ := hlt
      have hc0 : ∃ b0 o, a = some ⟨b0, o, none⟩ ∧ b0 < w.heap.size ∧ w.cell? ⟨b0, o + k, none⟩ = some (.int .u8 (z.getD k 0)) ∧ 0 ≤ z.getD k 0 ∧ z.getD k 0 ≤ 255 := by
        rcases C0.out with h | ⟨b0, o, ha, hb, h⟩
        · omega
        · exact ⟨b0, o, ha, hb, (h k hlt0).1, wf_u8 (h k hlt0).2⟩
      obtain ⟨b0, o0, rfl, hb0, hcell0, hz0, hz1⟩ := hc0
      generalize z.getD k 0 = c at *
      have hlt0' : (k : Int) < len := by omega
      have hlt1' : (k : Int) < 80 := by omega
      have VW := Lib.hid (view_any hdv tD_ne)
      replace hdv := Lib.hid hdv
      replace hbw := Lib.hid hbw
      go_wp2_with fail
      refine VW.out.mono ?_
      rintro e wv ⟨v1, rfl, o1, bv⟩
      obtain ⟨va, vc, rfl⟩ := own_slice o1
      have rv := heap_alloc_new wv (.cells #[.string tD, .bool on, .slice va L.length vc] 31)
      have bW := bv.alloc bv.size (.cells #[.string tD, .bool on, .slice va L.length vc] 31)
      have lv : w.heap.size < wv.heap.size := Nat.lt_of_lt_of_le wlt bv.size
      have dW := hdv.out.keep bW
      have oW := own_keep o1 (ext_alloc wv (.cells #[.string tD, .bool on, .slice va L.length vc] 31))
      have BW := hbw.out.trans (bW.mono hbw.out.size)
      have cW : (wv.alloc (.cells #[.string tD, .bool on, .slice va L.length vc] 31)).cell? ⟨b0, o0 + k, none⟩ = some (.int .u8 c) := (BW.cell (by simpa using hb0)).trans hcell0
      have lW : wv.heap.size < (wv.alloc (.cells #[.string tD, .bool on, .slice va L.length vc] 31)).heap.size := by simp
      have ON := Lib.hid (online_any dW tD_ne)
      replace rv := Lib.hid rv
      replace bW := Lib.hid bW
      replace dW := Lib.hid dW
      replace oW := Lib.hid oW
      replace BW := Lib.hid BW
      clear o1 bv hcell0
      go_wp2_with fail
      generalize wv.alloc (.cells #[.string tD, .bool on, .slice va L.length vc] 31) = W1 at *
      refine ON.out.mono ?_
      rintro e w' ⟨rfl, rfl⟩
      have h3 : c % 3 = 0 ∨ c % 3 = 1 ∨ c % 3 = 2 := by omega
      rcases h3 with h3 | h3 | h3
      · have d0 : (c % 3 == 0) = true := by simpa using h3
        have cv : (convert 51 9 (.slice (some ⟨W1.heap.size, 0, none⟩) 1 1)).run Try.prog (W1.alloc (.cells #[.int .u8 (k : Int)] 5)) = .ok (.string (strB [k])) (W1.alloc (.cells #[.int .u8 (k : Int)] 5)) := (one_at W1 k).conv Try.underlying51 Try.underlying5 Try.underlying9
        have hnI : (0 : Int) ≤ (b : Int) ∧ (b : Int) ≤ 1000 := by omega
        have bA : Below W1.heap.size W1 ((W1.alloc (.cells #[.int .u8 (k : Int)] 5)).alloc (.cells #[.string (strB [k]), .bool false, .int .u64 0, .int .u32 0, .bool false, .int .i64 0, .int .u64 0, .string { data := #[] }] 49)) := ext_two _ _ _
        have BO := born_any (dW.out.keep bA) tD_ne _ [⟨strB [k], false, 0, 0, false, 0, 0, { data := #[] }⟩] (its_lit (W1.alloc (.cells #[.int .u8 (k : Int)] 5)) ⟨strB [k], false, 0, 0, false, 0, 0, { data := #[] }⟩) hnI
        generalize strB [k] = S at *
        replace h3 := Lib.hid h3
        replace BO := Lib.hid BO
        replace bA := Lib.hid bA
        have sz5 : (W1.alloc (.cells #[.int .u8 (k : Int)] 5)).heap.size = W1.heap.size + 1 := by simp
        rw [sz5] at BO
        replace sz5 := Lib.hid sz5
        go_wp2_with fail
        refine BO.out.mono ?_
        rintro e w5 ⟨rfl, ⟨v5, t5⟩, g5⟩
        have B5 := Lib.hid ((BW.out.trans (bA.out.mono BW.out.size)).grown g5 (by have := BW.out.size; simp; omega) (fun j hj => by cases hj; exact Nat.le_refl _))
        clear g5
        replace t5 := Lib.hid t5
        go_wp2_with fail
        go_roundw
        case rel => exact ⟨k + 1, b + 1, d, true, v5, _, by simp, by simp, rfl, by omega, by omega, by omega, by cases on <;> simp at hdb ⊢ <;> omega, by simpa using t5.out, B5.out⟩
        case measure => simp [intOf]; omega
      · have d0 : (c % 3 == 0) = false := by rw [beq_eq_false_iff_ne]; omega
        have d1 : (c % 3 == 1) = true := by simpa using h3
        replace h3 := Lib.hid h3
        cases on
        · have TO := Lib.hid (told_off dW.out tD_ne none 0 0)
          go_wp2_with fail
          refine TO.out.mono ?_
          rintro e w3 ⟨rfl, ⟨v3, t3⟩, g3⟩
          have B3 := Lib.hid (BW.out.grown g3 BW.out.size (fun j hj => by cases hj; exact Nat.le_refl _))
          have o3 := own_grown oW.out dW.out.row (by decide) g3
          have r3 : w3.heap[wv.heap.size]? = some (.cells #[.string tD, .bool false, .slice va L.length vc] 31 (0, 0)) := (g3.block _ lW (fun e => by have := Option.some.inj e; omega)).trans rv.out
          have hlL := t3.len
          have ROW := Lib.hid (fun W (hb : Below w3.heap.size w3 W) => (hb.block _ (Array.getElem?_eq_some_iff.1 r3).1).trans r3)
          have VV := Lib.hid (fun W (hb : Below w3.heap.size w3 W) => view_any (t3.keep hb) tD_ne)
          have WAS := Lib.hid (fun W (hb : Below w3.heap.size w3 W) => (ItsAt.of_own o3 hlL).keep hb (Nat.le_refl _))
          have x0 := cell_of_row w3 wv.heap.size 0 _ 31 (0, 0) r3
          have x1 := cell_of_row w3 wv.heap.size 1 _ 31 (0, 0) r3
          have x2 := cell_of_row w3 wv.heap.size 2 _ 31 (0, 0) r3
          simp at x0 x1 x2
          replace t3 := Lib.hid t3
          replace o3 := Lib.hid o3
          replace r3 := Lib.hid r3
          clear g3
          go_wp2_with fail
          have KO := Lib.hid (fun W (hb : Below w3.heap.size w3 W) => (show W.cell? ⟨wv.heap.size, 0, none⟩ = some (.string tD) ∧ W.cell? ⟨wv.heap.size, 1, none⟩ = some (.bool false) ∧ W.cell? ⟨wv.heap.size, 2, none⟩ = some (.slice va L.length vc) ∧ Below w3.heap.size w3 W from by
            have r4 := ROW.out _ hb
            have y0 := cell_of_row W wv.heap.size 0 _ 31 (0, 0) r4
            have y1 := cell_of_row W wv.heap.size 1 _ 31 (0, 0) r4
            have y2 := cell_of_row W wv.heap.size 2 _ 31 (0, 0) r4
            exact ⟨by simpa using y0, by simpa using y1, by simpa using y2, hb⟩))
          go_region_held3 (fun W => W.cell? ⟨wv.heap.size, 0, none⟩ = some (.string tD) ∧ W.cell? ⟨wv.heap.size, 1, none⟩ = some (.bool false) ∧ W.cell? ⟨wv.heap.size, 2, none⟩ = some (.slice va L.length vc) ∧ Below w3.heap.size w3 W)
            (exact KO.out _ (by first | exact Below.refl _ _ | exact ext_drew _ | assumption))
            (first
              | (go_at_call 19; refine (VV.out _ (‹_ ∧ _ ∧ _ ∧ Below _ _ _›).2.2.2).mono ?_; rintro e w4 ⟨v4, rfl, o4, b4⟩; obtain ⟨va4, vc4, rfl⟩ := own_slice o4; have BB := ext_trans (‹_ ∧ _ ∧ _ ∧ Below _ _ _›).2.2.2 b4; have I4 := ItsAt.of_own o4 hlL; replace o4 := Lib.hid o4; replace b4 := Lib.hid b4)
              | (go_at_call 18; refine (same_eq _ _ _ _ L _ (by first | exact I4 | exact I4.keep (ext_drew _) (Nat.le_refl _)) (WAS.out _ (‹_ ∧ _ ∧ _ ∧ Below _ _ _›).2.2.2)).mono ?_; rintro e w6 ⟨rfl, b6⟩; have BB6 := ext_trans (‹_ ∧ _ ∧ _ ∧ Below _ _ _›).2.2.2 b6; clear b6))
          all_goals
            have b6 := Lib.hid (‹_ ∧ _ ∧ _ ∧ Below w3.heap.size w3 _›).2.2.2
            have B6 := Lib.hid (B3.out.trans (b6.out.mono B3.out.size))
            go_wp2_with fail
            go_roundw
            case rel => exact ⟨k + 1, b, d, false, v3, L, by simp, rfl, rfl, by omega, by omega, by omega, hdb, t3.out.keep b6.out, B6.out⟩
            case measure => simp [intOf]; omega
        · have TO := Lib.hid (told_any dW.out tD_ne (.slice none 0 0) [] (itsAt_nil W1))
          go_wp2_with fail
          refine TO.out.mono ?_
          rintro e w3 ⟨rfl, ⟨v3, t3⟩, g3⟩
          have B3 := Lib.hid (BW.out.grown g3 BW.out.size (fun j hj => by cases hj; exact Nat.le_refl _))
          clear g3
          replace t3 := Lib.hid t3
          go_wp2_with fail
          go_quiet (fail)
          go_wp2_with fail
          go_roundw
          case rel => exact ⟨k + 1, b, d, true, v3, [], by simp, rfl, rfl, by omega, by omega, by omega, hdb, t3.out.keep (below_drewN (Below.refl _ _) _), below_drewN B3.out _⟩
          case measure => simp [intOf]; omega
      · have d0 : (c % 3 == 0) = false := by rw [beq_eq_false_iff_ne]; omega
        have d1 : (c % 3 == 1) = false := by rw [beq_eq_false_iff_ne]; omega
        replace h3 := Lib.hid h3
        cases on
        · have TO := Lib.hid (dies_off dW.out tD_ne)
          go_wp2_with fail
          refine TO.out.mono ?_
          rintro e w3 ⟨rfl, ⟨v3, t3⟩, g3⟩
          have B3 := Lib.hid (BW.out.grown g3 BW.out.size (fun j hj => by cases hj; exact Nat.le_refl _))
          clear g3
          replace t3 := Lib.hid t3
          go_wp2_with fail
          go_roundw
          case rel => exact ⟨k + 1, b, d, false, v3, L, by simp, rfl, rfl, by omega, by omega, by omega, hdb, t3.out, B3.out⟩
          case measure => simp [intOf]; omega
        · have TO := Lib.hid (dies_on dW.out tD_ne)
          have hd1 : (d : Int) ≤ 1000 := by simp at hdb; omega
          go_wp2_with fail
          refine TO.out.mono ?_
          rintro e w3 ⟨rfl, ⟨v3, t3⟩, g3⟩
          have B3 := Lib.hid (BW.out.grown g3 BW.out.size (fun j hj => by cases hj; exact Nat.le_refl _))
          clear g3
          replace t3 := Lib.hid t3
          go_wp2_with fail
          go_roundw
          case rel => exact ⟨k + 1, b, d + 1, false, v3, L, by simp, rfl, by simp, by omega, by omega, by omega, by simp at hdb ⊢; omega, t3.out, B3.out⟩
          case measure => simp [intOf]; omega
    · have LI := Lib.hid (lives_any hdv tD_ne)
      have hdb' : (d : Int) ≤ b := by cases on <;> simp at hdb <;> omega
      replace hdv := Lib.hid hdv
      replace hbw := Lib.hid hbw
      have hend : ((k : Int) < len) = False ∨ (((k : Int) < len) = True ∧ ((k : Int) < 80) = False) := by
        by_cases h1 : k < len
        · right; exact ⟨by simp; omega, by simp; omega⟩
        · left; simp; omega
      rcases hend with h1 | ⟨h1, h2⟩
      · have h1' : (len : Int) ≤ k := by simp at h1; omega
        clear h1
        replace hlt := Lib.hid hlt
        go_wp2_with fail
        refine (LI.out).mono ?_
        rintro e w6 ⟨rfl, rfl⟩
        go_wp2_with fail
        refine (awake_any _).mono ?_
        rintro e w7 ⟨rfl, b7⟩
        go_wp2_with fail
        go_ret
        exact ⟨rfl, ext_trans hbw.out b7⟩
      · have h1' : (k : Int) < len := by simp at h1; omega
        have h2' : (80 : Int) ≤ k := by simp at h2; omega
        clear h1 h2
        replace hlt := Lib.hid hlt
        go_wp2_with fail
        refine (LI.out).mono ?_
        rintro e w6 ⟨rfl, rfl⟩
        go_wp2_with fail
        refine (awake_any _).mono ?_
        rintro e w7 ⟨rfl, b7⟩
        go_wp2_with fail
        go_ret
        exact ⟨rfl, ext_trans hbw.out b7⟩

set_option maxRecDepth 100000 in
theorem lifted (os : Os) (started : os.Started) (H : Type) (enc : TypeId × Value → H) :
    ReturnsInHanded {} Try.checked os 5 .any (Rows.deviceLivesSpec.pre6 enc Try.prog Try.f5 Rows.deviceLivesRow.domain false) (Rows.deviceLivesSpec.post enc Try.prog Try.f5 false true false false) := by
  refine returnsInHanded_of_change_sized (C := Try.checked) own started (by kernel_rfl) Try.func5
    (ChangeSpec.witness6 (enc := enc) (C := Try.checked) false ⟨#[], #[.slice none 0 0], []⟩ 8 (by kernel_rfl) (by kernel_rfl) (by kernel_rfl) (by kernel_rfl)) ?_
  intro W base args ds gs before hval0 hW hcnd hsz0 _
  have hsz : (DataW.weightsEach Try.prog (Try.f5.params.toList ++ Rows.deviceLivesSpec.plain.varTypes Try.prog) (ds ++ gs)).all (· ≤ reachBytes) = true := hsz0
  have hval : ∀ (j : Nat) t v, Try.f5.params[j]? = some t → args[j]? = some v → Value.okWide Try.prog W .any base t v := hval0
  have hW' := hW
  obtain ⟨p, q, hA0, hV, rfl, hfz, hnd⟩ := hW
  have hA : DataW.TrodAll enc Try.prog W 0 (fun _ => true) true Try.f5.params.toList args.toList ds p := hA0
  rw [Try.params5] at hA hval hsz
  obtain ⟨v0, vs0, d0, ds0, p0, q0, hargs, rfl, rfl, h0, r0⟩ := trodAll_cons hA
  obtain ⟨rfl, rfl, rfl⟩ := trodAll_nil r0
  obtain rfl : args = #[v0] := by cases args; simp_all
  obtain ⟨rfl, rfl⟩ := trodVars_none hV
  have k0 := h0
  have lt0 : ∀ x ∈ p0, x.block < W.heap.size := by obtain ⟨m, hm⟩ := k0; exact DataW.trod_lt m _ _ _ hm
  obtain ⟨a0, len0, cap0, rfl⟩ := okWide_slice Try.underlying51 (hval 0 51 v0 rfl rfl)
  obtain ⟨z0, w0, s0⟩ : ∃ zs, IsRow .u8 W a0 len0 cap0 zs ∧ cap0 * 1 ≤ 140737488351232 := by
    obtain ⟨fuel, hf⟩ := h0
    rcases open_ints Try.underlying51 Try.underlying5 (by kernel_rfl) hf with ⟨hcs, _⟩ | ⟨x, l, c, zs, hcs, _, hl, hm, hz, hx, hcell, hwz⟩
    · simp [Value.cells] at hcs
      obtain ⟨rfl, rfl, rfl⟩ := hcs
      exact ⟨[], .inl ⟨rfl, rfl, rfl, rfl⟩, by omega⟩
    · simp [Value.cells] at hcs
      obtain ⟨rfl, rfl, rfl⟩ := hcs
      have hz' : zs.length = cap0 := by simpa using hz
      have hd : d0 = .slice (lits .u8 (zs.take len0)) (lits .u8 (zs.drop len0)) := congrArg Prod.fst hx
      have hroom := sized_slice hsz (j := 0) (t := 51) (e := 5) rfl (by rw [hd]; rfl) Try.underlying51
      rw [show Try.prog.bytesOf 5 = 1 from by kernel_rfl] at hroom
      simp only [lits, List.length_map, List.length_take, List.length_drop, reachBytes] at hroom
      exact ⟨zs, .inr ⟨_, rfl, hl, hm, hz', hcell, hwz⟩, by omega⟩
  clear hA0 hval0 hsz0
  refine (walk a0 len0 cap0 z0 W w0 s0).mono fun e W' ⟨he, bel⟩ => ?_
  subst he
  exact ⟨_, rfl, _, _, _, [], _, [], hW', trodAll_mk1 (shut_bool Try.underlying4 _), (trodAll_cons_mk (Below.trod laidOut (by kernel_rfl) (of_decide_eq_true (by kernel_rfl)) k0 bel lt0) trodAll_mk0), rfl, bel.frame _, fun h => by cases h⟩

theorem over : Rows.deviceLivesRow.holds Try.pinned (OpenSpec.ofChange Rows.deviceLivesSpec) :=
  OpenClaim.holds_of_wide 5 Try.f5 rfl rfl rfl rfl rfl rfl rfl ⟨rfl, rfl, rfl, rfl, rfl⟩ rfl rfl rfl rfl rfl (by kernel_rfl) Try.func5 (by kernel_rfl)
    (of_decide_eq_true (by kernel_rfl)) (by unfold Func.isWrapper; first | (rw [if_pos (by decide +kernel)]; kernel_rfl) | (rw [if_neg (by decide +kernel)]; exact ⟨rfl, rfl⟩))
    (fun os started H enc _ => lifted os started H enc)

theorem proved : Rows.DeviceLivesSaid := over
end Go.Proofs.Ytdljddghbkcddaa.deviceLives
