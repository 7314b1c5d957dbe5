/-
  HostRoom: FOR EVERY INPUT the law returns true and leaves its arguments as they were.
-/
import Derived.Test.YtaannopaipjcoabHe
import Derived.Test.YtaannopaipjcoabRows
import Derived.WalkKit
import Derived.ProofKit
import Derived.OpenShut
import Derived.ShutString
import Derived.ChangeOld
import Derived.Below
import Derived.SizedLaws
namespace Go.Proofs.Ytaannopaipjcoab.hostRoom
open Go.ChangeShapes Go.WideShapes Go.ChangeAt Go.RowKit
open Go.ChangeMaps (open_string shut_string)
set_option linter.unusedVariables false

theorem own : ownKnob Try.prog.godebug = none := by kernel_rfl
theorem laidOut : laidOutB Try.prog = true := by kernel_rfl

set_option maxHeartbeats 2000000 in
set_option maxRecDepth 100000 in
theorem walk (more : ByteArray) (k : Int) (up : Bool) (w : World) (s0 : more.size ≤ 140737488351232) (b1 : 0 ≤ k ∧ k ≤ 255) : Calls Try.prog 9 #[.string more, .int .u8 k, .bool up] w (Yes w) := by
  obtain ⟨r, hr⟩ : ∃ r : Nat, r = (k % 4).toNat := ⟨_, rfl⟩
  have hr4 : r < 4 := by omega
  have cvr := fun W => conv_lit W (48 + r) (48 + k % 4) (by omega)
  have HR := Lib.hid hr
  clear hr
  have cv0 := fun W => conv_lit W 48 48 rfl
  have cv1 := fun W => conv_lit W 49 49 rfl
  have cv2 := fun W => conv_lit W 50 50 rfl
  have cv3 := fun W => conv_lit W 51 51 rfl
  cases up
  · go_enter Try.func9, Try.ntmps9
    go_wp2_with fail
    refine (new_any w).mono ?_
    rintro e w0 ⟨rfl, hh, hb⟩
    have hsz := hb.size
    have HB0 := Lib.hid hb
    have H0' := Lib.hid (hh.keep (ext_alloc w0 (.cells #[.int .u8 104, .int .u8 48] 5)))
    have hm0 : w.heap.size + 1 < w0.heap.size := hh.lt
    clear hh hb
    go_wp2_with fail
    refine wp_loop_rounds 5 ?_
    rw [rounds_succ]
    go_wp2_with fail
    refine (take_new w.heap.size (w.heap.size + 1) w.heap.size 0 _ _ (hN 48) false _ H0'.out (by omega) (Nat.le_refl _) (by decide +kernel) (by decide +kernel) (by decide) (by decide +kernel)).mono ?_
    rintro e w1 ⟨rfl, hh, hb⟩
    have HB1 := Lib.hid (HB0.out.trans ((ext_alloc w0 (.cells #[.int .u8 104, .int .u8 48] 5)).mono (Below.size HB0.out) |>.trans hb))
    have H1 := Lib.hid hh
    have H1' := Lib.hid (hh.keep (ext_alloc w1 (.cells #[.int .u8 104, .int .u8 49] 5)))
    have hm1 : w.heap.size + 1 < w1.heap.size := hh.lt
    clear hh hb H0'
    go_wp2_with fail
    rw [rounds_succ]
    go_wp2_with fail
    refine (take_new w.heap.size (w.heap.size + 1) w.heap.size 1 _ _ (hN 49) false _ H1'.out (by omega) (Nat.le_refl _) (by decide +kernel) (by decide +kernel) (by decide) (by decide +kernel)).mono ?_
    rintro e w2 ⟨rfl, hh, hb⟩
    have HB2 := Lib.hid (HB1.out.trans ((ext_alloc w1 (.cells #[.int .u8 104, .int .u8 49] 5)).mono (Below.size HB1.out) |>.trans hb))
    have H2 := Lib.hid hh
    have H2' := Lib.hid (hh.keep (ext_alloc w2 (.cells #[.int .u8 104, .int .u8 50] 5)))
    have hm2 : w.heap.size + 1 < w2.heap.size := hh.lt
    clear hh hb H1'
    go_wp2_with fail
    rw [rounds_succ]
    go_wp2_with fail
    refine (take_new w.heap.size (w.heap.size + 1) w.heap.size 2 _ _ (hN 50) false _ H2'.out (by omega) (Nat.le_refl _) (by decide +kernel) (by decide +kernel) (by decide) (by decide +kernel)).mono ?_
    rintro e w3 ⟨rfl, hh, hb⟩
    have HB3 := Lib.hid (HB2.out.trans ((ext_alloc w2 (.cells #[.int .u8 104, .int .u8 50] 5)).mono (Below.size HB2.out) |>.trans hb))
    have H3 := Lib.hid hh
    have H3' := Lib.hid (hh.keep (ext_alloc w3 (.cells #[.int .u8 104, .int .u8 51] 5)))
    have hm3 : w.heap.size + 1 < w3.heap.size := hh.lt
    clear hh hb H2'
    go_wp2_with fail
    rw [rounds_succ]
    go_wp2_with fail
    refine (take_new w.heap.size (w.heap.size + 1) w.heap.size 3 _ _ (hN 51) false _ H3'.out (by omega) (Nat.le_refl _) (by decide +kernel) (by decide +kernel) (by decide) (by decide +kernel)).mono ?_
    rintro e w4 ⟨rfl, hh, hb⟩
    have HB4 := Lib.hid (HB3.out.trans ((ext_alloc w3 (.cells #[.int .u8 104, .int .u8 51] 5)).mono (Below.size HB3.out) |>.trans hb))
    have H4 := Lib.hid hh
    have hm4 : w.heap.size + 1 < w4.heap.size := hh.lt
    clear hh hb H3'
    go_wp2_with fail
    rw [rounds_succ]
    clear cv0 cv1 cv2 cv3
    have H4x : Hid (Hs w4 (w.heap.size + 1) w.heap.size 4 kn4 _) := Lib.hid H4.out
    have H4' := Lib.hid (H4x.out.keep (ext_alloc w4 (.cells #[.int .u8 104, .int .u8 (48 + k % 4)] 5)))
    clear H4x
    go_wp2_with fail
    refine (take_full (w.heap.size + 1) w.heap.size _ _ (xS more) false _ H4'.out (xS_ne more) (xS_size more s0) (idx_x more _ kn4_all)).mono ?_
    rintro e w' ⟨rfl, rfl⟩
    go_wp2_with fail
    refine (take_known w.heap.size (w.heap.size + 1) w.heap.size 4 r _ _ (hN (48 + r)) false _ H4'.out (by omega) (hN_ne _) (hN_size _) (idx_r r hr4)).mono ?_
    rintro e w5 ⟨rfl, hh, hb⟩
    have HB5 := Lib.hid (HB4.out.trans ((ext_alloc w4 (.cells #[.int .u8 104, .int .u8 (48 + k % 4)] 5)).mono (Below.size HB4.out) |>.trans hb))
    have H5 := Lib.hid hh
    clear hh hb H4'
    go_wp2_with fail
    refine (take_text (w.heap.size + 1) w.heap.size 4 _ _ (hN (48 + r)) _ _ H5.out (hN_ne _) (bad_q more)).mono ?_
    rintro e w' ⟨rfl, rfl⟩
    go_wp2_with fail
    refine (take_name (w.heap.size + 1) w.heap.size 4 _ _ _ _ H5.out).mono ?_
    rintro e w' ⟨rfl, rfl⟩
    go_wp2_with fail
    refine (online_known (w.heap.size + 1) w.heap.size 4 r _ _ (hN (48 + r)) false _ H5.out (hN_size _) (idx_r2 r hr4 _) (get_r r hr4 _)).mono ?_
    rintro e w' ⟨rfl, rfl⟩
    go_wp2_with fail
    refine (online_none (w.heap.size + 1) w.heap.size 4 _ _ (xS more) _ H5.out (xS_size more s0) (idx_x more _ (kn4_names r hr4 _))).mono ?_
    rintro e w' ⟨rfl, rfl⟩
    go_wp2_with fail
    refine (len_any (w.heap.size + 1) w.heap.size 4 _ _ _ H5.out).mono ?_
    rintro e w' ⟨rfl, rfl⟩
    go_wp2_with fail
    refine (awake34_any _).mono ?_
    rintro e w' ⟨rfl, hba⟩
    go_wp2
    go_ret
    exact ⟨rfl, ext_trans HB5.out hba⟩

  · go_enter Try.func9, Try.ntmps9
    go_wp2_with fail
    refine (new_any w).mono ?_
    rintro e w0 ⟨rfl, hh, hb⟩
    have hsz := hb.size
    have HB0 := Lib.hid hb
    have H0' := Lib.hid (hh.keep (ext_alloc w0 (.cells #[.int .u8 104, .int .u8 48] 5)))
    have hm0 : w.heap.size + 1 < w0.heap.size := hh.lt
    clear hh hb
    go_wp2_with fail
    refine wp_loop_rounds 5 ?_
    rw [rounds_succ]
    go_wp2_with fail
    refine (take_new w.heap.size (w.heap.size + 1) w.heap.size 0 _ _ (hN 48) false _ H0'.out (by omega) (Nat.le_refl _) (by decide +kernel) (by decide +kernel) (by decide) (by decide +kernel)).mono ?_
    rintro e w1 ⟨rfl, hh, hb⟩
    have HB1 := Lib.hid (HB0.out.trans ((ext_alloc w0 (.cells #[.int .u8 104, .int .u8 48] 5)).mono (Below.size HB0.out) |>.trans hb))
    have H1 := Lib.hid hh
    have H1' := Lib.hid (hh.keep (ext_alloc w1 (.cells #[.int .u8 104, .int .u8 49] 5)))
    have hm1 : w.heap.size + 1 < w1.heap.size := hh.lt
    clear hh hb H0'
    go_wp2_with fail
    rw [rounds_succ]
    go_wp2_with fail
    refine (take_new w.heap.size (w.heap.size + 1) w.heap.size 1 _ _ (hN 49) false _ H1'.out (by omega) (Nat.le_refl _) (by decide +kernel) (by decide +kernel) (by decide) (by decide +kernel)).mono ?_
    rintro e w2 ⟨rfl, hh, hb⟩
    have HB2 := Lib.hid (HB1.out.trans ((ext_alloc w1 (.cells #[.int .u8 104, .int .u8 49] 5)).mono (Below.size HB1.out) |>.trans hb))
    have H2 := Lib.hid hh
    have H2' := Lib.hid (hh.keep (ext_alloc w2 (.cells #[.int .u8 104, .int .u8 50] 5)))
    have hm2 : w.heap.size + 1 < w2.heap.size := hh.lt
    clear hh hb H1'
    go_wp2_with fail
    rw [rounds_succ]
    go_wp2_with fail
    refine (take_new w.heap.size (w.heap.size + 1) w.heap.size 2 _ _ (hN 50) false _ H2'.out (by omega) (Nat.le_refl _) (by decide +kernel) (by decide +kernel) (by decide) (by decide +kernel)).mono ?_
    rintro e w3 ⟨rfl, hh, hb⟩
    have HB3 := Lib.hid (HB2.out.trans ((ext_alloc w2 (.cells #[.int .u8 104, .int .u8 50] 5)).mono (Below.size HB2.out) |>.trans hb))
    have H3 := Lib.hid hh
    have H3' := Lib.hid (hh.keep (ext_alloc w3 (.cells #[.int .u8 104, .int .u8 51] 5)))
    have hm3 : w.heap.size + 1 < w3.heap.size := hh.lt
    clear hh hb H2'
    go_wp2_with fail
    rw [rounds_succ]
    go_wp2_with fail
    refine (take_new w.heap.size (w.heap.size + 1) w.heap.size 3 _ _ (hN 51) false _ H3'.out (by omega) (Nat.le_refl _) (by decide +kernel) (by decide +kernel) (by decide) (by decide +kernel)).mono ?_
    rintro e w4 ⟨rfl, hh, hb⟩
    have HB4 := Lib.hid (HB3.out.trans ((ext_alloc w3 (.cells #[.int .u8 104, .int .u8 51] 5)).mono (Below.size HB3.out) |>.trans hb))
    have H4 := Lib.hid hh
    have hm4 : w.heap.size + 1 < w4.heap.size := hh.lt
    clear hh hb H3'
    go_wp2_with fail
    rw [rounds_succ]
    clear cv0 cv1 cv2 cv3
    have H4x : Hid (Hs w4 (w.heap.size + 1) w.heap.size 4 kn4 _) := Lib.hid H4.out
    have H4' := Lib.hid (H4x.out.keep (ext_alloc w4 (.cells #[.int .u8 104, .int .u8 (48 + k % 4)] 5)))
    clear H4x
    go_wp2_with fail
    refine (take_full (w.heap.size + 1) w.heap.size _ _ (xS more) true _ H4'.out (xS_ne more) (xS_size more s0) (idx_x more _ kn4_all)).mono ?_
    rintro e w' ⟨rfl, rfl⟩
    go_wp2_with fail
    refine (take_known w.heap.size (w.heap.size + 1) w.heap.size 4 r _ _ (hN (48 + r)) true _ H4'.out (by omega) (hN_ne _) (hN_size _) (idx_r r hr4)).mono ?_
    rintro e w5 ⟨rfl, hh, hb⟩
    have HB5 := Lib.hid (HB4.out.trans ((ext_alloc w4 (.cells #[.int .u8 104, .int .u8 (48 + k % 4)] 5)).mono (Below.size HB4.out) |>.trans hb))
    have H5 := Lib.hid hh
    clear hh hb H4'
    go_wp2_with fail
    refine (take_text (w.heap.size + 1) w.heap.size 4 _ _ (hN (48 + r)) _ _ H5.out (hN_ne _) (bad_q more)).mono ?_
    rintro e w' ⟨rfl, rfl⟩
    go_wp2_with fail
    refine (take_name (w.heap.size + 1) w.heap.size 4 _ _ _ _ H5.out).mono ?_
    rintro e w' ⟨rfl, rfl⟩
    go_wp2_with fail
    refine (online_known (w.heap.size + 1) w.heap.size 4 r _ _ (hN (48 + r)) true _ H5.out (hN_size _) (idx_r2 r hr4 _) (get_r r hr4 _)).mono ?_
    rintro e w' ⟨rfl, rfl⟩
    go_wp2_with fail
    refine (online_none (w.heap.size + 1) w.heap.size 4 _ _ (xS more) _ H5.out (xS_size more s0) (idx_x more _ (kn4_names r hr4 _))).mono ?_
    rintro e w' ⟨rfl, rfl⟩
    go_wp2_with fail
    refine (len_any (w.heap.size + 1) w.heap.size 4 _ _ _ H5.out).mono ?_
    rintro e w' ⟨rfl, rfl⟩
    go_wp2_with fail
    refine (awake34_any _).mono ?_
    rintro e w' ⟨rfl, hba⟩
    go_wp2
    go_ret
    exact ⟨rfl, ext_trans HB5.out hba⟩

set_option maxRecDepth 100000 in
theorem lifted (os : Os) (started : os.Started) (H : Type) (enc : TypeId × Value → H) :
    ReturnsInHanded {} Try.checked os 9 .any (Rows.hostRoomSpec.pre6 enc Try.prog Try.f9 Rows.hostRoomRow.domain false) (Rows.hostRoomSpec.post enc Try.prog Try.f9 false true false false) := by
  refine returnsInHanded_of_change_sized (C := Try.checked) own started (by kernel_rfl) Try.func9
    (ChangeSpec.witness6 (enc := enc) (C := Try.checked) false ⟨#[], #[.string ByteArray.empty, .int .u8 0, .bool false], []⟩ 8 (by kernel_rfl) (by kernel_rfl) (by kernel_rfl) (by kernel_rfl)) ?_
  intro W base args ds gs before hval0 hW hcnd hsz0 _
  have hsz : (DataW.weightsEach Try.prog (Try.f9.params.toList ++ Rows.hostRoomSpec.plain.varTypes Try.prog) (ds ++ gs)).all (· ≤ reachBytes) = true := hsz0
  have hval : ∀ (j : Nat) t v, Try.f9.params[j]? = some t → args[j]? = some v → Value.okWide Try.prog W .any base t v := hval0
  have hW' := hW
  obtain ⟨p, q, hA0, hV, rfl, hfz, hnd⟩ := hW
  have hA : DataW.TrodAll enc Try.prog W 0 (fun _ => true) true Try.f9.params.toList args.toList ds p := hA0
  rw [Try.params9] at hA hval hsz
  obtain ⟨v0, vs0, d0, ds0, p0, q0, hargs, rfl, rfl, h0, r0⟩ := trodAll_cons hA
  obtain ⟨v1, vs1, d1, ds1, p1, q1, rfl, rfl, rfl, h1, r1⟩ := trodAll_cons r0
  obtain ⟨v2, vs2, d2, ds2, p2, q2, rfl, rfl, rfl, h2, r2⟩ := trodAll_cons r1
  obtain ⟨rfl, rfl, rfl⟩ := trodAll_nil r2
  obtain rfl : args = #[v0, v1, v2] := by cases args; simp_all
  obtain ⟨rfl, rfl⟩ := trodVars_none hV
  have k0 := h0
  have lt0 : ∀ x ∈ p0, x.block < W.heap.size := by obtain ⟨m, hm⟩ := k0; exact DataW.trod_lt m _ _ _ hm
  have k1 := h1
  have lt1 : ∀ x ∈ p1, x.block < W.heap.size := by obtain ⟨m, hm⟩ := k1; exact DataW.trod_lt m _ _ _ hm
  have k2 := h2
  have lt2 : ∀ x ∈ p2, x.block < W.heap.size := by obtain ⟨m, hm⟩ := k2; exact DataW.trod_lt m _ _ _ hm
  obtain ⟨a0, rfl, rfl, rfl, w0⟩ := open_string Try.underlying9 (hval 0 9 v0 rfl rfl) h0
  have s0 : a0.size ≤ 140737488351232 := by
    have := sized_string hsz (j := 0) (t := 9) rfl rfl
    simp only [Array.length_toList, reachBytes] at this
    exact this
  obtain ⟨a1, rfl, rfl, rfl, w1⟩ := open_int Try.underlying5 (hval 1 5 v1 rfl rfl) h1
  have b1 := wf_u8 w1
  obtain ⟨a2, rfl, rfl, rfl⟩ := open_bool Try.underlying4 (hval 2 4 v2 rfl rfl) h2
  clear hA0 hval0 hsz0
  refine (walk a0 a1 a2 W s0 b1).mono fun e W' ⟨he, bel⟩ => ?_
  subst he
  exact ⟨_, rfl, _, _, _, [], _, [], hW', trodAll_mk1 (shut_bool Try.underlying4 _), (trodAll_cons_mk (Below.trod laidOut (by kernel_rfl) (of_decide_eq_true (by kernel_rfl)) k0 bel lt0) (trodAll_cons_mk (Below.trod laidOut (by kernel_rfl) (of_decide_eq_true (by kernel_rfl)) k1 bel lt1) (trodAll_cons_mk (Below.trod laidOut (by kernel_rfl) (of_decide_eq_true (by kernel_rfl)) k2 bel lt2) trodAll_mk0))), rfl, bel.frame _, fun h => by cases h⟩

theorem over : Rows.hostRoomRow.holds Try.pinned (OpenSpec.ofChange Rows.hostRoomSpec) :=
  OpenClaim.holds_of_wide 9 Try.f9 rfl rfl rfl rfl rfl rfl rfl ⟨rfl, rfl, rfl, rfl, rfl⟩ rfl rfl rfl rfl rfl (by kernel_rfl) Try.func9 (by kernel_rfl)
    (of_decide_eq_true (by kernel_rfl)) (by unfold Func.isWrapper; first | (rw [if_pos (by decide +kernel)]; kernel_rfl) | (rw [if_neg (by decide +kernel)]; exact ⟨rfl, rfl⟩))
    (fun os started H enc _ => lifted os started H enc)

theorem proved : Rows.HostRoomSaid := over
end Go.Proofs.Ytaannopaipjcoab.hostRoom
