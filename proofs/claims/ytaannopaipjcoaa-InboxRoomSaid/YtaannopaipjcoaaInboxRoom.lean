/-
  InboxRoom: FOR EVERY INPUT the law returns true and leaves its arguments as they were.
-/
import Derived.Test.YtaannopaipjcoaaIh
import Derived.Test.YtaannopaipjcoaaRows
import Derived.WalkKit
import Derived.ProofKit
import Derived.OpenShut
import Derived.ShutString
import Derived.ChangeOld
import Derived.Below
import Derived.SizedLaws
namespace Go.Proofs.Ytaannopaipjcoaa.inboxRoom
open Go.ChangeShapes Go.WideShapes Go.ChangeAt Go.RowKit
open Go.ChangeMaps (open_string shut_string)
set_option linter.unusedVariables false

theorem own : ownKnob Try.prog.godebug = none := by kernel_rfl
theorem laidOut : laidOutB Try.prog = true := by kernel_rfl

theorem come_end {B g n : Nat} {s : Int} {xs : List Int} (w : World) (hBg : B ≤ g) (h : Box w g xs n) (hx : xs.take n = rng s n) (hn : n < 16) (h0 : 1 ≤ s + n) (h1 : s + n ≤ 65535) :
    Calls Try.prog 30 #[.pointer (some ⟨g, 0, none⟩), .int .i64 (s + n)] w fun e w' => e = .returned (.tuple #[.bool true, .int .i64 0]) ∧ ∃ ys, Box w' g ys (n + 1) ∧ ys.take (n + 1) = rng s (n + 1) ∧ Below B w w' := by
  have hs : Sorted (xs.take n) := by rw [hx]; exact rng_sorted s n
  have hnot : (s + n) ∉ xs.take n := by rw [hx, rng_mem]; omega
  have hf : foundIn (s + n) (xs.take n) = false := by
    cases e : foundIn (s + n) (xs.take n) with
    | false => rfl
    | true => exact absurd ((foundIn_iff hs).1 e) hnot
  refine (come_new B g n xs (s + n) w hBg h hs hn h0 h1 hf).mono ?_
  rintro e w' ⟨he, A, M, R, htk, hA, hb, hbl⟩
  have hp := pos_of (s + n) _ hs
  rw [← hA, htk] at hp
  have hM : M = [] := pos_end hp (fun x hx' => by rw [← htk, hx, rng_mem] at hx'; omega)
  subst hM
  rw [List.append_nil] at htk
  refine ⟨he, _, hb, ?_, hbl⟩
  have hAl : A.length = n := by rw [← htk, hx, rng_length]
  rw [List.nil_append, ← rng_snoc, ← hx, htk, List.take_append, List.take_of_length_le (by omega), show n + 1 - A.length = 1 from by omega]
  simp
theorem come_begin {B g n : Nat} {s : Int} {xs : List Int} (w : World) (hBg : B ≤ g) (h : Box w g xs n) (hx : xs.take n = rng (s + 1) n) (hn : n < 16) (h0 : 1 ≤ s) (h1 : s ≤ 65535) :
    Calls Try.prog 30 #[.pointer (some ⟨g, 0, none⟩), .int .i64 s] w fun e w' => e = .returned (.tuple #[.bool true, .int .i64 0]) ∧ ∃ ys, Box w' g ys (n + 1) ∧ ys.take (n + 1) = rng s (n + 1) ∧ Below B w w' := by
  have hs : Sorted (xs.take n) := by rw [hx]; exact rng_sorted _ n
  have hnot : s ∉ xs.take n := by rw [hx, rng_mem]; omega
  have hf : foundIn s (xs.take n) = false := by
    cases e : foundIn s (xs.take n) with
    | false => rfl
    | true => exact absurd ((foundIn_iff hs).1 e) hnot
  refine (come_new B g n xs s w hBg h hs hn h0 h1 hf).mono ?_
  rintro e w' ⟨he, A, M, R, htk, hA, hb, hbl⟩
  have hp := pos_of s _ hs
  rw [← hA, htk] at hp
  have hA0 : A = [] := pos_start hp (fun x hx' => by rw [← htk, hx, rng_mem] at hx'; omega)
  subst hA0
  rw [List.nil_append] at htk
  refine ⟨he, _, hb, ?_, hbl⟩
  have hMl : M.length = n := by rw [← htk, hx, rng_length]
  rw [List.nil_append, List.take_succ_cons, List.take_append, List.take_of_length_le (by omega), show n - M.length = 0 from by omega, List.take_zero, List.append_nil, ← htk, hx]
  rfl

def RoomRel (B : Nat) (s : Nat → Int) (w : World) (i : Value) (wr : World) : Prop :=
  ∃ (k : Nat) (xs : List Int), k ≤ 16 ∧ i = .int .i64 k ∧ Box wr B xs k ∧ xs.take k = rng (s k) k ∧ Below B w wr

set_option maxHeartbeats 4000000 in
set_option maxRecDepth 100000 in
theorem main_false (f : Nat) (w : World) (hf2 : f ≤ 65535) : Calls Try.prog 9 #[.int .u16 f, .bool false] w (Yes w) := by
  have r0 : 0 ≤ (f : Int) % 60000 := by omega
  have r1 : (f : Int) % 60000 ≤ 59999 := by omega
  go_enter Try.func9, Try.ntmps9
  go_wp2_with fail
  refine (new24_any w).mono ?_
  rintro e w1 ⟨rfl, hb1, b1⟩
  have HB1 := Lib.hid hb1
  clear hb1
  go_wp2_with fail
  obtain ⟨b, hb⟩ : ∃ b : Int, b = 1 + (f : Int) % 60000 := ⟨_, rfl⟩
  have b0 : 1 ≤ b := by omega
  have b9 : b ≤ 60000 := by omega
  rw [← hb]
  clear hb r0 r1
  go_loopw [7] (fun i wr => RoomRel w.heap.size (fun k => b) w i wr) (fun i _ => 16 - (intOf i).toNat)
  case atStart => exact ⟨0, _, by omega, rfl, HB1.out, rfl, b1⟩
  case round =>
    obtain ⟨k, xs, hk, rfl, hbx, hxs, hnx⟩ := hrel
    have HBX := Lib.hid hbx
    have HXS := Lib.hid hxs
    have HNX := Lib.hid hnx
    clear hbx hxs hnx HB1 b1
    by_cases hlt : k < 16
    · go_wp2_with fail
      refine (come_end (s := b) wr (Nat.le_refl _) HBX.out HXS.out hlt (by omega) (by omega)).mono ?_
      rintro e w2 ⟨rfl, ys, hby, htk, hbl⟩
      go_wp2_with fail
      go_roundw
      case rel => exact ⟨k + 1, ys, by omega, by go_num, hby, by simpa using htk, HNX.out.trans hbl⟩
      case measure => simp [intOf]; omega
    · obtain rfl : k = 16 := by omega
      have hx16 : xs.take 16 = rng b 16 := by rw [HXS.out]
      have HX16 := Lib.hid hx16
      clear hx16 hlt
      have HALL := Lib.hid (all_any w.heap.size 16 xs wr HBX.out)
      go_wp2_with fail
      refine HALL.out.mono ?_
      rintro e w3 ⟨v, rfl, hown, hnn, hb3⟩
      rw [HX16.out, rng_length] at hown
      obtain ⟨gl, cap, hv, hgl, hls, hlc, hcell⟩ := own_at hown hnn
      rw [hv]
      have hcell' : ∀ i : Nat, i < 16 → w3.cell? ⟨gl, i, none⟩ = some (.int .i64 (b + i)) := fun i hi => by
        refine hcell i _ ?_
        have := rng_get b 16 i hi
        have hl := rng_length b 16
        rw [List.getD_eq_getElem?_getD, List.getElem?_eq_getElem (by omega)] at this
        simp only [Option.getD_some] at this
        simp [il, List.getElem?_eq_getElem (show i < (rng b 16).length by omega), this]
      have HB3 : Hid (Box w3 w.heap.size xs 16) := HBX.out.keep hb3 HBX.out.lt
      have HN3 : Hid (Below w.heap.size w w3) := HNX.out.trans (hb3.mono HNX.out.size)
      clear hown hnn hv hcell HALL hb3 HNX HBX HXS hgl hls
      go_wp2_with fail
      go_loop [12] (fun i => ∃ k : Nat, k ≤ 16 ∧ i = .int .i64 k) (fun i => 16 - (intOf i).toNat)
      case atStart => exact ⟨0, by omega, rfl⟩
      case round =>
        obtain ⟨q, hq, rfl⟩ := hrel
        by_cases hq16 : q < 16
        · have hc := hcell' q hq16
          have HC := Lib.hid hcell'
          clear hcell'
          go_wp2_with fail
          go_round
          case rel => exact ⟨q + 1, by omega, by go_num⟩
          case measure => simp [intOf]; omega
        · clear hcell'
          have hsr : Sorted (xs.take 16) := by rw [HX16.out]; exact rng_sorted b 16
          have hnf : foundIn (b + 100) (xs.take 16) = false := by
            cases e : foundIn (b + 100) (xs.take 16) with
            | false => rfl
            | true => have := (foundIn_iff hsr).1 e; rw [HX16.out, rng_mem] at this; omega
          have hyf : foundIn (b + 3) (xs.take 16) = true := by rw [foundIn_iff hsr, HX16.out, rng_mem]; omega
          have CF := Lib.hid (come_full w.heap.size xs (b + 100) w3 HB3.out hsr (by omega) (by omega) hnf)
          have HSR := Lib.hid hsr
          have HYF := Lib.hid hyf
          clear hsr hnf hyf
          go_wp2_with fail
          refine CF.out.mono ?_
          rintro e w4 ⟨kk, rfl, rfl⟩
          have CD := Lib.hid (done_yes w.heap.size w.heap.size 16 xs (b + 3) (w3.drewN kk) (Nat.le_refl _) (HB3.out.drewN kk) HSR.out HYF.out)
          go_wp2_with fail
          refine CD.out.mono ?_
          rintro e w5 ⟨rfl, A, M, R, z, htk, hb5, bl5⟩
          have hlen : (A ++ M).length = 15 := by
            have := congrArg List.length htk
            rw [HX16.out, rng_length] at this
            simp at this ⊢
            omega
          have hs5 : Sorted (A ++ M) := sorted_out (t := b + 3) (by rw [← htk]; exact HSR.out)
          have ht5 : (A ++ (M ++ z :: R)).take 15 = A ++ M := by rw [← List.append_assoc, List.take_append_of_le_length (by omega), List.take_of_length_le (by omega)]
          have hn5 : foundIn (b + 100) ((A ++ (M ++ z :: R)).take 15) = false := by
            rw [ht5]
            cases e : foundIn (b + 100) (A ++ M) with
            | false => rfl
            | true =>
              have h1 := (foundIn_iff hs5).1 e
              have h2 : b + 100 ∈ xs.take 16 := by rw [htk]; simp at h1 ⊢; rcases h1 with h | h <;> simp [h]
              rw [HX16.out, rng_mem] at h2
              omega
          have CN := Lib.hid (come_new w.heap.size w.heap.size 15 _ (b + 100) w5 (Nat.le_refl _) hb5 (by rw [ht5]; exact hs5) (by omega) (by omega) (by omega) hn5)
          have HN5 : Hid (Below w.heap.size w w5) := HN3.out.trans ((below_drewN (Below.refl _ _) kk).trans bl5)
          clear htk hb5 bl5 hlen hs5 ht5 hn5 CF CD HB3 HN3
          go_wp2_with fail
          refine CN.out.mono ?_
          rintro e w6 ⟨rfl, A2, M2, R2, _, _, hb6, bl6⟩
          have CC := Lib.hid (clear_any w.heap.size w.heap.size 16 _ w6 (Nat.le_refl _) hb6 (by omega))
          have HN6 : Hid (Below w.heap.size w w6) := HN5.out.trans bl6
          clear hb6 bl6
          go_wp2_with fail
          refine CC.out.mono ?_
          rintro e w7 ⟨rfl, hb7, bl7⟩
          have CL := Lib.hid (len_any w.heap.size 0 _ w7 hb7)
          have HN7 : Hid (Below w.heap.size w w7) := HN6.out.trans bl7
          clear hb7 bl7
          go_wp2_with fail
          refine CL.out.mono ?_
          rintro e w8 ⟨rfl, rfl⟩
          go_wp2_with fail
          refine (awake24_any _).mono ?_
          rintro e w9 ⟨rfl, hb9⟩
          go_wp2
          go_ret
          exact ⟨rfl, ext_trans HN7.out hb9⟩
set_option maxHeartbeats 4000000 in
set_option maxRecDepth 100000 in
theorem main_true (f : Nat) (w : World) (hf2 : f ≤ 65535) : Calls Try.prog 9 #[.int .u16 f, .bool true] w (Yes w) := by
  have r0 : 0 ≤ (f : Int) % 60000 := by omega
  have r1 : (f : Int) % 60000 ≤ 59999 := by omega
  go_enter Try.func9, Try.ntmps9
  go_wp2_with fail
  refine (new24_any w).mono ?_
  rintro e w1 ⟨rfl, hb1, b1⟩
  have HB1 := Lib.hid hb1
  clear hb1
  go_wp2_with fail
  obtain ⟨b, hb⟩ : ∃ b : Int, b = 1 + (f : Int) % 60000 := ⟨_, rfl⟩
  have b0 : 1 ≤ b := by omega
  have b9 : b ≤ 60000 := by omega
  rw [← hb]
  clear hb r0 r1
  go_loopw [7] (fun i wr => RoomRel w.heap.size (fun k => b + 16 - (k : Int)) w i wr) (fun i _ => 16 - (intOf i).toNat)
  case atStart => exact ⟨0, _, by omega, rfl, HB1.out, rfl, b1⟩
  case round =>
    obtain ⟨k, xs, hk, rfl, hbx, hxs, hnx⟩ := hrel
    have HBX := Lib.hid hbx
    have HXS := Lib.hid hxs
    have HNX := Lib.hid hnx
    clear hbx hxs hnx HB1 b1
    by_cases hlt : k < 16
    · go_wp2_with fail
      refine (come_begin (s := b + 16 - 1 - k) wr (Nat.le_refl _) HBX.out (by rw [HXS.out]; congr 1; omega) hlt (by omega) (by omega)).mono ?_
      rintro e w2 ⟨rfl, ys, hby, htk, hbl⟩
      go_wp2_with fail
      go_roundw
      case rel => exact ⟨k + 1, ys, by omega, by go_num, hby, by rw [htk]; congr 1; simp; omega, HNX.out.trans hbl⟩
      case measure => simp [intOf]; omega
    · obtain rfl : k = 16 := by omega
      have hx16 : xs.take 16 = rng b 16 := by rw [HXS.out]; congr 1; show b + 16 - ((16 : Nat) : Int) = b; omega
      have HX16 := Lib.hid hx16
      clear hx16 hlt
      have HALL := Lib.hid (all_any w.heap.size 16 xs wr HBX.out)
      go_wp2_with fail
      refine HALL.out.mono ?_
      rintro e w3 ⟨v, rfl, hown, hnn, hb3⟩
      rw [HX16.out, rng_length] at hown
      obtain ⟨gl, cap, hv, hgl, hls, hlc, hcell⟩ := own_at hown hnn
      rw [hv]
      have hcell' : ∀ i : Nat, i < 16 → w3.cell? ⟨gl, i, none⟩ = some (.int .i64 (b + i)) := fun i hi => by
        refine hcell i _ ?_
        have := rng_get b 16 i hi
        have hl := rng_length b 16
        rw [List.getD_eq_getElem?_getD, List.getElem?_eq_getElem (by omega)] at this
        simp only [Option.getD_some] at this
        simp [il, List.getElem?_eq_getElem (show i < (rng b 16).length by omega), this]
      have HB3 : Hid (Box w3 w.heap.size xs 16) := HBX.out.keep hb3 HBX.out.lt
      have HN3 : Hid (Below w.heap.size w w3) := HNX.out.trans (hb3.mono HNX.out.size)
      clear hown hnn hv hcell HALL hb3 HNX HBX HXS hgl hls
      go_wp2_with fail
      go_loop [12] (fun i => ∃ k : Nat, k ≤ 16 ∧ i = .int .i64 k) (fun i => 16 - (intOf i).toNat)
      case atStart => exact ⟨0, by omega, rfl⟩
      case round =>
        obtain ⟨q, hq, rfl⟩ := hrel
        by_cases hq16 : q < 16
        · have hc := hcell' q hq16
          have HC := Lib.hid hcell'
          clear hcell'
          go_wp2_with fail
          go_round
          case rel => exact ⟨q + 1, by omega, by go_num⟩
          case measure => simp [intOf]; omega
        · clear hcell'
          have hsr : Sorted (xs.take 16) := by rw [HX16.out]; exact rng_sorted b 16
          have hnf : foundIn (b + 100) (xs.take 16) = false := by
            cases e : foundIn (b + 100) (xs.take 16) with
            | false => rfl
            | true => have := (foundIn_iff hsr).1 e; rw [HX16.out, rng_mem] at this; omega
          have hyf : foundIn (b + 3) (xs.take 16) = true := by rw [foundIn_iff hsr, HX16.out, rng_mem]; omega
          have CF := Lib.hid (come_full w.heap.size xs (b + 100) w3 HB3.out hsr (by omega) (by omega) hnf)
          have HSR := Lib.hid hsr
          have HYF := Lib.hid hyf
          clear hsr hnf hyf
          go_wp2_with fail
          refine CF.out.mono ?_
          rintro e w4 ⟨kk, rfl, rfl⟩
          have CD := Lib.hid (done_yes w.heap.size w.heap.size 16 xs (b + 3) (w3.drewN kk) (Nat.le_refl _) (HB3.out.drewN kk) HSR.out HYF.out)
          go_wp2_with fail
          refine CD.out.mono ?_
          rintro e w5 ⟨rfl, A, M, R, z, htk, hb5, bl5⟩
          have hlen : (A ++ M).length = 15 := by
            have := congrArg List.length htk
            rw [HX16.out, rng_length] at this
            simp at this ⊢
            omega
          have hs5 : Sorted (A ++ M) := sorted_out (t := b + 3) (by rw [← htk]; exact HSR.out)
          have ht5 : (A ++ (M ++ z :: R)).take 15 = A ++ M := by rw [← List.append_assoc, List.take_append_of_le_length (by omega), List.take_of_length_le (by omega)]
          have hn5 : foundIn (b + 100) ((A ++ (M ++ z :: R)).take 15) = false := by
            rw [ht5]
            cases e : foundIn (b + 100) (A ++ M) with
            | false => rfl
            | true =>
              have h1 := (foundIn_iff hs5).1 e
              have h2 : b + 100 ∈ xs.take 16 := by rw [htk]; simp at h1 ⊢; rcases h1 with h | h <;> simp [h]
              rw [HX16.out, rng_mem] at h2
              omega
          have CN := Lib.hid (come_new w.heap.size w.heap.size 15 _ (b + 100) w5 (Nat.le_refl _) hb5 (by rw [ht5]; exact hs5) (by omega) (by omega) (by omega) hn5)
          have HN5 : Hid (Below w.heap.size w w5) := HN3.out.trans ((below_drewN (Below.refl _ _) kk).trans bl5)
          clear htk hb5 bl5 hlen hs5 ht5 hn5 CF CD HB3 HN3
          go_wp2_with fail
          refine CN.out.mono ?_
          rintro e w6 ⟨rfl, A2, M2, R2, _, _, hb6, bl6⟩
          have CC := Lib.hid (clear_any w.heap.size w.heap.size 16 _ w6 (Nat.le_refl _) hb6 (by omega))
          have HN6 : Hid (Below w.heap.size w w6) := HN5.out.trans bl6
          clear hb6 bl6
          go_wp2_with fail
          refine CC.out.mono ?_
          rintro e w7 ⟨rfl, hb7, bl7⟩
          have CL := Lib.hid (len_any w.heap.size 0 _ w7 hb7)
          have HN7 : Hid (Below w.heap.size w w7) := HN6.out.trans bl7
          clear hb7 bl7
          go_wp2_with fail
          refine CL.out.mono ?_
          rintro e w8 ⟨rfl, rfl⟩
          go_wp2_with fail
          refine (awake24_any _).mono ?_
          rintro e w9 ⟨rfl, hb9⟩
          go_wp2
          go_ret
          exact ⟨rfl, ext_trans HN7.out hb9⟩
theorem walk (f : Int) (turned : Bool) (w : World) (b0 : 0 ≤ f ∧ f ≤ 65535) : Calls Try.prog 9 #[.int .u16 f, .bool turned] w (Yes w) := by
  obtain ⟨k, rfl⟩ := Int.eq_ofNat_of_zero_le b0.1
  cases turned with
  | false => exact main_false k w (by omega)
  | true => exact main_true k w (by omega)

set_option maxRecDepth 100000 in
theorem lifted (os : Os) (started : os.Started) (H : Type) (enc : TypeId × Value → H) :
    ReturnsInHanded {} Try.checked os 9 .any (Rows.inboxRoomSpec.pre6 enc Try.prog Try.f9 Rows.inboxRoomRow.domain false) (Rows.inboxRoomSpec.post enc Try.prog Try.f9 false true false false) := by
  refine returnsInHanded_of_change_sized (C := Try.checked) own started (by kernel_rfl) Try.func9
    (ChangeSpec.witness6 (enc := enc) (C := Try.checked) false ⟨#[], #[.int .u16 0, .bool false], []⟩ 8 (by kernel_rfl) (by kernel_rfl) (by kernel_rfl) (by kernel_rfl)) ?_
  intro W base args ds gs before hval0 hW hcnd hsz0 _
  have hsz : (DataW.weightsEach Try.prog (Try.f9.params.toList ++ Rows.inboxRoomSpec.plain.varTypes Try.prog) (ds ++ gs)).all (· ≤ reachBytes) = true := hsz0
  have hval : ∀ (j : Nat) t v, Try.f9.params[j]? = some t → args[j]? = some v → Value.okWide Try.prog W .any base t v := hval0
  have hW' := hW
  obtain ⟨p, q, hA0, hV, rfl, hfz, hnd⟩ := hW
  have hA : DataW.TrodAll enc Try.prog W 0 (fun _ => true) true Try.f9.params.toList args.toList ds p := hA0
  rw [Try.params9] at hA hval hsz
  obtain ⟨v0, vs0, d0, ds0, p0, q0, hargs, rfl, rfl, h0, r0⟩ := trodAll_cons hA
  obtain ⟨v1, vs1, d1, ds1, p1, q1, rfl, rfl, rfl, h1, r1⟩ := trodAll_cons r0
  obtain ⟨rfl, rfl, rfl⟩ := trodAll_nil r1
  obtain rfl : args = #[v0, v1] := by cases args; simp_all
  obtain ⟨rfl, rfl⟩ := trodVars_none hV
  have k0 := h0
  have lt0 : ∀ x ∈ p0, x.block < W.heap.size := by obtain ⟨m, hm⟩ := k0; exact DataW.trod_lt m _ _ _ hm
  have k1 := h1
  have lt1 : ∀ x ∈ p1, x.block < W.heap.size := by obtain ⟨m, hm⟩ := k1; exact DataW.trod_lt m _ _ _ hm
  obtain ⟨a0, rfl, rfl, rfl, w0⟩ := open_int Try.underlying57 (hval 0 57 v0 rfl rfl) h0
  have b0 := wf_u16 w0
  obtain ⟨a1, rfl, rfl, rfl⟩ := open_bool Try.underlying4 (hval 1 4 v1 rfl rfl) h1
  clear hA0 hval0 hsz0
  refine (walk a0 a1 W b0).mono fun e W' ⟨he, bel⟩ => ?_
  subst he
  exact ⟨_, rfl, _, _, _, [], _, [], hW', trodAll_mk1 (shut_bool Try.underlying4 _), (trodAll_cons_mk (Below.trod laidOut (by kernel_rfl) (of_decide_eq_true (by kernel_rfl)) k0 bel lt0) (trodAll_cons_mk (Below.trod laidOut (by kernel_rfl) (of_decide_eq_true (by kernel_rfl)) k1 bel lt1) trodAll_mk0)), rfl, bel.frame _, fun h => by cases h⟩

theorem over : Rows.inboxRoomRow.holds Try.pinned (OpenSpec.ofChange Rows.inboxRoomSpec) :=
  OpenClaim.holds_of_wide 9 Try.f9 rfl rfl rfl rfl rfl rfl rfl ⟨rfl, rfl, rfl, rfl, rfl⟩ rfl rfl rfl rfl rfl (by kernel_rfl) Try.func9 (by kernel_rfl)
    (of_decide_eq_true (by kernel_rfl)) (by unfold Func.isWrapper; first | (rw [if_pos (by decide +kernel)]; kernel_rfl) | (rw [if_neg (by decide +kernel)]; exact ⟨rfl, rfl⟩))
    (fun os started H enc _ => lifted os started H enc)

theorem proved : Rows.InboxRoomSaid := over
end Go.Proofs.Ytaannopaipjcoaa.inboxRoom
