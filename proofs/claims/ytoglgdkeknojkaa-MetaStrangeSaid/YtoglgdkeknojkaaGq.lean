/-
  LAYER 1: the document's Put and Get on any bytes.
-/
import Derived.Test.YtoglgdkeknojkaaGp
namespace Go.Proofs.Ytoglgdkeknojkaa
open Go.RowKit

def RPutRel (B n : Nat) (w : World) (nv bv : Value) (wr : World) : Prop :=
  ∃ (m : Nat) (xs : List Nat), nv = .int .u64 m ∧ m ≤ 18446744073709551615 ∧ xs.length ≤ 9 ∧ m < 128 ^ (10 - xs.length) ∧ xs ++ putL (9 - xs.length) m = putL 9 n ∧ wr.ownsRow B 5 1 bv xs.length (bl xs) ∧ Below B w wr
set_option maxHeartbeats 400000 in
set_option maxRecDepth 100000 in
theorem rput_any (n : Nat) (w : World) (h1 : n ≤ 18446744073709551615) :
    Calls Try.prog 42 #[.int .u64 n] w (PutPost w.heap.size n w) := by
  obtain ⟨i0, hi, hz0, hz1, hz2⟩ := info_parts Try.info5
  have HPW : Hid (n < 128 ^ 10) := by show n < 128 ^ 10; omega
  go_enter Try.func42, Try.ntmps42
  go_wp2
  go_loopw [4, 3] (fun nv bv wr => RPutRel w.heap.size n w nv bv wr)
    (fun nv _ _ => (intOf nv).toNat)
  case atStart => exact ⟨n, [], rfl, h1, by simp, HPW.out, rfl, World.ownsRow_nil _ _ _ _, Below.refl _ _⟩
  case round =>
    obtain ⟨m, xs, rfl, hm, hx, hM, hX, hown, hnx⟩ := hrel
    have HM := Lib.hid hM
    have HX := Lib.hid hX
    clear hM hX
    have hsize := hnx.size
    by_cases hlt : 128 ≤ m
    · have hx8 : xs.length ≤ 8 := by
        by_cases h9 : xs.length = 9
        · have := HM.out; rw [h9] at this; omega
        · omega
      have kq : IntKind.u64.wrap ((m : Int) / 128) = (m : Int) / 128 := by rw [IntKind.wrap_u64]; omega
      have Hm := Lib.hid hm
      have H1 := Lib.hid h1
      clear hm h1
      go_wp2_with (first
        | (at_builtin; go_must (refine wpList_append_own _ rfl (.tmp 8) (.tmp 13) 25 rfl w.heap.size 5 i0 (.int .u8 0) 1 1 Try.underlying25 hi hz0 hz1 hz2 rfl (by decide) _ _ _ rfl (hown.alloc _) ⟨wr.heap.size, 0, none⟩ 1 1 [.int .u8 ((m : Int) % 128 + 128)] rfl rfl (cell_one_new _ _ _) (by intro u hu; simp at hu; subst hu; rfl) (by unfold maxLen; omega) (by omega) (by simp; omega) ?_); intro v1 w1 hown1 hgrow1 hnil1))
      go_roundw
      case rel =>
        obtain ⟨p1, p2⟩ := put_more hx8 hlt HM.out HX.out
        refine ⟨m / 128, xs ++ [m % 128 + 128], by simp, by have := Hm.out; omega, by simp; omega, p1, p2, ?_, (hnx.alloc (by omega) _).grown hgrow1 (by simp; omega) (fun k hk => (hown.lt k hk).1)⟩
        rw [bl_snoc, List.length_append, List.length_singleton, show ((m % 128 + 128 : Nat) : Int) = (m : Int) % 128 + 128 from by omega]
        exact hown1
      case measure => simp [intOf]; omega
    · have hlt' : m < 128 := by omega
      have Hm := Lib.hid hm
      have H1 := Lib.hid h1
      clear hm h1
      go_wp2_with (first
        | (at_builtin; go_must (refine wpList_append_own _ rfl (.tmp 17) (.tmp 20) 25 rfl w.heap.size 5 i0 (.int .u8 0) 1 1 Try.underlying25 hi hz0 hz1 hz2 rfl (by decide) _ _ _ rfl (hown.alloc _) ⟨wr.heap.size, 0, none⟩ 1 1 [.int .u8 (m : Int)] rfl rfl (cell_one_new _ _ _) (by intro u hu; simp at hu; subst hu; rfl) (by unfold maxLen; omega) (by omega) (by simp; omega) ?_); intro v1 w1 hown1 hgrow1 hnil1))
      go_ret
      have e := put_last hlt' HX.out
      refine ⟨v1, rfl, ?_, (hnx.alloc (by omega) _).grown hgrow1 (by simp; omega) (fun k hk => (hown.lt k hk).1), fun h => by have := (hnil1.1 h).2; omega⟩
      rw [← e, bl_snoc, List.length_append, List.length_singleton]
      exact hown1

theorem add_shift (n i c : Nat) (hs : n + c % 128 * 128 ^ i ≤ 18446744073709551615) : IntKind.u64.wrap ((n : Int) + IntKind.u64.wrap ((c : Int) % 128 * 2 ^ (7 * i))) = ((n + c % 128 * 128 ^ i : Nat) : Int) := by
  have e : ((c : Int) % 128 * 2 ^ (7 * i)) = ((c % 128 * 128 ^ i : Nat) : Int) := by
    rw [show (2 : Int) ^ (7 * i) = ((2 ^ (7 * i) : Nat) : Int) from by simp, pow128]
    simp
  rw [e, IntKind.wrap_u64, IntKind.wrap_u64]
  omega
theorem pow_le8 {j : Nat} (h : j ≤ 8) : (128 : Nat) ^ j ≤ 72057594037927936 := Nat.pow_le_pow_right (n := 128) (by decide) h
def RGetRel (l : List Nat) (k0 : Nat) (v i : Value) : Prop :=
  ∃ j acc : Nat, i = .int .i64 j ∧ v = .int .u64 acc ∧ j ≤ 9 ∧ k0 + j ≤ l.length ∧ acc < 128 ^ j ∧ getF 0 0 (l.drop k0) = getF j acc (l.drop (k0 + j))
set_option maxHeartbeats 1000000 in
set_option maxRecDepth 100000 in
theorem rget_any (v : Value) (l : List Nat) (k0 : Nat) (w : World) (hB : BytesAt w v l) (h : ∀ x ∈ l, x < 256) (hl : l.length ≤ 140737488355328) (hk : k0 ≤ l.length) :
    Calls Try.prog 40 #[v, .int .i64 (k0 : Int)] w fun e w' => e = .returned (getV l k0) ∧ w = w' := by
  obtain ⟨a, cap, rfl, hcp, hcase⟩ := hB
  have HC := Lib.hid hcase
  have HH := Lib.hid h
  have b0 : (0 : Int) ≤ k0 := by omega
  have b1 : (k0 : Int) ≤ l.length := by omega
  clear hcase h hcp
  go_enter Try.func40, Try.ntmps40
  go_wp2
  go_loop [7, 8] (fun v i => RGetRel l k0 v i) (fun _ i => 10 - (intOf i).toNat)
  case atStart => exact ⟨0, 0, rfl, rfl, by omega, by omega, by omega, rfl⟩
  case round =>
    obtain ⟨j, acc, rfl, rfl, hj, hkj, hacc, hget⟩ := hrel
    have hj10 : (j : Int) < 10 := by omega
    by_cases hend : k0 + j = l.length
    · have hV : getV l k0 = .tuple #[.int .u64 0, .int .i64 0, .int .i64 2] := by
        unfold getV
        rw [hget, hend, List.drop_length]
        rfl
      have HV := Lib.hid hV
      have he2 : (l.length : Int) ≤ (k0 : Int) + (j : Int) := by omega
      clear hget hV hacc hend
      go_wp2
      go_ret3
      exact ⟨by rw [HV.out]; rfl, rfl⟩
    · obtain ⟨d, hd⟩ : ∃ d, d = l.getD (k0 + j) 0 := ⟨_, rfl⟩
      have hd2 : d < 256 := by rw [hd]; exact byte_lt l HH.out (k0 + j)
      have hcell : ∃ b o, a = some ⟨b, o, none⟩ ∧ w.cell? ⟨b, o + (k0 + j), none⟩ = some (.int .u8 (d : Int)) := by
        rcases HC.out with h | ⟨b, o, ha, hb, hc⟩
        · rw [h] at hkj hend; simp at hkj hend; omega
        · exact ⟨b, o, ha, by rw [hd]; exact hc _ (by omega)⟩
      obtain ⟨b, o, rfl, hc⟩ := hcell
      have hdrop : getF 0 0 (l.drop k0) = if j = 9 ∧ 1 < d then (0, 0, 3) else if d < 128 then (acc + d * 128 ^ j, j + 1, 0) else getF (j + 1) (acc + (d - 128) * 128 ^ j) (l.drop (k0 + (j + 1))) := by
        rw [hget, List.drop_eq_getElem_cons (show k0 + j < l.length by omega), getF]
        have e' : l.getD (k0 + j) 0 = l[k0 + j]'(by omega) := by simp [List.getD, List.getElem?_eq_getElem (show k0 + j < l.length by omega)]
        rw [← e', ← hd]
        rfl
      have HD := Lib.hid hdrop
      have HA := Lib.hid hacc
      have hlt : ¬ ((l.length : Int) ≤ (k0 : Int) + (j : Int)) := by omega
      have k7 : IntKind.i64.wrap (7 * (j : Int)) = 7 * (j : Int) := IntWalk.i64_in _ (by omega)
      have k70 : (0 : Int) ≤ 7 * (j : Int) := by omega
      have k7n : (7 * (j : Int)).toNat = 7 * j := by omega
      clear hget hdrop hd hend hacc
      by_cases h9 : j = 9 ∧ 1 < d
      · obtain ⟨rfl, hd1⟩ := h9
        have hV : getV l k0 = .tuple #[.int .u64 0, .int .i64 0, .int .i64 3] := by
          unfold getV
          rw [HD.out, if_pos ⟨rfl, hd1⟩]
          rfl
        have HV := Lib.hid hV
        clear hV k7 k70 k7n
        go_wp2
        go_ret3
        exact ⟨by rw [HV.out]; rfl, rfl⟩
      · have hb9 : j = 9 → d ≤ 1 := fun e => by
          by_cases h1 : 1 < d
          · exact absurd ⟨e, h1⟩ h9
          · omega
        by_cases hlow : d < 128
        · have hl1 : decide ((d : Int) < 128) = true := by simp; omega
          by_cases e9 : j = 9
          · have hl2 : decide (1 < (d : Int)) = false := by have := hb9 e9; simp; omega
            have b9 : ((j : Int) == 9) = true := by simp; omega
            have E9 := Lib.hid e9
            have hd1 := hb9 e9
            have hsum : acc + d % 128 * 128 ^ j ≤ 18446744073709551615 := by
              have h1 := HA.out
              subst e9
              have : d % 128 * 128 ^ 9 ≤ 1 * 128 ^ 9 := Nat.mul_le_mul_right _ (by omega)
              omega
            have HS := Lib.hid (add_shift acc j d hsum)
            have HV : Hid (getV l k0 = .tuple #[.int .u64 ((acc + d % 128 * 128 ^ j : Nat) : Int), .int .i64 ((k0 : Int) + (j : Int) + 1), .int .i64 0]) := by
              refine Lib.hid ?_
              unfold getV
              rw [HD.out, if_neg h9, if_pos hlow, show d % 128 = d from by omega]
              simp only [if_true]
              rw [show (k0 : Int) + ((j + 1 : Nat) : Int) = (k0 : Int) + (j : Int) + 1 from by omega]
              rfl
            clear e9 hb9 h9 hsum
            go_wp2
            go_ret3
            refine ⟨?_, rfl⟩
            show Ending.returned (.tuple #[.int .u64 (IntKind.u64.wrap ((acc : Int) + IntKind.u64.wrap ((d : Int) % 128 * 2 ^ (7 * j)))), .int .i64 ((k0 : Int) + (j : Int) + 1), .int .i64 0]) = _
            rw [HS.out, HV.out]
          · have b9 : ((j : Int) == 9) = false := by simp; omega
            have hsum : acc + d % 128 * 128 ^ j ≤ 18446744073709551615 := by
              have h1 := HA.out
              have hp := pow_le8 (show j ≤ 8 by omega)
              have : d % 128 * 128 ^ j ≤ 128 * 72057594037927936 := Nat.mul_le_mul (by omega) hp
              omega
            have HS := Lib.hid (add_shift acc j d hsum)
            have HV : Hid (getV l k0 = .tuple #[.int .u64 ((acc + d % 128 * 128 ^ j : Nat) : Int), .int .i64 ((k0 : Int) + (j : Int) + 1), .int .i64 0]) := by
              refine Lib.hid ?_
              unfold getV
              rw [HD.out, if_neg h9, if_pos hlow, show d % 128 = d from by omega]
              simp only [if_true]
              rw [show (k0 : Int) + ((j + 1 : Nat) : Int) = (k0 : Int) + (j : Int) + 1 from by omega]
              rfl
            clear hb9 h9 hsum
            go_wp2
            go_ret3
            refine ⟨?_, rfl⟩
            show Ending.returned (.tuple #[.int .u64 (IntKind.u64.wrap ((acc : Int) + IntKind.u64.wrap ((d : Int) % 128 * 2 ^ (7 * j)))), .int .i64 ((k0 : Int) + (j : Int) + 1), .int .i64 0]) = _
            rw [HS.out, HV.out]
        · have hl1 : decide ((d : Int) < 128) = false := by simp; omega
          have b9 : ((j : Int) == 9) = false := by simp; omega
          have hj8 : j ≤ 8 := by
            by_cases e9 : j = 9
            · have := hb9 e9; omega
            · omega
          have hsum : acc + d % 128 * 128 ^ j ≤ 18446744073709551615 := by
            have h1 := HA.out
            have hp := pow_le8 hj8
            have : d % 128 * 128 ^ j ≤ 128 * 72057594037927936 := Nat.mul_le_mul (by omega) hp
            omega
          have HS := Lib.hid (add_shift acc j d hsum)
          have HG := HD.out
          rw [if_neg h9, if_neg hlow] at HG
          have HG := Lib.hid HG
          clear hb9 h9 hsum
          go_wp2
          go_round
          case rel =>
            refine ⟨j + 1, acc + d % 128 * 128 ^ j, by go_num, congrArg (Value.int .u64) HS.out, by omega, by omega, ?_, ?_⟩
            · have h1 := HA.out
              have : d % 128 * 128 ^ j ≤ 127 * 128 ^ j := Nat.mul_le_mul_right _ (by omega)
              rw [Nat.pow_succ]
              omega
            · rw [HG.out, show d - 128 = d % 128 from by omega]
          case measure => simp [intOf]; omega
end Go.Proofs.Ytoglgdkeknojkaa
