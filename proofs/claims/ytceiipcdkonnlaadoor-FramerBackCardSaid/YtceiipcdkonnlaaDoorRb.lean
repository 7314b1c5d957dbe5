/-
  LAYER 11: a length, the program's.
-/
import Derived.Test.YtceiipcdkonnlaaDoorRa
import Derived.Test.YtceiipcdkonnlaaDoorByt
namespace Go.Proofs.YtceiipcdkonnlaaDoor
set_option linter.unusedSimpArgs false
set_option linter.unusedVariables false
open Go.RowKit

/-- What is read as a length: of at most f bytes more, i of them being read already as the number n: the number, how many bytes, the error. -/
def lenF : Nat → Nat → Nat → List Nat → Nat × Nat × Nat
  | 0, _, _, _ => (0, 0, 3)
  | _ + 1, _, _, [] => (0, 0, 2)
  | f + 1, i, n, c :: r => if c < 128 then (if n + c * 128 ^ i ≤ 4096 then (n + c * 128 ^ i, i + 1, 0) else (0, 0, 3)) else lenF f (i + 1) (n + (c - 128) * 128 ^ i) r
def lenV (l : List Nat) (k0 : Nat) : Value :=
  .tuple #[.int .i64 ((lenF 4 0 0 (l.drop k0)).1 : Int), .int .i64 (if (lenF 4 0 0 (l.drop k0)).2.2 = 0 then (k0 : Int) + ((lenF 4 0 0 (l.drop k0)).2.1 : Int) else 0), .int .i64 ((lenF 4 0 0 (l.drop k0)).2.2 : Int)]
theorem byte_lt (l : List Nat) (h : ∀ x ∈ l, x < 256) (j : Nat) : l.getD j 0 < 256 := by
  rw [List.getD_eq_getElem?_getD]
  cases e : l[j]? with
  | none => simp
  | some x => exact h x (List.mem_of_getElem? e)
theorem ofInt_nat (a : Nat) (h1 : a ≤ 9223372036854775807) : (BitVec.ofInt 64 (a : Int)).toNat = a := by
  rw [BitVec.toNat_ofInt]; omega
theorem i64_or_nat (x y : Nat) (hx : x < 4611686018427387904) (hy : y < 4611686018427387904) : bits .or .i64 (x : Int) (y : Int) = ((x ||| y : Nat) : Int) := by
  have e : bits .or .i64 (x : Int) (y : Int) = IntKind.i64.wrap ((BitVec.ofInt 64 (x : Int) ||| BitVec.ofInt 64 (y : Int)).toNat : Int) := rfl
  have hb : x ||| y < 2 ^ 62 := Nat.or_lt_two_pow hx hy
  rw [e, BitVec.toNat_or, ofInt_nat x (by omega), ofInt_nat y (by omega)]
  exact IntWalk.i64_in _ (by omega)
theorem pow128 (i : Nat) : (2 : Nat) ^ (7 * i) = 128 ^ i := by rw [Nat.pow_mul]
theorem or_len (n i c : Nat) (hi : i ≤ 3) (hn : n < 128 ^ i) (hc : c < 128) : bits .or .i64 (n : Int) (wrap64 ((c : Int) * 2 ^ (7 * i))) = ((n + c * 128 ^ i : Nat) : Int) := by
  have hp : (128 : Nat) ^ i ≤ 2097152 := Nat.pow_le_pow_right (n := 128) (by decide) hi
  have hm : c * 128 ^ i ≤ 127 * 2097152 := Nat.mul_le_mul (by omega) hp
  have e : (c : Int) * 2 ^ (7 * i) = ((c * 128 ^ i : Nat) : Int) := by
    rw [show (2 : Int) ^ (7 * i) = ((2 ^ (7 * i) : Nat) : Int) from by simp, pow128, ← Int.natCast_mul]
  rw [e, show wrap64 ((c * 128 ^ i : Nat) : Int) = ((c * 128 ^ i : Nat) : Int) from IntWalk.wrap64_in _ ⟨by omega, by omega⟩, i64_or_nat _ _ (by omega) (by omega), Nat.or_comm, nat_join (7 * i) _ _ (by rw [pow128]; exact Nat.mul_mod_left _ _) (by rw [pow128]; exact hn), Nat.add_comm]

def LenRel (l : List Nat) (k0 : Nat) (v i : Value) : Prop :=
  ∃ j n : Nat, i = .int .i64 j ∧ v = .int .i64 n ∧ j ≤ 4 ∧ k0 + j ≤ l.length ∧ n < 128 ^ j ∧ lenF 4 0 0 (l.drop k0) = lenF (4 - j) j n (l.drop (k0 + j))
set_option maxHeartbeats 1000000 in
set_option maxRecDepth 100000 in
theorem len_any (v : Value) (l : List Nat) (k0 : Nat) (w : World) (hB : BytesAt w v l) (h : ∀ x ∈ l, x < 256) (hl : l.length ≤ 140737488355328) (hk : k0 ≤ l.length) :
    Calls Tryd.prog 31 #[v, .int .i64 (k0 : Int)] w fun e w' => e = .returned (lenV l k0) ∧ w = w' := by
  obtain ⟨a, cap, rfl, hcp, hcase⟩ := hB
  have HC := Lib.hid hcase
  have HH := Lib.hid h
  have b0 : (0 : Int) ≤ k0 := by omega
  have b1 : (k0 : Int) ≤ l.length := by omega
  clear hcase h hcp
  go_enter Tryd.func31, Tryd.ntmps31
  go_wp2
  go_loop [7, 10] (fun v i => LenRel l k0 v i) (fun _ i => 10 - (intOf i).toNat)
  case atStart => exact ⟨0, 0, rfl, rfl, by omega, by omega, by omega, rfl⟩
  case round =>
    obtain ⟨j, n, rfl, rfl, hj, hkj, hn, hget⟩ := hrel
    by_cases hj4 : j < 4
    · have hj4' : (j : Int) < 4 := by omega
      obtain ⟨f, hf⟩ : ∃ f, 4 - j = f + 1 := ⟨3 - j, by omega⟩
      rw [hf] at hget
      by_cases hend : k0 + j = l.length
      · have HV : Hid (lenV l k0 = .tuple #[.int .i64 0, .int .i64 0, .int .i64 2]) := by
          refine Lib.hid ?_
          unfold lenV
          rw [hget, hend, List.drop_length]
          rfl
        have he2 : ((k0 : Int) + (j : Int) == (l.length : Int)) = true := by rw [beq_iff_eq]; omega
        clear hget hn hend hf
        go_wp2
        go_ret3
        exact ⟨by rw [HV.out]; rfl, rfl⟩
      · obtain ⟨d, hd⟩ : ∃ d, d = l.getD (k0 + j) 0 := ⟨_, rfl⟩
        have hd2 : d < 256 := by rw [hd]; exact byte_lt l HH.out (k0 + j)
        have hcell : ∃ b o, a = some ⟨b, o, none⟩ ∧ w.cell? ⟨b, o + (k0 + j), none⟩ = some (.int .u8 (d : Int)) := by
          rcases HC.out with h | ⟨b, o, ha, hb, hc⟩
          · rw [h] at hkj hend; simp at hkj hend; omega
          · exact ⟨b, o, ha, by rw [hd]; exact hc _ (by omega)⟩
        obtain ⟨b, o, rfl, hc⟩ := hcell
        have hdrop : lenF 4 0 0 (l.drop k0) = if d < 128 then (if n + d * 128 ^ j ≤ 4096 then (n + d * 128 ^ j, j + 1, 0) else (0, 0, 3)) else lenF f (j + 1) (n + (d - 128) * 128 ^ j) (l.drop (k0 + (j + 1))) := by
          rw [hget, List.drop_eq_getElem_cons (show k0 + j < l.length by omega), lenF]
          have e' : l.getD (k0 + j) 0 = l[k0 + j]'(by omega) := by simp [List.getD, List.getElem?_eq_getElem (show k0 + j < l.length by omega)]
          rw [← e', ← hd]
          rfl
        have HD := Lib.hid hdrop
        have HN := Lib.hid hn
        have hne : ((k0 : Int) + (j : Int) == (l.length : Int)) = false := by rw [beq_eq_false_iff_ne]; omega
        have k7 : IntKind.i64.wrap (7 * (j : Int)) = 7 * (j : Int) := IntWalk.i64_in _ (by omega)
        have k70 : (0 : Int) ≤ 7 * (j : Int) := by omega
        have k7n : (7 * (j : Int)).toNat = 7 * j := by omega
        have kand : bits .and .u8 (d : Int) 127 = ((d % 128 : Nat) : Int) := by
          rw [show (127 : Int) = ((127 : Nat) : Int) from rfl, u8_and_nat _ _ hd2 (by decide), nat_mask7]
        obtain ⟨N, hN⟩ : ∃ N : Nat, N = n + d % 128 * 128 ^ j := ⟨_, rfl⟩
        have hor : bits .or .i64 (n : Int) (wrap64 ((d : Int) % 128 * 2 ^ (7 * j))) = (N : Int) := by
          rw [hN]
          have := or_len n j (d % 128) (by omega) hn (by omega)
          rw [show ((d % 128 : Nat) : Int) = (d : Int) % 128 from by omega] at this
          exact this
        have hix : (k0 : Int) + (j : Int) < (l.length : Int) := by omega
        have hlt : N < 128 ^ (j + 1) := by
          have : d % 128 * 128 ^ j ≤ 127 * 128 ^ j := Nat.mul_le_mul_right _ (by omega)
          rw [hN, Nat.pow_succ]; omega
        have HNN := Lib.hid hN
        have HLT := Lib.hid hlt
        clear hget hdrop hd hend hn hN hlt
        by_cases hlow : d < 128
        · have hl1 : decide ((d : Int) < 128) = true := by simp; omega
          have hg := HD.out
          rw [if_pos hlow, show n + d * 128 ^ j = N from by rw [HNN.out, Nat.mod_eq_of_lt hlow]] at hg
          by_cases hN4 : N ≤ 4096
          · have hN4' : (N : Int) ≤ 4096 := by omega
            have HV : Hid (lenV l k0 = .tuple #[.int .i64 (N : Int), .int .i64 ((k0 : Int) + (j : Int) + 1), .int .i64 0]) := by
              refine Lib.hid ?_
              unfold lenV
              rw [hg, if_pos hN4]
              simp only [if_true]
              rw [show (k0 : Int) + ((j + 1 : Nat) : Int) = (k0 : Int) + (j : Int) + 1 from by omega]
              rfl
            clear hg hf
            go_wp2
            go_ret3
            exact ⟨by rw [HV.out]; rfl, rfl⟩
          · have hN4' : (4096 : Int) < (N : Int) := by omega
            have HV : Hid (lenV l k0 = .tuple #[.int .i64 0, .int .i64 0, .int .i64 3]) := by
              refine Lib.hid ?_
              unfold lenV
              rw [hg, if_neg hN4]
              rfl
            clear hg hf
            go_wp2
            go_ret3
            exact ⟨by rw [HV.out]; rfl, rfl⟩
        · have hl1 : decide ((d : Int) < 128) = false := by simp; omega
          have hg := HD.out
          rw [if_neg hlow, show n + (d - 128) * 128 ^ j = N from by rw [HNN.out, show d - 128 = d % 128 from by omega], show f = 4 - (j + 1) from by omega] at hg
          have HG := Lib.hid hg
          clear hg hf
          go_wp2
          go_round
          case rel => exact ⟨j + 1, N, by go_num, rfl, by omega, by omega, HLT.out, HG.out⟩
          case measure => simp [intOf]; omega
    · obtain rfl : j = 4 := by omega
      have HV : Hid (lenV l k0 = .tuple #[.int .i64 0, .int .i64 0, .int .i64 3]) := by
        refine Lib.hid ?_
        unfold lenV
        rw [hget]
        rfl
      clear hget
      go_wp2
      go_ret3
      exact ⟨by rw [HV.out]; rfl, rfl⟩
end Go.Proofs.YtceiipcdkonnlaaDoor
