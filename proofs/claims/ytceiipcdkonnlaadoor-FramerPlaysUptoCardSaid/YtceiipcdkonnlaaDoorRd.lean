/-
  LAYER 11: Get, the document's.
-/
import Derived.Test.YtceiipcdkonnlaaDoorRc
namespace Go.Proofs.YtceiipcdkonnlaaDoor
set_option linter.unusedSimpArgs false
set_option linter.unusedVariables false
open Go.RowKit

set_option maxHeartbeats 1000000 in
set_option maxRecDepth 100000 in
theorem rget_arg (a : Option Addr) (len cap : Nat) (k : Int) (w : World) (h0 : -9223372036854775808 ≤ k) (h1 : k ≤ 9223372036854775807) (h : k < 0 ∨ (0 ≤ k ∧ (len : Int) < k)) :
    Calls Tryd.prog 20 #[.slice a len cap, .int .i64 k] w fun e w' => e = .returned (HV 0 0 0 0 1) ∧ Below w.heap.size w w' := by
  rcases h with h | ⟨h, h2⟩
  all_goals
    go_enter Tryd.func20, Tryd.ntmps20
    go_wp2
    exact bodyPost_ret (v := HV 0 0 0 0 1) (by simp [results, Tryd.results20, go_sem, HV]) rfl ⟨rfl, by repeat (first | exact Below.refl _ _ | refine Below.drew ?_ | refine Below.alloc ?_ (by simp <;> omega) _ | refine Below.setCell ?_ (by simp <;> omega) _)⟩

/-- The loop of the document's Get, behind its head: k1 is the place behind the head's first byte. -/
def RRel (L : List Nat) (v s i : Value) : Prop :=
  ∃ j n S : Nat, i = .int .i64 ((j : Int) + 1) ∧ v = .int .i64 n ∧ s = .int .i64 S ∧ S = 128 ^ j ∧ j ≤ 4 ∧ j ≤ L.length ∧ n < 128 ^ j ∧ lenF 4 0 0 L = lenF (4 - j) j n (L.drop j)

set_option maxHeartbeats 2000000 in
set_option maxRecDepth 100000 in
theorem rget_any (v : Value) (l : List Nat) (k0 : Nat) (w : World) (hB : BytesAt w v l) (h : ∀ x ∈ l, x < 256) (hl : l.length ≤ 140737488355328) (hk : k0 ≤ l.length) :
    Calls Tryd.prog 20 #[v, .int .i64 (k0 : Int)] w (GPost l k0 w) := by
  have HB := Lib.hid hB
  obtain ⟨a, cap, rfl, hcp, hcase⟩ := hB
  have HC := Lib.hid hcase
  have HH := Lib.hid h
  have b0 : (0 : Int) ≤ k0 := by omega
  have b1 : (k0 : Int) ≤ l.length := by omega
  clear hcase h hcp
  by_cases hend : k0 = l.length
  · have HVe : Hid (getV l k0 = HV 0 0 0 0 2) := Lib.hid (by unfold getV; rw [if_pos hend])
    have hb : ((k0 : Int) == (l.length : Int)) = true := by rw [beq_iff_eq]; omega
    clear hend
    go_enter Tryd.func20, Tryd.ntmps20
    go_wp2
    exact bodyPost_ret (v := HV 0 0 0 0 2) (by simp [results, Tryd.results20, go_sem, HV]) rfl ⟨by rw [HVe.out], by repeat (first | exact Below.refl _ _ | refine Below.drew ?_ | refine Below.alloc ?_ (by simp <;> omega) _ | refine Below.setCell ?_ (by simp <;> omega) _)⟩
  · obtain ⟨d, hd⟩ : ∃ d, d = l.getD k0 0 := ⟨_, rfl⟩
    have hd2 : d < 256 := by rw [hd]; exact byte_lt l HH.out k0
    have hcell : ∃ b o, a = some ⟨b, o, none⟩ ∧ b < w.heap.size ∧ ∀ i, i < l.length → w.cell? ⟨b, o + i, none⟩ = some (.int .u8 ((l.getD i 0 : Nat) : Int)) := by
      rcases HC.out with h | ⟨b, o, ha, hb, hc⟩
      · rw [h] at hk hend; simp at hk hend; omega
      · exact ⟨b, o, ha, hb, hc⟩
    obtain ⟨b, o, rfl, hbl, hcs⟩ := hcell
    have HCS := Lib.hid hcs
    have hc := hcs k0 (by omega)
    rw [← hd] at hc
    have hne : ((k0 : Int) == (l.length : Int)) = false := by rw [beq_eq_false_iff_ne]; omega
    have hlt : (k0 : Int) < (l.length : Int) := by omega
    have hc1 : (w.alloc (.cells #[.int .i64 0, .int .i64 0, .int .i64 0] 33)).cell? ⟨b, o + k0, none⟩ = some (.int .u8 (d : Int)) := by rw [World.cell?_alloc_past _ _ _ hbl]; exact hc
    obtain ⟨E, hE⟩ : ∃ E, RightF ((d : Int) / 16) ((d : Int) % 16) = E := ⟨_, rfl⟩
    have R := fun (W : World) => ref_any ((d : Int) / 16) ((d : Int) % 16) W
    rw [hE] at R
    have hq1 : ((d / 16 : Nat) : Int) = (d : Int) / 16 := by omega
    have hq2 : ((d % 16 : Nat) : Int) = (d : Int) % 16 := by omega
    obtain ⟨L, hLd⟩ : ∃ L, L = l.drop (k0 + 1) := ⟨_, rfl⟩
    have hgV : getV l k0 = if E ≠ 0 then HV 0 0 0 0 E else if (lenF 4 0 0 L).2.2 = 0 then HV ((d : Int) / 16) ((d : Int) % 16) ((lenF 4 0 0 L).1 : Int) ((k0 : Int) + 1 + ((lenF 4 0 0 L).2.1 : Int)) 0 else HV 0 0 0 0 ((lenF 4 0 0 L).2.2 : Int) := by
      unfold getV
      rw [if_neg hend, ← hd, hq1, hq2, hE, ← hLd]
    have hLl : L.length = l.length - (k0 + 1) := by rw [hLd, List.length_drop]
    have hLg : ∀ j, l.getD (k0 + 1 + j) 0 = L.getD j 0 := fun j => by rw [hLd]; simp [List.getD, List.getElem?_drop]
    have HG := Lib.hid hgV
    have RH := Lib.hid R
    have HLl := Lib.hid hLl
    have HLg := Lib.hid hLg
    clear hend hd hE hq1 hq2 hgV R hcs hLl hLg hLd
    by_cases hE0 : E = 0
    · subst hE0
      go_enter Tryd.func20, Tryd.ntmps20
      go_wp2_with (go_at_call 25; refine (RH.out _).mono ?_; rintro e w' ⟨rfl, rfl⟩)
      have hG2 := HG.out
      rw [if_neg (by decide)] at hG2
      have HG2 := Lib.hid hG2
      clear hG2 hc hc1
      go_loop [10, 11, 12] (fun v s i => RRel L v s i) (fun _ _ i => 10 - (intOf i).toNat)
      case atStart => exact ⟨0, 0, 1, rfl, rfl, rfl, rfl, by omega, by omega, by omega, rfl⟩
      case round =>
        obtain ⟨j, n, S, rfl, rfl, rfl, hS, hj, hjL, hn, hget⟩ := hrel
        have hSle : S ≤ 268435456 := by rw [hS]; exact Nat.pow_le_pow_right (n := 128) (by decide) hj
        have hLl := HLl.out
        by_cases hj4 : j < 4
        · have hj4' : (j : Int) + 1 ≤ 4 := by omega
          obtain ⟨f, hf⟩ : ∃ f, 4 - j = f + 1 := ⟨3 - j, by omega⟩
          rw [hf] at hget
          by_cases hend : j = L.length
          · have HVx : Hid (getV l k0 = HV 0 0 0 0 2) := by
              refine Lib.hid ?_
              rw [HG2.out, hget, hend, List.drop_length]
              rfl
            have he2 : (l.length : Int) ≤ (k0 : Int) + ((j : Int) + 1) := by omega
            clear hget hn hend hf hS hLl
            go_wp2
            exact bodyPost_ret (v := HV 0 0 0 0 2) (by simp [results, Tryd.results20, go_sem, HV]) rfl ⟨by rw [HVx.out], by repeat (first | exact Below.refl _ _ | refine Below.drew ?_ | refine Below.alloc ?_ (by simp <;> omega) _ | refine Below.setCell ?_ (by simp <;> omega) _)⟩
          · obtain ⟨c, hcd⟩ : ∃ c, c = L.getD j 0 := ⟨_, rfl⟩
            have hc2 : c < 256 := by rw [hcd, ← HLg.out j]; exact byte_lt l HH.out _
            have hcj : w.cell? ⟨b, o + (k0 + (j + 1)), none⟩ = some (.int .u8 (c : Int)) := by
              rw [hcd, ← HLg.out j, show k0 + 1 + j = k0 + (j + 1) from by omega]
              exact HCS.out _ (by omega)
            have hcj1 : (w.alloc (.cells #[.int .i64 0, .int .i64 0, .int .i64 0] 33)).cell? ⟨b, o + (k0 + (j + 1)), none⟩ = some (.int .u8 (c : Int)) := by rw [World.cell?_alloc_past _ _ _ hbl]; exact hcj
            have hdrop : lenF 4 0 0 L = if c < 128 then (if n + c * 128 ^ j ≤ 4096 then (n + c * 128 ^ j, j + 1, 0) else (0, 0, 3)) else lenF f (j + 1) (n + (c - 128) * 128 ^ j) (L.drop (j + 1)) := by
              rw [hget, List.drop_eq_getElem_cons (show j < L.length by omega), lenF]
              have e' : L.getD j 0 = L[j]'(by omega) := by simp [List.getD, List.getElem?_eq_getElem (show j < L.length by omega)]
              rw [← e', ← hcd]
            have hix : (k0 : Int) + ((j : Int) + 1) < (l.length : Int) := by omega
            obtain ⟨M, hM⟩ : ∃ M : Nat, M = c % 128 * S := ⟨_, rfl⟩
            have hMle : M ≤ 127 * 268435456 := by rw [hM]; exact Nat.mul_le_mul (by omega) hSle
            have hnle : n ≤ 268435456 := by rw [← hS] at hn; omega
            have km : wrap64 ((c : Int) % 128 * (S : Int)) = (M : Int) := by
              rw [show (c : Int) % 128 * (S : Int) = (M : Int) from by rw [hM]; simp]
              exact IntWalk.wrap64_in _ ⟨by omega, by omega⟩
            have km' : (c : Int) % 128 * (S : Int) = (M : Int) := by rw [hM]; simp
            have hMN : n + M < 128 ^ (j + 1) := by
              have : c % 128 * 128 ^ j ≤ 127 * 128 ^ j := Nat.mul_le_mul_right _ (by omega)
              rw [hM, hS, Nat.pow_succ]; omega
            have HKM := Lib.hid km
            have HKM' := Lib.hid km'
            clear km km'
            have HM := Lib.hid hM
            have HS := Lib.hid hS
            have HMN := Lib.hid hMN
            have HD := Lib.hid hdrop
            have hjl : j + 1 ≤ L.length := by omega
            clear hget hn hend hS hLl hcd hM hMN hdrop hcj
            have hb1 : n + c % 128 * S < 128 ^ (j + 1) := by rw [← HM.out]; exact HMN.out
            have HMN' := Lib.hid hb1
            clear hb1
            have hlowM : c < 128 → n + c * 128 ^ j = n + c % 128 * S := fun h => by rw [← HS.out, Nat.mod_eq_of_lt h]
            have hhighM : ¬ c < 128 → n + (c - 128) * 128 ^ j = n + c % 128 * S := fun h => by rw [← HS.out, show c - 128 = c % 128 from by omega]
            clear hMle HKM HKM' HM HMN
            have hjx : f = 4 - (j + 1) := by omega
            have HF := Lib.hid hjx
            have HLo := Lib.hid hlowM
            have HHi := Lib.hid hhighM
            clear hjx hlowM hhighM hf
            have hj3 : (j : Int) ≤ 3 := by omega
            rcases (by omega : j = 0 ∨ j = 1 ∨ j = 2 ∨ j = 3) with hjj | hjj | hjj | hjj
            all_goals
              have hS0 := HS.out
              rw [hjj] at hS0
              simp only [Nat.reducePow] at hS0
              have HJJ := Lib.hid hjj
              clear hjj
              obtain ⟨T, hT⟩ : ∃ T, T = c * S := ⟨_, rfl⟩
              have hTI : (T : Int) = (c : Int) * (S : Int) := by rw [hT, Int.natCast_mul]
              subst hS0
              (try simp only [Int.cast_ofNat_Int, Nat.cast_ofNat, Int.ofNat_one, Nat.cast_one] at hTI)
              by_cases hlow : c < 128
              · have hl1 : decide ((c : Int) < 128) = true := by simp; omega
                have hg := HD.out
                rw [if_pos hlow, HLo.out hlow] at hg
                have HGL := Lib.hid hg
                clear hg
                have hgl := HGL.out
                rw [Nat.mod_eq_of_lt hlow, ← hT] at hgl
                have HGL := Lib.hid hgl
                clear hgl
                have HTN := Lib.hid hT
                clear hT
                have hcm : (c : Int) % 128 = (c : Int) := by omega
                rcases Nat.lt_or_ge 4096 (n + T) with hN4 | hN4
                · have HVx : Hid (getV l k0 = HV 0 0 0 0 3) := by
                    refine Lib.hid ?_
                    rw [HG2.out, HGL.out, if_neg (Nat.not_le_of_gt hN4)]
                    rfl
                  go_wp2
                  exact bodyPost_ret (v := HV 0 0 0 0 3) (by simp [results, Tryd.results20, go_sem, HV]) rfl ⟨by rw [HVx.out], by repeat (first | exact Below.refl _ _ | refine Below.drew ?_ | refine Below.alloc ?_ (by simp <;> omega) _ | refine Below.setCell ?_ (by simp <;> omega) _)⟩
                · have HVx : Hid (getV l k0 = HV ((d : Int) / 16) ((d : Int) % 16) ((n + T : Nat) : Int) ((k0 : Int) + ((j : Int) + 1) + 1) 0) := by
                    refine Lib.hid ?_
                    rw [HG2.out, HGL.out, if_pos hN4]
                    simp only [if_true]
                    rw [show (k0 : Int) + 1 + ((j + 1 : Nat) : Int) = (k0 : Int) + ((j : Int) + 1) + 1 from by omega]
                  go_wp2
                  exact bodyPost_ret (v := HV ((d : Int) / 16) ((d : Int) % 16) ((n + T : Nat) : Int) ((k0 : Int) + ((j : Int) + 1) + 1) 0) (by simp [results, Tryd.results20, go_sem, HV, hTI]) rfl ⟨by rw [HVx.out], by repeat (first | exact Below.refl _ _ | refine Below.drew ?_ | refine Below.alloc ?_ (by simp <;> omega) _ | refine Below.setCell ?_ (by simp <;> omega) _)⟩
              · have hl1 : decide ((c : Int) < 128) = false := by simp; omega
                have hg := HD.out
                rw [if_neg hlow, HHi.out hlow, HF.out] at hg
                have HGG := Lib.hid hg
                clear hg
                go_wp2
                go_round
                case rel => exact ⟨j + 1, _, _, by go_num, by go_num, by go_num, by rw [Nat.pow_succ, ← HS.out], by omega, hjl, HMN'.out, HGG.out⟩
                case measure => simp [intOf]; omega
        · obtain rfl : j = 4 := by omega
          have HVx : Hid (getV l k0 = HV 0 0 0 0 3) := by
            refine Lib.hid ?_
            rw [HG2.out, hget]
            rfl
          clear hget hS hn
          go_wp2
          exact bodyPost_ret (v := HV 0 0 0 0 3) (by simp [results, Tryd.results20, go_sem, HV]) rfl ⟨by rw [HVx.out], by repeat (first | exact Below.refl _ _ | refine Below.drew ?_ | refine Below.alloc ?_ (by simp <;> omega) _ | refine Below.setCell ?_ (by simp <;> omega) _)⟩
    · have hEb : (E != 0) = true := by simpa using hE0
      have hHV : Hid (getV l k0 = HV 0 0 0 0 E) := Lib.hid (by rw [HG.out, if_pos hE0])
      have HE0 := Lib.hid hE0
      clear hE0
      go_enter Tryd.func20, Tryd.ntmps20
      go_wp2_with (go_at_call 25; refine (RH.out _).mono ?_; rintro e w' ⟨rfl, rfl⟩)
      exact bodyPost_ret (v := HV 0 0 0 0 E) (by simp [results, Tryd.results20, go_sem, HV]) rfl ⟨by rw [hHV.out], by repeat (first | exact Below.refl _ _ | refine Below.drew ?_ | refine Below.alloc ?_ (by simp <;> omega) _ | refine Below.setCell ?_ (by simp <;> omega) _)⟩
end Go.Proofs.YtceiipcdkonnlaaDoor
