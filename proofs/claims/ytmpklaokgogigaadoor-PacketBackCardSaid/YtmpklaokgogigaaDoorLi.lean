/-
  LAYER 11: Get, the document's.
-/
import Derived.Test.YtmpklaokgogigaaDoorRc
import Derived.Test.YtmpklaokgogigaaDoorBlk
import Derived.OwnWalk
import Derived.Below
import Derived.Laws.OwnMore
import Derived.Maps.AppendAt
import Derived.Laws.StructEq
import Derived.Test.YtmpklaokgogigaaDoorLd
import Derived.BigRegion
import Derived.Deep.RegionHeld3
import Derived.Test.YtmpklaokgogigaaDoorLe
namespace Go.Proofs.YtmpklaokgogigaaDoor.Hea
set_option linter.unusedSimpArgs false
set_option linter.unusedVariables false
open Go.RowKit

set_option maxHeartbeats 1000000 in
set_option maxRecDepth 100000 in
theorem rget_arg (a : Option Addr) (len cap : Nat) (k : Int) (w : World) (h0 : -9223372036854775808 ≤ k) (h1 : k ≤ 9223372036854775807) (h : k < 0 ∨ (0 ≤ k ∧ (len : Int) < k)) :
    Calls Tryd.prog 21 #[.slice a len cap, .int .i64 k] w fun e w' => e = .returned (HV 0 0 0 0 1) ∧ Below w.heap.size w w' := by
  rcases h with h | ⟨h, h2⟩
  all_goals
    go_enter Tryd.func21, Tryd.ntmps21
    go_wp2
    exact bodyPost_ret (v := HV 0 0 0 0 1) (by simp [results, Tryd.results21, go_sem, HV]) rfl ⟨rfl, by repeat (first | exact Below.refl _ _ | refine Below.drew ?_ | refine Below.alloc ?_ (by simp <;> omega) _ | refine Below.setCell ?_ (by simp <;> omega) _)⟩

/-- The loop of the document's Get, behind its head: k1 is the place behind the head's first byte. -/
def RRel (L : List Nat) (v s i : Value) : Prop :=
  ∃ j n S : Nat, i = .int .i64 ((j : Int) + 1) ∧ v = .int .i64 n ∧ s = .int .i64 S ∧ S = 128 ^ j ∧ j ≤ 4 ∧ j ≤ L.length ∧ n < 128 ^ j ∧ lenF 4 0 0 L = lenF (4 - j) j n (L.drop j)

set_option maxHeartbeats 2000000 in
set_option maxRecDepth 100000 in
theorem rget_any (v : Value) (l : List Nat) (k0 : Nat) (w : World) (hB : BytesAt w v l) (h : ∀ x ∈ l, x < 256) (hl : l.length ≤ 140737488355328) (hk : k0 ≤ l.length) :
    Calls Tryd.prog 21 #[v, .int .i64 (k0 : Int)] w (GPost l k0 w) := by
  have HB := Lib.hid hB
  obtain ⟨a, cap, rfl, hcp, hcase⟩ := hB
  have HC := Lib.hid hcase
  have HH := Lib.hid h
  have b0 : (0 : Int) ≤ k0 := by omega
  have b1 : (k0 : Int) ≤ l.length := by omega
  clear hcase h hcp
  by_cases hend : k0 = l.length
  · have HVe : Hid (getV l k0 = HV 0 0 0 0 2) := Lib.hid (by unfold getV; rw [if_pos hend])
    have hb : ((k0 : Int) == (l.length : Int)) = true := by rw [beq_iff_eq]; omega
    clear hend
    go_enter Tryd.func21, Tryd.ntmps21
    go_wp2
    exact bodyPost_ret (v := HV 0 0 0 0 2) (by simp [results, Tryd.results21, go_sem, HV]) rfl ⟨by rw [HVe.out], by repeat (first | exact Below.refl _ _ | refine Below.drew ?_ | refine Below.alloc ?_ (by simp <;> omega) _ | refine Below.setCell ?_ (by simp <;> omega) _)⟩
  · obtain ⟨d, hd⟩ : ∃ d, d = l.getD k0 0 := ⟨_, rfl⟩
    have hd2 : d < 256 := by rw [hd]; exact byte_lt l HH.out k0
    have hcell : ∃ b o, a = some ⟨b, o, none⟩ ∧ b < w.heap.size ∧ ∀ i, i < l.length → w.cell? ⟨b, o + i, none⟩ = some (.int .u8 ((l.getD i 0 : Nat) : Int)) := by
      rcases HC.out with h | ⟨b, o, ha, hb, hc⟩
      · rw [h] at hk hend; simp at hk hend; omega
      · exact ⟨b, o, ha, hb, hc⟩
    obtain ⟨b, o, rfl, hbl, hcs⟩ := hcell
    have HCS := Lib.hid hcs
    have hc := hcs k0 (by omega)
    rw [← hd] at hc
    have hne : ((k0 : Int) == (l.length : Int)) = false := by rw [beq_eq_false_iff_ne]; omega
    have hlt : (k0 : Int) < (l.length : Int) := by omega
    have hc1 : (w.alloc (.cells #[.int .i64 0, .int .i64 0, .int .i64 0] 23)).cell? ⟨b, o + k0, none⟩ = some (.int .u8 (d : Int)) := by rw [World.cell?_alloc_past _ _ _ hbl]; exact hc
    obtain ⟨E, hE⟩ : ∃ E, RightF ((d : Int) / 16) ((d : Int) % 16) = E := ⟨_, rfl⟩
    have R := fun (W : World) => ref_any ((d : Int) / 16) ((d : Int) % 16) W
    rw [hE] at R
    have hq1 : ((d / 16 : Nat) : Int) = (d : Int) / 16 := by omega
    have hq2 : ((d % 16 : Nat) : Int) = (d : Int) % 16 := by omega
    obtain ⟨L, hLd⟩ : ∃ L, L = l.drop (k0 + 1) := ⟨_, rfl⟩
    have hgV : getV l k0 = if E ≠ 0 then HV 0 0 0 0 E else if (lenF 4 0 0 L).2.2 = 0 then HV ((d : Int) / 16) ((d : Int) % 16) ((lenF 4 0 0 L).1 : Int) ((k0 : Int) + 1 + ((lenF 4 0 0 L).2.1 : Int)) 0 else HV 0 0 0 0 ((lenF 4 0 0 L).2.2 : Int) := by
      unfold getV
      rw [if_neg hend, ← hd, hq1, hq2, hE, ← hLd]
    have hLl : L.length = l.length - (k0 + 1) := by rw [hLd, List.length_drop]
    have hLg : ∀ j, l.getD (k0 + 1 + j) 0 = L.getD j 0 := fun j => by rw [hLd]; simp [List.getD, List.getElem?_drop]
    have HG := Lib.hid hgV
    have RH := Lib.hid R
    have HLl := Lib.hid hLl
    have HLg := Lib.hid hLg
    clear hend hd hE hq1 hq2 hgV R hcs hLl hLg hLd
    by_cases hE0 : E = 0
    · subst hE0
      go_enter Tryd.func21, Tryd.ntmps21
      go_wp2_with (go_at_call 18; refine (RH.out _).mono ?_; rintro e w' ⟨rfl, rfl⟩)
      have hG2 := HG.out
      rw [if_neg (by decide)] at hG2
      have HG2 := Lib.hid hG2
      clear hG2 hc hc1
      go_loop [10, 11, 12] (fun v s i => RRel L v s i) (fun _ _ i => 10 - (intOf i).toNat)
      case atStart => exact ⟨0, 0, 1, rfl, rfl, rfl, rfl, by omega, by omega, by omega, rfl⟩
      case round =>
        obtain ⟨j, n, S, rfl, rfl, rfl, hS, hj, hjL, hn, hget⟩ := hrel
        have hSle : S ≤ 268435456 := by rw [hS]; exact Nat.pow_le_pow_right (n := 128) (by decide) hj
        have hLl := HLl.out
        by_cases hj4 : j < 4
        · have hj4' : (j : Int) + 1 ≤ 4 := by omega
          obtain ⟨f, hf⟩ : ∃ f, 4 - j = f + 1 := ⟨3 - j, by omega⟩
          rw [hf] at hget
          by_cases hend : j = L.length
          · have HVx : Hid (getV l k0 = HV 0 0 0 0 2) := by
              refine Lib.hid ?_
              rw [HG2.out, hget, hend, List.drop_length]
              rfl
            have he2 : (l.length : Int) ≤ (k0 : Int) + ((j : Int) + 1) := by omega
            clear hget hn hend hf hS hLl
            go_wp2
            exact bodyPost_ret (v := HV 0 0 0 0 2) (by simp [results, Tryd.results21, go_sem, HV]) rfl ⟨by rw [HVx.out], by repeat (first | exact Below.refl _ _ | refine Below.drew ?_ | refine Below.alloc ?_ (by simp <;> omega) _ | refine Below.setCell ?_ (by simp <;> omega) _)⟩
          · obtain ⟨c, hcd⟩ : ∃ c, c = L.getD j 0 := ⟨_, rfl⟩
            have hc2 : c < 256 := by rw [hcd, ← HLg.out j]; exact byte_lt l HH.out _
            have hcj : w.cell? ⟨b, o + (k0 + (j + 1)), none⟩ = some (.int .u8 (c : Int)) := by
              rw [hcd, ← HLg.out j, show k0 + 1 + j = k0 + (j + 1) from by omega]
              exact HCS.out _ (by omega)
            have hcj1 : (w.alloc (.cells #[.int .i64 0, .int .i64 0, .int .i64 0] 23)).cell? ⟨b, o + (k0 + (j + 1)), none⟩ = some (.int .u8 (c : Int)) := by rw [World.cell?_alloc_past _ _ _ hbl]; exact hcj
            have hdrop : lenF 4 0 0 L = if c < 128 then (if n + c * 128 ^ j ≤ 4096 then (n + c * 128 ^ j, j + 1, 0) else (0, 0, 3)) else lenF f (j + 1) (n + (c - 128) * 128 ^ j) (L.drop (j + 1)) := by
              rw [hget, List.drop_eq_getElem_cons (show j < L.length by omega), lenF]
              have e' : L.getD j 0 = L[j]'(by omega) := by simp [List.getD, List.getElem?_eq_getElem (show j < L.length by omega)]
              rw [← e', ← hcd]
            have hix : (k0 : Int) + ((j : Int) + 1) < (l.length : Int) := by omega
            obtain ⟨M, hM⟩ : ∃ M : Nat, M = c % 128 * S := ⟨_, rfl⟩
            have hMle : M ≤ 127 * 268435456 := by rw [hM]; exact Nat.mul_le_mul (by omega) hSle
            have hnle : n ≤ 268435456 := by rw [← hS] at hn; omega
            have km : wrap64 ((c : Int) % 128 * (S : Int)) = (M : Int) := by
              rw [show (c : Int) % 128 * (S : Int) = (M : Int) from by rw [hM]; simp]
              exact IntWalk.wrap64_in _ ⟨by omega, by omega⟩
            have km' : (c : Int) % 128 * (S : Int) = (M : Int) := by rw [hM]; simp
            have hMN : n + M < 128 ^ (j + 1) := by
              have : c % 128 * 128 ^ j ≤ 127 * 128 ^ j := Nat.mul_le_mul_right _ (by omega)
              rw [hM, hS, Nat.pow_succ]; omega
            have HKM := Lib.hid km
            have HKM' := Lib.hid km'
            clear km km'
            have HM := Lib.hid hM
            have HS := Lib.hid hS
            have HMN := Lib.hid hMN
            have HD := Lib.hid hdrop
            have hjl : j + 1 ≤ L.length := by omega
            clear hget hn hend hS hLl hcd hM hMN hdrop hcj
            have hb1 : n + c % 128 * S < 128 ^ (j + 1) := by rw [← HM.out]; exact HMN.out
            have HMN' := Lib.hid hb1
            clear hb1
            have hlowM : c < 128 → n + c * 128 ^ j = n + c % 128 * S := fun h => by rw [← HS.out, Nat.mod_eq_of_lt h]
            have hhighM : ¬ c < 128 → n + (c - 128) * 128 ^ j = n + c % 128 * S := fun h => by rw [← HS.out, show c - 128 = c % 128 from by omega]
            clear hMle HKM HKM' HM HMN
            have hjx : f = 4 - (j + 1) := by omega
            have HF := Lib.hid hjx
            have HLo := Lib.hid hlowM
            have HHi := Lib.hid hhighM
            clear hjx hlowM hhighM hf
            have hj3 : (j : Int) ≤ 3 := by omega
            rcases (by omega : j = 0 ∨ j = 1 ∨ j = 2 ∨ j = 3) with hjj | hjj | hjj | hjj
            all_goals
              have hS0 := HS.out
              rw [hjj] at hS0
              simp only [Nat.reducePow] at hS0
              have HJJ := Lib.hid hjj
              clear hjj
              obtain ⟨T, hT⟩ : ∃ T, T = c * S := ⟨_, rfl⟩
              have hTI : (T : Int) = (c : Int) * (S : Int) := by rw [hT, Int.natCast_mul]
              subst hS0
              (try simp only [Int.cast_ofNat_Int, Nat.cast_ofNat, Int.ofNat_one, Nat.cast_one] at hTI)
              by_cases hlow : c < 128
              · have hl1 : decide ((c : Int) < 128) = true := by simp; omega
                have hg := HD.out
                rw [if_pos hlow, HLo.out hlow] at hg
                have HGL := Lib.hid hg
                clear hg
                have hgl := HGL.out
                rw [Nat.mod_eq_of_lt hlow, ← hT] at hgl
                have HGL := Lib.hid hgl
                clear hgl
                have HTN := Lib.hid hT
                clear hT
                have hcm : (c : Int) % 128 = (c : Int) := by omega
                rcases Nat.lt_or_ge 4096 (n + T) with hN4 | hN4
                · have HVx : Hid (getV l k0 = HV 0 0 0 0 3) := by
                    refine Lib.hid ?_
                    rw [HG2.out, HGL.out, if_neg (Nat.not_le_of_gt hN4)]
                    rfl
                  go_wp2
                  exact bodyPost_ret (v := HV 0 0 0 0 3) (by simp [results, Tryd.results21, go_sem, HV]) rfl ⟨by rw [HVx.out], by repeat (first | exact Below.refl _ _ | refine Below.drew ?_ | refine Below.alloc ?_ (by simp <;> omega) _ | refine Below.setCell ?_ (by simp <;> omega) _)⟩
                · have HVx : Hid (getV l k0 = HV ((d : Int) / 16) ((d : Int) % 16) ((n + T : Nat) : Int) ((k0 : Int) + ((j : Int) + 1) + 1) 0) := by
                    refine Lib.hid ?_
                    rw [HG2.out, HGL.out, if_pos hN4]
                    simp only [if_true]
                    rw [show (k0 : Int) + 1 + ((j + 1 : Nat) : Int) = (k0 : Int) + ((j : Int) + 1) + 1 from by omega]
                  go_wp2
                  exact bodyPost_ret (v := HV ((d : Int) / 16) ((d : Int) % 16) ((n + T : Nat) : Int) ((k0 : Int) + ((j : Int) + 1) + 1) 0) (by simp [results, Tryd.results21, go_sem, HV, hTI]) rfl ⟨by rw [HVx.out], by repeat (first | exact Below.refl _ _ | refine Below.drew ?_ | refine Below.alloc ?_ (by simp <;> omega) _ | refine Below.setCell ?_ (by simp <;> omega) _)⟩
              · have hl1 : decide ((c : Int) < 128) = false := by simp; omega
                have hg := HD.out
                rw [if_neg hlow, HHi.out hlow, HF.out] at hg
                have HGG := Lib.hid hg
                clear hg
                go_wp2
                go_round
                case rel => exact ⟨j + 1, _, _, by go_num, by go_num, by go_num, by rw [Nat.pow_succ, ← HS.out], by omega, hjl, HMN'.out, HGG.out⟩
                case measure => simp [intOf]; omega
        · obtain rfl : j = 4 := by omega
          have HVx : Hid (getV l k0 = HV 0 0 0 0 3) := by
            refine Lib.hid ?_
            rw [HG2.out, hget]
            rfl
          clear hget hS hn
          go_wp2
          exact bodyPost_ret (v := HV 0 0 0 0 3) (by simp [results, Tryd.results21, go_sem, HV]) rfl ⟨by rw [HVx.out], by repeat (first | exact Below.refl _ _ | refine Below.drew ?_ | refine Below.alloc ?_ (by simp <;> omega) _ | refine Below.setCell ?_ (by simp <;> omega) _)⟩
    · have hEb : (E != 0) = true := by simpa using hE0
      have hHV : Hid (getV l k0 = HV 0 0 0 0 E) := Lib.hid (by rw [HG.out, if_pos hE0])
      have HE0 := Lib.hid hE0
      clear hE0
      go_enter Tryd.func21, Tryd.ntmps21
      go_wp2_with (go_at_call 18; refine (RH.out _).mono ?_; rintro e w' ⟨rfl, rfl⟩)
      exact bodyPost_ret (v := HV 0 0 0 0 E) (by simp [results, Tryd.results21, go_sem, HV]) rfl ⟨by rw [hHV.out], by repeat (first | exact Below.refl _ _ | refine Below.drew ?_ | refine Below.alloc ?_ (by simp <;> omega) _ | refine Below.setCell ?_ (by simp <;> omega) _)⟩
end Go.Proofs.YtmpklaokgogigaaDoor.Hea

/-
  LAYER 11: awake.
-/
namespace Go.Proofs.YtmpklaokgogigaaDoor.Hea
set_option linter.unusedSimpArgs false
set_option linter.unusedVariables false
open Go.RowKit

theorem tab_alloc {w : World} (h : Tab w) (o : Obj) : Tab (w.alloc o) := by
  unfold Tab at *
  have h0 : 0 < w.heap.size := by
    rcases Nat.eq_zero_or_pos w.heap.size with h0 | h0
    · have : w.cell? ⟨0, 2, none⟩ = none := by
        unfold World.cell?
        simp [Array.getElem?_eq_none (show w.heap.size ≤ 0 by omega)]
      rw [this] at h
      cases h
    · exact h0
  rw [World.cell?_alloc_past _ _ _ h0]
  exact h

theorem info5 : (Tryd.prog.info? 5).map (fun i => (i.zero, i.size, i.bytes)) = some (some (.int .u8 0), 1, 1) := by kernel_rfl
def hd : Value := .agg #[.int .i64 3, .int .i64 2, .int .i64 300]
def PutPost (w : World) (e : Ending) (w' : World) : Prop :=
  ∃ v, e = .returned (.tuple #[v, .int .i64 0]) ∧ w'.ownsRow w.heap.size 5 1 v 3 [.int .u8 50, .int .u8 172, .int .u8 2] ∧ Below w.heap.size w w' ∧ v ≠ .slice none 0 0

set_option maxHeartbeats 1000000 in
set_option maxRecDepth 100000 in
theorem put_any (w : World) (ht : Tab w) : Calls Tryd.prog 24 #[.agg #[.int .i64 3, .int .i64 2, .int .i64 300]] w (PutPost w) := by
  obtain ⟨i0, hi, hz0, hz1, hz2⟩ := info_parts info5
  go_enter Tryd.func24, Tryd.ntmps24
  go_wp2_with (first | (go_at_call 16; go_must (refine (right_ok 2 _ (tab_alloc ht _) (Or.inr (Or.inr (Or.inl rfl)))).mono ?_); rintro e w' ⟨rfl, rfl⟩) | fail)
  have hown0 : ((w.alloc (.cells #[.int .i64 3, .int .i64 2, .int .i64 300] 23)).alloc (.cells #[.int .u8 50] 5)).ownsRow w.heap.size 5 1 (.slice (some ⟨w.heap.size + 1, 0, none⟩) 1 1) 1 [.int .u8 50] := by
    have := World.ownsRow_lit (base := w.heap.size) (e := 5) (size := 1) (w.alloc (.cells #[.int .i64 3, .int .i64 2, .int .i64 300] 23)) #[.int .u8 50] 1 (by simp) (by unfold maxLen; omega) rfl
    simpa using this
  rw [show bits .or .i64 48 2 % 256 = 50 from by decide +kernel]
  have hc : ∀ (j : Nat) (u : Value), [Value.int IntKind.u8 (bits .or .u8 44 128)][j]? = some u → (((w.alloc (.cells #[.int .i64 3, .int .i64 2, .int .i64 300] 23)).alloc (.cells #[.int .u8 50] 5)).alloc (.cells #[.int .u8 (bits .or .u8 44 128)] 5)).cell? ((⟨w.heap.size + 1 + 1, 0, none⟩ : Addr).add j) = some u := by
    have := cell_one_new ((w.alloc (.cells #[.int .i64 3, .int .i64 2, .int .i64 300] 23)).alloc (.cells #[.int .u8 50] 5)) (.int .u8 (bits .or .u8 44 128)) 5
    simpa using this
  refine wp_loop_rounds 2 ?_
  rw [rounds_succ]
  go_wp2_with (first | (at_builtin; go_must (refine wpList_append_own _ rfl (.tmp 35) (.tmp 39) 48 rfl w.heap.size 5 i0 (.int .u8 0) 1 1 Tryd.underlying48 hi hz0 hz1 hz2 rfl (by decide) (.slice (some ⟨w.heap.size + 1, 0, none⟩) 1 1) 1 [.int .u8 50] rfl (hown0.alloc (.cells #[.int .u8 (bits .or .u8 44 128)] 5)) ⟨w.heap.size + 1 + 1, 0, none⟩ 1 1 [.int .u8 (bits .or .u8 44 128)] rfl rfl hc (by intro u hu; simp at hu; subst hu; rfl) (by unfold maxLen; omega) (by omega) (by simp; omega) ?_); intro v1 w1 hown1 hgrow1 hnil1) | fail)
  have hb1 : Below w.heap.size w w1 := (ext_trans (ext_trans (ext_alloc w _) (ext_alloc _ _)) (ext_alloc _ _)).grown hgrow1 (by simp; omega) (fun k hk => by simp [Value.ownBlock] at hk; omega)
  have hs1 := hb1.size
  rw [rounds_succ]
  go_wp2_with (first | (at_builtin; go_must (refine wpList_append_own _ rfl (.tmp 43) (.tmp 46) 48 rfl w.heap.size 5 i0 (.int .u8 0) 1 1 Tryd.underlying48 hi hz0 hz1 hz2 rfl (by decide) v1 2 _ rfl (hown1.alloc (.cells #[.int .u8 2] 5)) ⟨w1.heap.size, 0, none⟩ 1 1 [.int .u8 2] rfl rfl (cell_one_new _ _ _) (by intro u hu; simp at hu; subst hu; rfl) (by unfold maxLen; omega) (by omega) (by simp; omega) ?_); intro v2 w2 hown2 hgrow2 hnil2) | fail)
  go_ret2
  rw [show bits .or .u8 44 128 = 172 from by decide +kernel] at hown2
  exact ⟨v2, rfl, hown2, (hb1.alloc hs1 _).grown hgrow2 (by simp; omega) (fun k hk => (hown1.lt k hk).1), fun h => by have := (hnil2.1 h).2; omega⟩

end Go.Proofs.YtmpklaokgogigaaDoor.Hea

/-
  LAYER 11: any bytes as a head.
-/
namespace Go.Proofs.YtmpklaokgogigaaDoor.Hea
set_option linter.unusedSimpArgs false
set_option linter.unusedVariables false
open Go.RowKit

theorem getV_form (l : List Nat) (k0 : Nat) : ∃ k f n to e : Int, getV l k0 = HV k f n to e := by
  unfold getV
  split
  · exact ⟨_, _, _, _, _, rfl⟩
  · split
    · exact ⟨_, _, _, _, _, rfl⟩
    · split
      · exact ⟨_, _, _, _, _, rfl⟩
      · exact ⟨_, _, _, _, _, rfl⟩
theorem gets (a : Option Addr) (len cap : Nat) (zs : List Int) (at' : Int) (w : World) (ht : Tab3 w) (hr : IsRow .u8 w a len cap zs) (hs : cap * 1 ≤ 140737488351232) (b : -9223372036854775808 ≤ at' ∧ at' ≤ 9223372036854775807) :
    ∃ k f n to e : Int, (Calls Tryd.prog 20 #[.slice a len cap, .int .i64 at'] w fun en w' => en = .returned (HV k f n to e) ∧ Below w.heap.size w w') ∧
      (∀ W, Below w.heap.size w W → Calls Tryd.prog 21 #[.slice a len cap, .int .i64 at'] W fun en w' => en = .returned (HV k f n to e) ∧ Below W.heap.size W w') := by
  have hle := hr.len_le
  by_cases h : at' < 0 ∨ (0 ≤ at' ∧ (len : Int) < at')
  · exact ⟨0, 0, 0, 0, 1, get_arg a len cap at' w b.1 b.2 h, fun W _ => rget_arg a len cap at' W b.1 b.2 h⟩
  · obtain ⟨k0, rfl⟩ := Int.eq_ofNat_of_zero_le (show 0 ≤ at' by omega)
    obtain ⟨hB, hlen, hlt⟩ := hr.bytes
    obtain ⟨k, f, n, to, e, hV⟩ := getV_form ((zs.take len).map Int.toNat) k0
    have g1 := get_any _ _ k0 w ht hB hlt (by omega) (by omega)
    have g2 := fun W hW => rget_any _ _ k0 W (hB.keep hW (Nat.le_refl _)) hlt (by omega) (by omega)
    unfold GPost at g1 g2
    rw [hV] at g1 g2
    exact ⟨k, f, n, to, e, g1, g2⟩
end Go.Proofs.YtmpklaokgogigaaDoor.Hea

/-
  LAYER 11: Put, the program's, of any head.
-/
namespace Go.Proofs.YtmpklaokgogigaaDoor.Hea
set_option linter.unusedSimpArgs false
set_option linter.unusedVariables false
open Go.RowKit

/-- The bytes of a head. -/
def putB (K F n : Nat) : List Nat := if n < 128 then [16 * K + F, n] else [16 * K + F, n % 128 + 128, n / 128]
def PPost (B : Nat) (l : List Nat) (w : World) (e : Ending) (w' : World) : Prop :=
  ∃ v, e = .returned (.tuple #[v, .int .i64 0]) ∧ w'.ownsRow B 5 1 v l.length (bl l) ∧ Below B w w'
theorem right_zero {k f : Int} (h : RightF k f = 0) : 1 ≤ k ∧ k ≤ 14 ∧ 0 ≤ f ∧ f ≤ 15 := by
  unfold RightF at h
  split at h
  · omega
  · split at h
    · split at h
      · rename_i hm
        have := (mayBe_iff f).1 hm
        unfold MayBe at this
        omega
      · omega
    · split at h
      · split at h <;> omega
      · split at h <;> omega
theorem or_head (K F : Nat) (hK : K ≤ 14) (hF : F ≤ 15) : bits .or .i64 ((K : Int) * 16) (F : Int) = ((16 * K + F : Nat) : Int) := by
  rw [show (K : Int) * 16 = ((K * 16 : Nat) : Int) from by omega, i64_or_nat _ _ (by omega) (by omega), nat_join 4 _ _ (by omega) (by omega)]
  omega
theorem put_err (k f n : Int) (w : World) (ht : Tab3 w) (hE : RightF k f ≠ 0) :
    Calls Tryd.prog 24 #[.agg #[.int .i64 k, .int .i64 f, .int .i64 n]] w fun e w' => e = .returned (.tuple #[.slice none 0 0, .int .i64 (RightF k f)]) ∧ Below w.heap.size w w' := by
  obtain ⟨E, hEd⟩ : ∃ E, RightF k f = E := ⟨_, rfl⟩
  have R := right_any k f (w.alloc (.cells #[.int .i64 k, .int .i64 f, .int .i64 n] 23)) (ht.keep (ext_alloc _ _))
  rw [hEd] at R hE ⊢
  have R := Lib.hid R
  have hb : (E != 0) = true := by simpa using hE
  clear hE hEd ht
  go_enter Tryd.func24, Tryd.ntmps24
  go_wp2_with (go_at_call 16; refine R.out.mono ?_; rintro e w' ⟨rfl, rfl⟩)
  go_ret2
  exact ⟨rfl, ext_alloc _ _⟩
theorem put_long (k f n : Int) (w : World) (ht : Tab3 w) (hE : RightF k f = 0) (hn : n < 0 ∨ 4096 < n) :
    Calls Tryd.prog 24 #[.agg #[.int .i64 k, .int .i64 f, .int .i64 n]] w fun e w' => e = .returned (.tuple #[.slice none 0 0, .int .i64 3]) ∧ Below w.heap.size w w' := by
  have R := right_any k f (w.alloc (.cells #[.int .i64 k, .int .i64 f, .int .i64 n] 23)) (ht.keep (ext_alloc _ _))
  rw [hE] at R
  have R := Lib.hid R
  clear hE ht
  have hn' : n < 0 ∨ (0 ≤ n ∧ 4096 < n) := by omega
  rcases hn' with h | ⟨h0, h⟩
  all_goals
    go_enter Tryd.func24, Tryd.ntmps24
    go_wp2_with (go_at_call 16; refine R.out.mono ?_; rintro e w' ⟨rfl, rfl⟩)
    go_ret2
    exact ⟨rfl, ext_alloc _ _⟩
set_option maxHeartbeats 1000000 in
set_option maxRecDepth 100000 in
theorem put_one (K F n : Nat) (w : World) (ht : Tab3 w) (hE : RightF K F = 0) (hn : n < 128) :
    Calls Tryd.prog 24 #[.agg #[.int .i64 K, .int .i64 F, .int .i64 n]] w (PPost w.heap.size (putB K F n) w) := by
  obtain ⟨i0, hi, hz0, hz1, hz2⟩ := info_parts info5
  obtain ⟨q1, q2, q3, q4⟩ := right_zero hE
  have R := right_any K F (w.alloc (.cells #[.int .i64 K, .int .i64 F, .int .i64 n] 23)) (ht.keep (ext_alloc _ _))
  rw [hE] at R
  have R := Lib.hid R
  obtain ⟨h, hh⟩ : ∃ h : Nat, h = 16 * K + F := ⟨_, rfl⟩
  have hor := or_head K F (by omega) (by omega)
  rw [← hh] at hor
  have hh2 : h ≤ 239 := by omega
  have hh3 : (h : Int) ≤ 239 := by omega
  have HH := Lib.hid hh
  have hn' : (n : Int) < 128 := by omega
  have hown0 : ((w.alloc (.cells #[.int .i64 K, .int .i64 F, .int .i64 n] 23)).alloc (.cells #[.int .u8 (h : Int)] 5)).ownsRow w.heap.size 5 1 (.slice (some ⟨w.heap.size + 1, 0, none⟩) 1 1) 1 [.int .u8 (h : Int)] := by
    have := World.ownsRow_lit (base := w.heap.size) (e := 5) (size := 1) (w.alloc (.cells #[.int .i64 K, .int .i64 F, .int .i64 n] 23)) #[.int .u8 (h : Int)] 1 (by simp) (by unfold maxLen; omega) rfl
    simpa using this
  have hc : ∀ (j : Nat) (u : Value), [Value.int IntKind.u8 (n : Int)][j]? = some u → (((w.alloc (.cells #[.int .i64 K, .int .i64 F, .int .i64 n] 23)).alloc (.cells #[.int .u8 (h : Int)] 5)).alloc (.cells #[.int .u8 (n : Int)] 5)).cell? ((⟨w.heap.size + 1 + 1, 0, none⟩ : Addr).add j) = some u := by
    have := cell_one_new ((w.alloc (.cells #[.int .i64 K, .int .i64 F, .int .i64 n] 23)).alloc (.cells #[.int .u8 (h : Int)] 5)) (.int .u8 (n : Int)) 5
    simpa using this
  clear hE ht hh
  go_enter Tryd.func24, Tryd.ntmps24
  go_wp2_with (go_at_call 16; refine R.out.mono ?_; rintro e w' ⟨rfl, rfl⟩)
  refine wp_loop_rounds 1 ?_
  rw [rounds_succ]
  go_wp2_with (at_builtin; go_must (refine wpList_append_own _ rfl (.tmp 43) (.tmp 46) 48 rfl w.heap.size 5 i0 (.int .u8 0) 1 1 Tryd.underlying48 hi hz0 hz1 hz2 rfl (by decide) (.slice (some ⟨w.heap.size + 1, 0, none⟩) 1 1) 1 [.int .u8 (h : Int)] rfl (hown0.alloc (.cells #[.int .u8 (n : Int)] 5)) ⟨w.heap.size + 1 + 1, 0, none⟩ 1 1 [.int .u8 (n : Int)] rfl rfl hc (by intro u hu; simp at hu; subst hu; rfl) (by unfold maxLen; omega) (by omega) (by simp; omega) ?_); intro v1 w1 hown1 hgrow1 hnil1)
  have hb1 : Below w.heap.size w w1 := (ext_trans (ext_trans (ext_alloc w _) (ext_alloc _ _)) (ext_alloc _ _)).grown hgrow1 (by simp; omega) (fun k hk => by cases hk; exact Nat.le_succ _)
  go_ret2
  refine ⟨v1, rfl, ?_, hb1⟩
  unfold putB
  rw [if_pos hn, ← HH.out]
  exact hown1
theorem or_128a (n : Nat) : bits .or .u8 ((n : Int) % 256) 128 = ((n % 128 + 128 : Nat) : Int) := by
  rw [show ((n : Int) % 256) = ((n % 256 : Nat) : Int) from by omega, show (128 : Int) = ((128 : Nat) : Int) from rfl, u8_or_nat _ _ (by omega) (by decide)]
  have h : ∀ x : Fin 256, x.val ||| 128 = x.val % 128 + 128 := by decide +kernel
  have := h ⟨n % 256, by omega⟩
  simp only at this
  rw [this]
  omega
theorem or_128b (n : Nat) : bits .or .u8 (IntKind.u8.wrap (n : Int)) 128 = ((n % 128 + 128 : Nat) : Int) := by
  rw [IntKind.wrap_u8']
  exact or_128a n
set_option maxHeartbeats 1000000 in
set_option maxRecDepth 100000 in
theorem put_two (K F n : Nat) (w : World) (ht : Tab3 w) (hE : RightF K F = 0) (hn : 128 ≤ n) (hn2 : n ≤ 4096) :
    Calls Tryd.prog 24 #[.agg #[.int .i64 K, .int .i64 F, .int .i64 n]] w (PPost w.heap.size (putB K F n) w) := by
  obtain ⟨i0, hi, hz0, hz1, hz2⟩ := info_parts info5
  obtain ⟨q1, q2, q3, q4⟩ := right_zero hE
  have R := right_any K F (w.alloc (.cells #[.int .i64 K, .int .i64 F, .int .i64 n] 23)) (ht.keep (ext_alloc _ _))
  rw [hE] at R
  have R := Lib.hid R
  obtain ⟨h, hh⟩ : ∃ h : Nat, h = 16 * K + F := ⟨_, rfl⟩
  have hor := or_head K F (by omega) (by omega)
  rw [← hh] at hor
  have hh2 : h ≤ 239 := by omega
  have hh3 : (h : Int) ≤ 239 := by omega
  have HH := Lib.hid hh
  obtain ⟨c, hcd⟩ : ∃ c : Nat, c = n % 128 + 128 := ⟨_, rfl⟩
  have ha := or_128a n
  have hb := or_128b n
  rw [← hcd] at ha hb
  have HCD := Lib.hid hcd
  have hc3 : (c : Int) ≤ 255 := by omega
  have hn' : (128 : Int) ≤ n := by omega
  have hn'' : (n : Int) ≤ 4096 := by omega
  have hown0 : ((w.alloc (.cells #[.int .i64 K, .int .i64 F, .int .i64 n] 23)).alloc (.cells #[.int .u8 (h : Int)] 5)).ownsRow w.heap.size 5 1 (.slice (some ⟨w.heap.size + 1, 0, none⟩) 1 1) 1 [.int .u8 (h : Int)] := by
    have := World.ownsRow_lit (base := w.heap.size) (e := 5) (size := 1) (w.alloc (.cells #[.int .i64 K, .int .i64 F, .int .i64 n] 23)) #[.int .u8 (h : Int)] 1 (by simp) (by unfold maxLen; omega) rfl
    simpa using this
  have hc : ∀ (j : Nat) (u : Value), [Value.int IntKind.u8 (c : Int)][j]? = some u → (((w.alloc (.cells #[.int .i64 K, .int .i64 F, .int .i64 n] 23)).alloc (.cells #[.int .u8 (h : Int)] 5)).alloc (.cells #[.int .u8 (c : Int)] 5)).cell? ((⟨w.heap.size + 1 + 1, 0, none⟩ : Addr).add j) = some u := by
    have := cell_one_new ((w.alloc (.cells #[.int .i64 K, .int .i64 F, .int .i64 n] 23)).alloc (.cells #[.int .u8 (h : Int)] 5)) (.int .u8 (c : Int)) 5
    simpa using this
  clear hE ht hh hcd
  go_enter Tryd.func24, Tryd.ntmps24
  go_wp2_with (go_at_call 16; refine R.out.mono ?_; rintro e w' ⟨rfl, rfl⟩)
  refine wp_loop_rounds 2 ?_
  rw [rounds_succ]
  go_wp2_with (at_builtin; go_must (refine wpList_append_own _ rfl (.tmp 35) (.tmp 39) 48 rfl w.heap.size 5 i0 (.int .u8 0) 1 1 Tryd.underlying48 hi hz0 hz1 hz2 rfl (by decide) (.slice (some ⟨w.heap.size + 1, 0, none⟩) 1 1) 1 [.int .u8 (h : Int)] rfl (hown0.alloc (.cells #[.int .u8 (c : Int)] 5)) ⟨w.heap.size + 1 + 1, 0, none⟩ 1 1 [.int .u8 (c : Int)] rfl rfl hc (by intro u hu; simp at hu; subst hu; rfl) (by unfold maxLen; omega) (by omega) (by simp; omega) ?_); intro v1 w1 hown1 hgrow1 hnil1)
  have hb1 : Below w.heap.size w w1 := (ext_trans (ext_trans (ext_alloc w _) (ext_alloc _ _)) (ext_alloc _ _)).grown hgrow1 (by simp; omega) (fun k hk => by cases hk; exact Nat.le_succ _)
  have hs1 := hb1.size
  clear hgrow1 hnil1 ha hb
  rw [rounds_succ]
  go_wp2_with (at_builtin; go_must (refine wpList_append_own _ rfl (.tmp 43) (.tmp 46) 48 rfl w.heap.size 5 i0 (.int .u8 0) 1 1 Tryd.underlying48 hi hz0 hz1 hz2 rfl (by decide) v1 2 _ rfl (hown1.alloc (.cells #[.int .u8 ((n : Int) / 128)] 5)) ⟨w1.heap.size, 0, none⟩ 1 1 [.int .u8 ((n : Int) / 128)] rfl rfl (cell_one_new _ _ _) (by intro u hu; simp at hu; subst hu; rfl) (by unfold maxLen; omega) (by omega) (by simp; omega) ?_); intro v2 w2 hown2 hgrow2 hnil2)
  go_ret2
  refine ⟨v2, rfl, ?_, (hb1.alloc hs1 _).grown hgrow2 (by simp; omega) (fun k hk => (hown1.lt k hk).1)⟩
  unfold putB
  rw [if_neg (by omega), ← HH.out, ← HCD.out]
  have := hown2
  simp only [bl, List.map_cons, List.map_nil, List.length_cons, List.length_nil]
  rw [show ((n / 128 : Nat) : Int) = (n : Int) / 128 from by omega]
  exact this
end Go.Proofs.YtmpklaokgogigaaDoor.Hea

/-
  LAYER 11: what was put is got.
-/
namespace Go.Proofs.YtmpklaokgogigaaDoor.Hea
set_option linter.unusedSimpArgs false
set_option linter.unusedVariables false
open Go.RowKit

theorem putB_length (K F n : Nat) : (putB K F n).length = if n < 128 then 2 else 3 := by unfold putB; split <;> rfl
theorem putB_lt (K F n : Nat) (hK : K ≤ 14) (hF : F ≤ 15) (hn : n ≤ 4096) : ∀ x ∈ putB K F n, x < 256 := by
  unfold putB
  intro x hx
  split at hx
  · simp at hx; omega
  · simp at hx; omega
theorem getD_mid (la r : List Nat) (h : Nat) : (la ++ h :: r).getD la.length 0 = h := by simp [List.getD]
/-- What Get answers at a head that Put laid, behind anything and ahead of anything. -/
theorem getV_mid (la lb : List Nat) (K F n : Nat) (hE : RightF K F = 0) (hn : n ≤ 4096) :
    getV (la ++ putB K F n ++ lb) la.length = HV K F n ((la.length : Int) + ((putB K F n).length : Int)) 0 := by
  obtain ⟨q1, q2, q3, q4⟩ := right_zero hE
  have hd : ∃ r, putB K F n = (16 * K + F) :: r ∧ lenF 4 0 0 (r ++ lb) = (n, (putB K F n).length - 1, 0) ∧ 1 ≤ (putB K F n).length := by
    unfold putB
    split
    · rename_i h
      refine ⟨[n], rfl, ?_, by simp⟩
      simp only [List.cons_append, List.nil_append, lenF]
      rw [if_pos h, if_pos (by omega)]
      simp
    · rename_i h
      refine ⟨[n % 128 + 128, n / 128], rfl, ?_, by simp⟩
      simp only [List.cons_append, List.nil_append, lenF]
      rw [if_neg (by omega), if_pos (by omega), if_pos (by omega)]
      refine Prod.ext ?_ rfl
      show 0 + (n % 128 + 128 - 128) * 128 ^ 0 + n / 128 * 128 ^ (0 + 1) = n
      omega
  obtain ⟨r, hr, hl, hlen⟩ := hd
  have hne : la.length ≠ (la ++ putB K F n ++ lb).length := by
    intro h
    rw [List.length_append, List.length_append] at h
    omega
  have hg : (la ++ putB K F n ++ lb).getD la.length 0 = 16 * K + F := by
    rw [hr, List.append_assoc, List.cons_append]
    exact getD_mid la _ _
  have hdrop : (la ++ putB K F n ++ lb).drop (la.length + 1) = r ++ lb := by
    rw [hr, List.append_assoc, List.cons_append, List.drop_append]
    simp
  unfold getV
  rw [if_neg hne, hg, hdrop, hl, show (16 * K + F) / 16 = K from by omega, show (16 * K + F) % 16 = F from by omega, hE]
  simp only [ne_eq, not_true_eq_false, if_false, if_true]
  rw [show (la.length : Int) + 1 + (((putB K F n).length - 1 : Nat) : Int) = (la.length : Int) + ((putB K F n).length : Int) from by omega]
/-- .. cut anywhere it is too short. -/
theorem getV_cut (K F n m : Nat) (hE : RightF K F = 0) (hm : m < (putB K F n).length) : getV ((putB K F n).take m) 0 = HV 0 0 0 0 2 := by
  obtain ⟨q1, q2, q3, q4⟩ := right_zero hE
  have key : ∀ h : Nat, h / 16 = K → h % 16 = F → getV [h] 0 = HV 0 0 0 0 2 ∧ (128 ≤ n → getV [h, n % 128 + 128] 0 = HV 0 0 0 0 2) := by
    intro h h1 h2
    refine ⟨?_, fun hn => ?_⟩
    · unfold getV
      simp only [List.length_cons, List.length_nil, List.getD_cons_zero, h1, h2, hE]
      simp [lenF]
    · unfold getV
      simp only [List.length_cons, List.length_nil, List.getD_cons_zero, h1, h2, hE]
      simp [lenF, show ¬ (n % 128 + 128 < 128) from by omega]
  obtain ⟨k1, k2⟩ := key (16 * K + F) (by omega) (by omega)
  rw [putB_length] at hm
  unfold putB
  split
  · rename_i h
    rw [if_pos h] at hm
    rcases (by omega : m = 0 ∨ m = 1) with rfl | rfl
    · rfl
    · exact k1
  · rename_i h
    rw [if_neg h] at hm
    rcases (by omega : m = 0 ∨ m = 1 ∨ m = 2) with rfl | rfl | rfl
    · rfl
    · exact k1
    · exact k2 (by omega)
end Go.Proofs.YtmpklaokgogigaaDoor.Hea

/-
  LAYER 16: Clean, the program's, kind by kind.
-/
namespace Go.Proofs.YtmpklaokgogigaaDoor.Pac
set_option linter.unusedVariables false
set_option linter.unusedSimpArgs false
open Go.Proofs.YtmpklaokgogigaaDoor
open Go.RowKit
/-- Where Clean stands: the packet that came, what will be answered, what is being laid. -/
structure QC (w : World) (xs : Array Value) (cs : Array Value) (W : World) : Prop where
  x : Blk W w.heap.size 33 xs
  r : Blk W (w.heap.size + 1) 33 (Z 0)
  p : Blk W (w.heap.size + 1 + 1) 33 cs
  bw : Below w.heap.size w W
section
variable {w W W' : World} {xs cs : Array Value}
theorem QC.ext (h : QC w xs cs W) (hb : Below W.heap.size W W') : QC w xs cs W' :=
  ⟨h.x.ext hb, h.r.ext hb, h.p.ext hb, h.bw.trans (hb.mono h.bw.size)⟩
theorem QC.set (h : QC w xs cs W) (i : Nat) (u : Value) : QC w xs (cs.setIfInBounds i u) (W.setCell ⟨w.heap.size + 1 + 1, i, none⟩ u) :=
  ⟨h.x.far (p := ⟨w.heap.size + 1 + 1, i, none⟩) (by simp; omega) u, h.r.far (p := ⟨w.heap.size + 1 + 1, i, none⟩) (by simp) u, h.p.set i u, h.bw.setCell (by simp; omega) u⟩
theorem QC.sets (h : QC w xs cs W) (i : Nat) (vs : List Value) : QC w xs (setsA cs i vs) (W.setCells (w.heap.size + 1 + 1) i vs) :=
  ⟨blk_far_sets vs i h.x (by omega), blk_far_sets vs i h.r (by omega), blk_sets vs i h.p, below_sets vs i h.bw (by omega)⟩
theorem QC.put (h : QC w xs cs W) (ds : Array Value) : Blk (W.setRow (w.heap.size + 1) ds) (w.heap.size + 1) 33 ds ∧ Below w.heap.size w (W.setRow (w.heap.size + 1) ds) :=
  ⟨setRow_heap W _ (Z 0) ds 33 (0, 0) h.r, below_setRow h.bw (by omega) _⟩
theorem QC.start (w : World) (xs : Array Value) (k : Int) : QC w xs (Z k) (((w.alloc (.cells xs 33)).alloc (.cells (Z 0) 33)).alloc (.cells (Z k) 33)) := by
  have k1 : Blk ((w.alloc (.cells xs 33)).alloc (.cells (Z 0) 33)) (w.heap.size + 1) 33 (Z 0) := by
    have := Blk.new (w.alloc (.cells xs 33)) 33 (Z 0)
    simpa using this
  have k2 : Blk (((w.alloc (.cells xs 33)).alloc (.cells (Z 0) 33)).alloc (.cells (Z k) 33)) (w.heap.size + 1 + 1) 33 (Z k) := by
    have := Blk.new ((w.alloc (.cells xs 33)).alloc (.cells (Z 0) 33)) 33 (Z k)
    simpa using this
  exact ⟨((Blk.new w 33 xs).alloc _).alloc _, k1.alloc _, k2, ((((Below.refl _ w).alloc (Nat.le_refl _) _).alloc (by simp) _).alloc (by simp; omega) _)⟩
end
theorem cnew_row (w : World) (o : Obj) : (((w.alloc o).alloc (.cells #[.int .i64 0, .int .i64 0, .bool false, .string ⟨#[]⟩, .string ⟨#[]⟩, .int .i64 0, .bool false, .int .i64 0, .bool false, .int .i64 0, .string ⟨#[]⟩, .bool false, .string ⟨#[]⟩, .string ⟨#[]⟩, .int .i64 0, .bool false, .bool false, .string ⟨#[]⟩, .bool false, .string ⟨#[]⟩, .bool false, .int .i64 0, .slice none 0 0, .slice none 0 0] 33)).alloc (.cells #[.int .i64 0, .int .i64 0, .bool false, .string ⟨#[]⟩, .string ⟨#[]⟩, .int .i64 0, .bool false, .int .i64 0, .bool false, .int .i64 0, .string ⟨#[]⟩, .bool false, .string ⟨#[]⟩, .string ⟨#[]⟩, .int .i64 0, .bool false, .bool false, .string ⟨#[]⟩, .bool false, .string ⟨#[]⟩, .bool false, .int .i64 0, .slice none 0 0, .slice none 0 0] 33)).heap[w.heap.size + 1 + 1]? = some (.cells #[.int .i64 0, .int .i64 0, .bool false, .string ⟨#[]⟩, .string ⟨#[]⟩, .int .i64 0, .bool false, .int .i64 0, .bool false, .int .i64 0, .string ⟨#[]⟩, .bool false, .string ⟨#[]⟩, .string ⟨#[]⟩, .int .i64 0, .bool false, .bool false, .string ⟨#[]⟩, .bool false, .string ⟨#[]⟩, .bool false, .int .i64 0, .slice none 0 0, .slice none 0 0] 33 (0, 0)) := by
  have := heap_alloc_new ((w.alloc o).alloc (.cells #[.int .i64 0, .int .i64 0, .bool false, .string ⟨#[]⟩, .string ⟨#[]⟩, .int .i64 0, .bool false, .int .i64 0, .bool false, .int .i64 0, .string ⟨#[]⟩, .bool false, .string ⟨#[]⟩, .string ⟨#[]⟩, .int .i64 0, .bool false, .bool false, .string ⟨#[]⟩, .bool false, .string ⟨#[]⟩, .bool false, .int .i64 0, .slice none 0 0, .slice none 0 0] 33)) (.cells #[.int .i64 0, .int .i64 0, .bool false, .string ⟨#[]⟩, .string ⟨#[]⟩, .int .i64 0, .bool false, .int .i64 0, .bool false, .int .i64 0, .string ⟨#[]⟩, .bool false, .string ⟨#[]⟩, .string ⟨#[]⟩, .int .i64 0, .bool false, .bool false, .string ⟨#[]⟩, .bool false, .string ⟨#[]⟩, .bool false, .int .i64 0, .slice none 0 0, .slice none 0 0] 33)
  rw [show ((w.alloc o).alloc (.cells #[.int .i64 0, .int .i64 0, .bool false, .string ⟨#[]⟩, .string ⟨#[]⟩, .int .i64 0, .bool false, .int .i64 0, .bool false, .int .i64 0, .string ⟨#[]⟩, .bool false, .string ⟨#[]⟩, .string ⟨#[]⟩, .int .i64 0, .bool false, .bool false, .string ⟨#[]⟩, .bool false, .string ⟨#[]⟩, .bool false, .int .i64 0, .slice none 0 0, .slice none 0 0] 33)).heap.size = w.heap.size + 1 + 1 from by simp] at this
  exact this
theorem cnew_set (w : World) (o : Obj) (cs : Array Value) : (((w.alloc o).alloc (.cells #[.int .i64 0, .int .i64 0, .bool false, .string ⟨#[]⟩, .string ⟨#[]⟩, .int .i64 0, .bool false, .int .i64 0, .bool false, .int .i64 0, .string ⟨#[]⟩, .bool false, .string ⟨#[]⟩, .string ⟨#[]⟩, .int .i64 0, .bool false, .bool false, .string ⟨#[]⟩, .bool false, .string ⟨#[]⟩, .bool false, .int .i64 0, .slice none 0 0, .slice none 0 0] 33)).alloc (.cells #[.int .i64 0, .int .i64 0, .bool false, .string ⟨#[]⟩, .string ⟨#[]⟩, .int .i64 0, .bool false, .int .i64 0, .bool false, .int .i64 0, .string ⟨#[]⟩, .bool false, .string ⟨#[]⟩, .string ⟨#[]⟩, .int .i64 0, .bool false, .bool false, .string ⟨#[]⟩, .bool false, .string ⟨#[]⟩, .bool false, .int .i64 0, .slice none 0 0, .slice none 0 0] 33)).setRow (w.heap.size + 1 + 1) cs = ((w.alloc o).alloc (.cells #[.int .i64 0, .int .i64 0, .bool false, .string ⟨#[]⟩, .string ⟨#[]⟩, .int .i64 0, .bool false, .int .i64 0, .bool false, .int .i64 0, .string ⟨#[]⟩, .bool false, .string ⟨#[]⟩, .string ⟨#[]⟩, .int .i64 0, .bool false, .bool false, .string ⟨#[]⟩, .bool false, .string ⟨#[]⟩, .bool false, .int .i64 0, .slice none 0 0, .slice none 0 0] 33)).alloc (.cells cs 33) := by
  have := World.setRow_alloc_new ((w.alloc o).alloc (.cells #[.int .i64 0, .int .i64 0, .bool false, .string ⟨#[]⟩, .string ⟨#[]⟩, .int .i64 0, .bool false, .int .i64 0, .bool false, .int .i64 0, .string ⟨#[]⟩, .bool false, .string ⟨#[]⟩, .string ⟨#[]⟩, .int .i64 0, .bool false, .bool false, .string ⟨#[]⟩, .bool false, .string ⟨#[]⟩, .bool false, .int .i64 0, .slice none 0 0, .slice none 0 0] 33)) #[.int .i64 0, .int .i64 0, .bool false, .string ⟨#[]⟩, .string ⟨#[]⟩, .int .i64 0, .bool false, .int .i64 0, .bool false, .int .i64 0, .string ⟨#[]⟩, .bool false, .string ⟨#[]⟩, .string ⟨#[]⟩, .int .i64 0, .bool false, .bool false, .string ⟨#[]⟩, .bool false, .string ⟨#[]⟩, .bool false, .int .i64 0, .slice none 0 0, .slice none 0 0] cs 33
  rw [show ((w.alloc o).alloc (.cells #[.int .i64 0, .int .i64 0, .bool false, .string ⟨#[]⟩, .string ⟨#[]⟩, .int .i64 0, .bool false, .int .i64 0, .bool false, .int .i64 0, .string ⟨#[]⟩, .bool false, .string ⟨#[]⟩, .string ⟨#[]⟩, .int .i64 0, .bool false, .bool false, .string ⟨#[]⟩, .bool false, .string ⟨#[]⟩, .bool false, .int .i64 0, .slice none 0 0, .slice none 0 0] 33)).heap.size = w.heap.size + 1 + 1 from by simp] at this
  exact this
theorem clean_end {w W : World} {tmps : Array Value} {P : Pk} {fs cs : Value} (hr : Blk W (w.heap.size + 1) 33 (P.v fs cs) ∧ Below w.heap.size w W) (h2 : tmps.getD 2 undef = .pointer (some ⟨w.heap.size + 1, 0, none⟩))
    (hf : FisAt W fs P.fl ∧ Fresh w.heap.size fs) (hc : IntsAt W cs P.cl ∧ Fresh w.heap.size cs) : bodyPost Tryd.prog Tryd.f14 (fun e w' => ∃ fs cs, e = .returned (.agg (P.v fs cs)) ∧ (FisAt w' fs P.fl ∧ Fresh w.heap.size fs) ∧ (IntsAt w' cs P.cl ∧ Fresh w.heap.size cs) ∧ Below w.heap.size w w') .ret { tmps := tmps, defers := [] } W := by
  have r1 := run_loadVar_row (P := Tryd.prog) W _ 33 33 (P.v fs cs) (0, 0) _ hr.1 Tryd.underlying33 rfl (by kernel_rfl)
  simp only [Array.getD_eq_getD_getElem?] at h2
  exact ⟨rfl, _, by simp [results, Tryd.f14, h2, asAddr, r1], fs, cs, rfl, hf, hc, hr.2⟩
/-- What Clean answers. -/
def ClP (P : Pk) (w : World) (e : Ending) (w' : World) : Prop := ∃ fs cs, e = .returned (.agg (P.v fs cs)) ∧ (FisAt w' fs P.fl ∧ Fresh w.heap.size fs) ∧ (IntsAt w' cs P.cl ∧ Fresh w.heap.size cs) ∧ Below w.heap.size w w'
theorem mid_rows (w : World) (o : Obj) (R : Array Value) : (((w.alloc o).alloc (.cells #[.int .i64 0, .int .i64 0, .bool false, .string ⟨#[]⟩, .string ⟨#[]⟩, .int .i64 0, .bool false, .int .i64 0, .bool false, .int .i64 0, .string ⟨#[]⟩, .bool false, .string ⟨#[]⟩, .string ⟨#[]⟩, .int .i64 0, .bool false, .bool false, .string ⟨#[]⟩, .bool false, .string ⟨#[]⟩, .bool false, .int .i64 0, .slice none 0 0, .slice none 0 0] 33)).alloc (.cells R 33)).heap[w.heap.size + 1 + 1]? = some (.cells R 33 (0, 0)) ∧ (((w.alloc o).alloc (.cells #[.int .i64 0, .int .i64 0, .bool false, .string ⟨#[]⟩, .string ⟨#[]⟩, .int .i64 0, .bool false, .int .i64 0, .bool false, .int .i64 0, .string ⟨#[]⟩, .bool false, .string ⟨#[]⟩, .string ⟨#[]⟩, .int .i64 0, .bool false, .bool false, .string ⟨#[]⟩, .bool false, .string ⟨#[]⟩, .bool false, .int .i64 0, .slice none 0 0, .slice none 0 0] 33)).alloc (.cells R 33)).heap[w.heap.size + 1]? = some (.cells #[.int .i64 0, .int .i64 0, .bool false, .string ⟨#[]⟩, .string ⟨#[]⟩, .int .i64 0, .bool false, .int .i64 0, .bool false, .int .i64 0, .string ⟨#[]⟩, .bool false, .string ⟨#[]⟩, .string ⟨#[]⟩, .int .i64 0, .bool false, .bool false, .string ⟨#[]⟩, .bool false, .string ⟨#[]⟩, .bool false, .int .i64 0, .slice none 0 0, .slice none 0 0] 33 (0, 0)) := by
  have k1 : Blk ((w.alloc o).alloc (.cells #[.int .i64 0, .int .i64 0, .bool false, .string ⟨#[]⟩, .string ⟨#[]⟩, .int .i64 0, .bool false, .int .i64 0, .bool false, .int .i64 0, .string ⟨#[]⟩, .bool false, .string ⟨#[]⟩, .string ⟨#[]⟩, .int .i64 0, .bool false, .bool false, .string ⟨#[]⟩, .bool false, .string ⟨#[]⟩, .bool false, .int .i64 0, .slice none 0 0, .slice none 0 0] 33)) (w.heap.size + 1) 33 #[.int .i64 0, .int .i64 0, .bool false, .string ⟨#[]⟩, .string ⟨#[]⟩, .int .i64 0, .bool false, .int .i64 0, .bool false, .int .i64 0, .string ⟨#[]⟩, .bool false, .string ⟨#[]⟩, .string ⟨#[]⟩, .int .i64 0, .bool false, .bool false, .string ⟨#[]⟩, .bool false, .string ⟨#[]⟩, .bool false, .int .i64 0, .slice none 0 0, .slice none 0 0] := by
    have := Blk.new (w.alloc o) 33 #[.int .i64 0, .int .i64 0, .bool false, .string ⟨#[]⟩, .string ⟨#[]⟩, .int .i64 0, .bool false, .int .i64 0, .bool false, .int .i64 0, .string ⟨#[]⟩, .bool false, .string ⟨#[]⟩, .string ⟨#[]⟩, .int .i64 0, .bool false, .bool false, .string ⟨#[]⟩, .bool false, .string ⟨#[]⟩, .bool false, .int .i64 0, .slice none 0 0, .slice none 0 0]
    simpa using this
  have k2 : Blk (((w.alloc o).alloc (.cells #[.int .i64 0, .int .i64 0, .bool false, .string ⟨#[]⟩, .string ⟨#[]⟩, .int .i64 0, .bool false, .int .i64 0, .bool false, .int .i64 0, .string ⟨#[]⟩, .bool false, .string ⟨#[]⟩, .string ⟨#[]⟩, .int .i64 0, .bool false, .bool false, .string ⟨#[]⟩, .bool false, .string ⟨#[]⟩, .bool false, .int .i64 0, .slice none 0 0, .slice none 0 0] 33)).alloc (.cells R 33)) (w.heap.size + 1 + 1) 33 R := by
    have := Blk.new ((w.alloc o).alloc (.cells #[.int .i64 0, .int .i64 0, .bool false, .string ⟨#[]⟩, .string ⟨#[]⟩, .int .i64 0, .bool false, .int .i64 0, .bool false, .int .i64 0, .string ⟨#[]⟩, .bool false, .string ⟨#[]⟩, .string ⟨#[]⟩, .int .i64 0, .bool false, .bool false, .string ⟨#[]⟩, .bool false, .string ⟨#[]⟩, .bool false, .int .i64 0, .slice none 0 0, .slice none 0 0] 33)) 33 R
    simpa using this
  exact ⟨k2, k1.alloc _⟩
theorem setRow_alloc_old (w : World) (o : Obj) (g : Nat) (cs : Array Value) (hg : g < w.heap.size) : (w.alloc o).setRow g cs = (w.setRow g cs).alloc o := by
  simp only [World.setRow, World.alloc]
  congr 1
  apply Array.ext_getElem?
  intro i
  simp only [Array.getElem?_modify, Array.getElem?_push, Array.size_modify]
  by_cases h : i = w.heap.size
  · subst h
    rw [if_neg (by omega), if_pos rfl, if_pos rfl]
  · simp only [if_neg h]
theorem mid_set (w : World) (o : Obj) (R : Array Value) : (((w.alloc o).alloc (.cells #[.int .i64 0, .int .i64 0, .bool false, .string ⟨#[]⟩, .string ⟨#[]⟩, .int .i64 0, .bool false, .int .i64 0, .bool false, .int .i64 0, .string ⟨#[]⟩, .bool false, .string ⟨#[]⟩, .string ⟨#[]⟩, .int .i64 0, .bool false, .bool false, .string ⟨#[]⟩, .bool false, .string ⟨#[]⟩, .bool false, .int .i64 0, .slice none 0 0, .slice none 0 0] 33)).alloc (.cells R 33)).setRow (w.heap.size + 1) R = ((w.alloc o).alloc (.cells R 33)).alloc (.cells R 33) := by
  rw [setRow_alloc_old _ _ _ _ (by simp)]
  have := World.setRow_alloc_new (w.alloc o) #[.int .i64 0, .int .i64 0, .bool false, .string ⟨#[]⟩, .string ⟨#[]⟩, .int .i64 0, .bool false, .int .i64 0, .bool false, .int .i64 0, .string ⟨#[]⟩, .bool false, .string ⟨#[]⟩, .string ⟨#[]⟩, .int .i64 0, .bool false, .bool false, .string ⟨#[]⟩, .bool false, .string ⟨#[]⟩, .bool false, .int .i64 0, .slice none 0 0, .slice none 0 0] R 33
  rw [show (w.alloc o).heap.size = w.heap.size + 1 from by simp] at this
  rw [this]
theorem fin_row (w : World) (o : Obj) (R : Array Value) : Blk (((w.alloc o).alloc (.cells R 33)).alloc (.cells R 33)) (w.heap.size + 1) 33 R ∧ Below w.heap.size w (((w.alloc o).alloc (.cells R 33)).alloc (.cells R 33)) := by
  have k1 : Blk ((w.alloc o).alloc (.cells R 33)) (w.heap.size + 1) 33 R := by
    have := Blk.new (w.alloc o) 33 R
    simpa using this
  exact ⟨k1.alloc _, (((Below.refl _ w).alloc (Nat.le_refl _) _).alloc (by simp) _).alloc (by simp; omega) _⟩
set_option maxRecDepth 100000 in
set_option maxHeartbeats 4000000 in
theorem clean_4 (P : Pk) (f1 c1 : Value) (w : World) (hk : P.kind = 4) : Calls Tryd.prog 14 #[.agg (P.v f1 c1)] w (ClP (pkI 4 P.id) w) := by
  obtain ⟨kind, id, dup, t, x, q, r, ⟨x0, x1, x2, x3, x4, x5, x6, x7, x8, x9, x10, x11, x12⟩, pres, code, fl, cl⟩ := P
  simp only at hk
  subst hk
  have A0 := Lib.hid (cnew_row w (.cells #[.int .i64 4, .int .i64 id, .bool dup, .string t, .string x, .int .i64 q, .bool r, .int .i64 x0, .bool x1, .int .i64 x2, .string x3, .bool x4, .string x5, .string x6, .int .i64 x7, .bool x8, .bool x9, .string x10, .bool x11, .string x12, .bool pres, .int .i64 code, f1, c1] 33))
  have A1 := Lib.hid (cnew_set w (.cells #[.int .i64 4, .int .i64 id, .bool dup, .string t, .string x, .int .i64 q, .bool r, .int .i64 x0, .bool x1, .int .i64 x2, .string x3, .bool x4, .string x5, .string x6, .int .i64 x7, .bool x8, .bool x9, .string x10, .bool x11, .string x12, .bool pres, .int .i64 code, f1, c1] 33))
  have P := Lib.hid (mid_rows w (.cells #[.int .i64 4, .int .i64 id, .bool dup, .string t, .string x, .int .i64 q, .bool r, .int .i64 x0, .bool x1, .int .i64 x2, .string x3, .bool x4, .string x5, .string x6, .int .i64 x7, .bool x8, .bool x9, .string x10, .bool x11, .string x12, .bool pres, .int .i64 code, f1, c1] 33) #[.int .i64 4, .int .i64 id, .bool false, .string ⟨#[]⟩, .string ⟨#[]⟩, .int .i64 0, .bool false, .int .i64 0, .bool false, .int .i64 0, .string ⟨#[]⟩, .bool false, .string ⟨#[]⟩, .string ⟨#[]⟩, .int .i64 0, .bool false, .bool false, .string ⟨#[]⟩, .bool false, .string ⟨#[]⟩, .bool false, .int .i64 0, .slice none 0 0, .slice none 0 0])
  have A2 := Lib.hid (mid_set w (.cells #[.int .i64 4, .int .i64 id, .bool dup, .string t, .string x, .int .i64 q, .bool r, .int .i64 x0, .bool x1, .int .i64 x2, .string x3, .bool x4, .string x5, .string x6, .int .i64 x7, .bool x8, .bool x9, .string x10, .bool x11, .string x12, .bool pres, .int .i64 code, f1, c1] 33) #[.int .i64 4, .int .i64 id, .bool false, .string ⟨#[]⟩, .string ⟨#[]⟩, .int .i64 0, .bool false, .int .i64 0, .bool false, .int .i64 0, .string ⟨#[]⟩, .bool false, .string ⟨#[]⟩, .string ⟨#[]⟩, .int .i64 0, .bool false, .bool false, .string ⟨#[]⟩, .bool false, .string ⟨#[]⟩, .bool false, .int .i64 0, .slice none 0 0, .slice none 0 0])
  rw [show Pk.v ⟨4, id, dup, t, x, q, r, ⟨x0, x1, x2, x3, x4, x5, x6, x7, x8, x9, x10, x11, x12⟩, pres, code, fl, cl⟩ f1 c1 = #[.int .i64 4, .int .i64 id, .bool dup, .string t, .string x, .int .i64 q, .bool r, .int .i64 x0, .bool x1, .int .i64 x2, .string x3, .bool x4, .string x5, .string x6, .int .i64 x7, .bool x8, .bool x9, .string x10, .bool x11, .string x12, .bool pres, .int .i64 code, f1, c1] from rfl]
  go_enter Tryd.func14, Tryd.ntmps14
  go_wp2_with (first
    | (refine wpList_store_row rfl 33 (.tmp 3) (.tmp 8) rfl (w.heap.size + 1 + 1) #[.int .i64 4, .int .i64 0, .bool false, .string ⟨#[]⟩, .string ⟨#[]⟩, .int .i64 0, .bool false, .int .i64 0, .bool false, .int .i64 0, .string ⟨#[]⟩, .bool false, .string ⟨#[]⟩, .string ⟨#[]⟩, .int .i64 0, .bool false, .bool false, .string ⟨#[]⟩, .bool false, .string ⟨#[]⟩, .bool false, .int .i64 0, .slice none 0 0, .slice none 0 0] rfl rfl 33 #[.int .i64 0, .int .i64 0, .bool false, .string ⟨#[]⟩, .string ⟨#[]⟩, .int .i64 0, .bool false, .int .i64 0, .bool false, .int .i64 0, .string ⟨#[]⟩, .bool false, .string ⟨#[]⟩, .string ⟨#[]⟩, .int .i64 0, .bool false, .bool false, .string ⟨#[]⟩, .bool false, .string ⟨#[]⟩, .bool false, .int .i64 0, .slice none 0 0, .slice none 0 0] ?_ (lit_size _) rfl (lit_one _) ?_; exact A0.out; rw [A1.out])
    | (refine wpList_load_row rfl 33 (.tmp 3) rfl (w.heap.size + 1 + 1) rfl 33 #[.int .i64 4, .int .i64 id, .bool false, .string ⟨#[]⟩, .string ⟨#[]⟩, .int .i64 0, .bool false, .int .i64 0, .bool false, .int .i64 0, .string ⟨#[]⟩, .bool false, .string ⟨#[]⟩, .string ⟨#[]⟩, .int .i64 0, .bool false, .bool false, .string ⟨#[]⟩, .bool false, .string ⟨#[]⟩, .bool false, .int .i64 0, .slice none 0 0, .slice none 0 0] (0, 0) _ ?_ Tryd.underlying33 rfl (pk_size (pkI 4 id) noS noS) ?_; exact P.out.1)
    | (refine wpList_store_row rfl 33 (.tmp 2) (.tmp 87) rfl (w.heap.size + 1) #[.int .i64 4, .int .i64 id, .bool false, .string ⟨#[]⟩, .string ⟨#[]⟩, .int .i64 0, .bool false, .int .i64 0, .bool false, .int .i64 0, .string ⟨#[]⟩, .bool false, .string ⟨#[]⟩, .string ⟨#[]⟩, .int .i64 0, .bool false, .bool false, .string ⟨#[]⟩, .bool false, .string ⟨#[]⟩, .bool false, .int .i64 0, .slice none 0 0, .slice none 0 0] rfl rfl 33 #[.int .i64 0, .int .i64 0, .bool false, .string ⟨#[]⟩, .string ⟨#[]⟩, .int .i64 0, .bool false, .int .i64 0, .bool false, .int .i64 0, .string ⟨#[]⟩, .bool false, .string ⟨#[]⟩, .string ⟨#[]⟩, .int .i64 0, .bool false, .bool false, .string ⟨#[]⟩, .bool false, .string ⟨#[]⟩, .bool false, .int .i64 0, .slice none 0 0, .slice none 0 0] ?_ (pk_size (pkI 4 id) noS noS) rfl (pk_one (pkI 4 id) noS noS rfl rfl) ?_; exact P.out.2; rw [A2.out]))
  exact clean_end (P := pkI 4 id) (fs := noS) (cs := noS) (fin_row w _ _) rfl (no_fis _ _) (no_ints _ _)
end Go.Proofs.YtmpklaokgogigaaDoor.Pac

/-
  LAYER 16: how what a kind has is laid: body, flags, the ways.
-/
namespace Go.Proofs.YtmpklaokgogigaaDoor.Pac
set_option linter.unusedVariables false
set_option linter.unusedSimpArgs false
open Go.Proofs.YtmpklaokgogigaaDoor
open Go.RowKit
set_option maxRecDepth 100000 in
set_option maxHeartbeats 4000000 in
theorem body_4 (P : Pk) (f c : Value) (w : World) (hk : P.kind = 4) : Calls Tryd.prog 22 #[.agg (P.v f c)] w fun e w' => e = .returned (.func (.func 48) #[.agg (P.v f c)] #[]) ∧ Below w.heap.size w w' := by
  have K := Lib.hid (Blk.new w 61 (P.v f c))
  have c0 : (w.alloc (.cells (P.v f c) 61)).cell? ⟨w.heap.size, 0, none⟩ = some (.int .i64 4) := by rw [K.out.cell, ← hk]; rfl
  have sz : Hid ((Tryd.prog.info? 61).map (·.size) = some (P.v f c).size) := Lib.hid (by kernel_rfl)
  generalize P.v f c = cs at *
  clear hk
  go_enter Tryd.func22, Tryd.ntmps22
  go_wp2_with (refine wpList_load_row rfl 61 (.tmp 1) rfl w.heap.size rfl 61 cs (0, 0) _ K.out Tryd.underlying61 rfl sz.out ?_)
  go_ret
  exact ⟨rfl, (Below.refl _ _).alloc (Nat.le_refl _) _⟩
set_option maxRecDepth 100000 in
set_option maxHeartbeats 4000000 in
theorem flags_4 (P : Pk) (f c : Value) (w : World) (hk : P.kind = 4) : Calls Tryd.prog 23 #[.agg (P.v f c)] w fun e w' => e = .returned (.int .i64 0) ∧ Below w.heap.size w w' := by
  have K := Lib.hid (Blk.new w 61 (P.v f c))
  have c0 : (w.alloc (.cells (P.v f c) 61)).cell? ⟨w.heap.size, 0, none⟩ = some (.int .i64 4) := by rw [K.out.cell, ← hk]; rfl
  generalize P.v f c = cs at *
  clear hk
  go_enter Tryd.func23, Tryd.ntmps23
  go_wp2
  go_ret
  exact ⟨rfl, (Below.refl _ _).alloc (Nat.le_refl _) _⟩
end Go.Proofs.YtmpklaokgogigaaDoor.Pac

/-
  LAYER 16: Put, the program's.
-/
namespace Go.Proofs.YtmpklaokgogigaaDoor.Pac
set_option linter.unusedVariables false
set_option linter.unusedSimpArgs false
open Go.Proofs.YtmpklaokgogigaaDoor
open Go.RowKit
theorem head_ok (k f n : Nat) (w : World) (ht : Hea.Tab3 w) (hR : Hea.RightF k f = 0) (hn : n ≤ 4096) : Calls Tryd.prog 24 #[.agg #[.int .i64 k, .int .i64 f, .int .i64 n]] w (Hea.PPost w.heap.size (Hea.putB k f n) w) := by
  by_cases h : n < 128
  · exact Hea.put_one k f n w ht hR h
  · exact Hea.put_two k f n w ht hR (by omega) hn
theorem putB_len (k f n : Nat) : (Hea.putB k f n).length ≤ 3 := by unfold Hea.putB; split <;> simp
set_option maxRecDepth 100000 in
set_option maxHeartbeats 8000000 in
theorem put16_err_48 (P Q : Pk) (f1 c1 : Value) (fl : Int) (w : World) (ht : Hea.Tab3 w)
    (hC : ∀ w, Calls Tryd.prog 14 #[.agg (P.v f1 c1)] w (ClP Q w))
    (hB : ∀ f c w, Calls Tryd.prog 22 #[.agg (Q.v f c)] w fun e w' => e = .returned (.func (.func 48) #[.agg (Q.v f c)] #[]) ∧ Below w.heap.size w w')
    (hF : ∀ f c w, Calls Tryd.prog 23 #[.agg (Q.v f c)] w fun e w' => e = .returned (.int .i64 fl) ∧ Below w.heap.size w w')
    (h0 : 0 ≤ fl) (l : List Nat) (m : Int) (hW : ∀ f c w, FisAt w f Q.fl → IntsAt w c Q.cl → Calls Tryd.prog 48 #[.agg (Q.v f c)] w (Pub.Numb l m w)) (hm : m ≠ 0) :
    Calls Tryd.prog 13 #[.agg (P.v f1 c1)] w (Pub.Numb [] m w) := by
  have NE : ∀ (cs : Array Value) (W : World), (binOp .eql 62 (.func (.func 48) #[.agg cs] #[]) .nilFunc).run Tryd.prog W = .ok (.bool false) W := fun _ _ => rfl
  have FL : decide (fl < 0) = false := by simp; omega
  replace h0 := Lib.hid h0
  replace hW := Lib.hid hW
  have K := Lib.hid (Blk.new w 33 (P.v f1 c1))
  have sz0 : Hid ((Tryd.prog.info? 33).map (·.size) = some (P.v f1 c1).size) := Lib.hid (pk_size _ _ _)
  replace hC := Lib.hid hC
  replace hB := Lib.hid hB
  replace hF := Lib.hid hF
  generalize P.v f1 c1 = xs at *
  go_enter Tryd.func13, Tryd.ntmps13
  go_wp2_with (refine wpList_load_row rfl 33 (.tmp 1) rfl w.heap.size rfl 33 xs (0, 0) _ K.out Tryd.underlying33 rfl sz0.out ?_)
  refine (hC.out _).mono ?_
  rintro e w2 ⟨fs, cs', rfl, ⟨hfs, -⟩, ⟨hcs, -⟩, b2⟩
  have hB' := Lib.hid (hB.out fs cs')
  have hF' := Lib.hid (hF.out fs cs')
  have one : Hid ((Q.v fs cs').all (·.oneCell') = true) := Lib.hid (pk_one _ _ _ (fis_one hfs) (ints_one hcs))
  have sz : Hid ((Tryd.prog.info? 61).map (·.size) = some (Q.v fs cs').size) := Lib.hid (by kernel_rfl)
  have hz : Hid ((#[.int .i64 0, .int .i64 0, .bool false, .string ⟨#[]⟩, .string ⟨#[]⟩, .int .i64 0, .bool false, .int .i64 0, .bool false, .int .i64 0, .string ⟨#[]⟩, .bool false, .string ⟨#[]⟩, .string ⟨#[]⟩, .int .i64 0, .bool false, .bool false, .string ⟨#[]⟩, .bool false, .string ⟨#[]⟩, .bool false, .int .i64 0, .slice none 0 0, .slice none 0 0] : Array Value).size = (Q.v fs cs').size) := Lib.hid rfl
  generalize hcs0 : Q.v fs cs' = cs at *
  have A2 := Lib.hid (heap_alloc_new w2 (.cells #[.int .i64 0, .int .i64 0, .bool false, .string ⟨#[]⟩, .string ⟨#[]⟩, .int .i64 0, .bool false, .int .i64 0, .bool false, .int .i64 0, .string ⟨#[]⟩, .bool false, .string ⟨#[]⟩, .string ⟨#[]⟩, .int .i64 0, .bool false, .bool false, .string ⟨#[]⟩, .bool false, .string ⟨#[]⟩, .bool false, .int .i64 0, .slice none 0 0, .slice none 0 0] 61))
  have A3 := Lib.hid (World.setRow_alloc_new w2 #[.int .i64 0, .int .i64 0, .bool false, .string ⟨#[]⟩, .string ⟨#[]⟩, .int .i64 0, .bool false, .int .i64 0, .bool false, .int .i64 0, .string ⟨#[]⟩, .bool false, .string ⟨#[]⟩, .string ⟨#[]⟩, .int .i64 0, .bool false, .bool false, .string ⟨#[]⟩, .bool false, .string ⟨#[]⟩, .bool false, .int .i64 0, .slice none 0 0, .slice none 0 0] cs 61)
  have R4 := Lib.hid (Blk.new w2 61 cs)
  clear hB hF hC
  replace hcs0 := Lib.hid hcs0
  go_wp2_with (refine wpList_store_row rfl 61 (.tmp 4) (.tmp 11) rfl w2.heap.size cs rfl rfl 61 #[.int .i64 0, .int .i64 0, .bool false, .string ⟨#[]⟩, .string ⟨#[]⟩, .int .i64 0, .bool false, .int .i64 0, .bool false, .int .i64 0, .string ⟨#[]⟩, .bool false, .string ⟨#[]⟩, .string ⟨#[]⟩, .int .i64 0, .bool false, .bool false, .string ⟨#[]⟩, .bool false, .string ⟨#[]⟩, .bool false, .int .i64 0, .slice none 0 0, .slice none 0 0] A2.out sz.out hz.out one.out ?_; rw [A3.out])
  have KS : Hid (∀ W, Below (w2.alloc (.cells cs 61)).heap.size (w2.alloc (.cells cs 61)) W → W.rangeAt w2.heap.size 0 cs.toList) := Lib.hid fun W hW j u hj => by
    have := (R4.out.ext hW).cell j
    rw [Nat.zero_add, this]
    simpa using hj
  have B4 := Lib.hid (((Below.refl _ w).alloc (Nat.le_refl _) (.cells xs 33)).trans (b2.mono (by simp)))
  have hT4 := Lib.hid ((ht.keep B4.out).keep ((Below.refl _ w2).alloc (Nat.le_refl _) (.cells cs 61)))
  have B5 := Lib.hid (B4.out.trans (((Below.refl _ w2).alloc (Nat.le_refl _) (.cells cs 61)).mono B4.out.size))
  have bq := ((Below.refl _ w2).alloc (Nat.le_refl _) (.cells cs 61))
  have F4 := Lib.hid (And.intro (hfs.keep bq (Nat.le_refl _)) (hcs.keep bq (Nat.le_refl _)))
  have hW' := Lib.hid (hW.out fs cs')
  rw [hcs0.out] at hW'
  clear ht b2 hfs hcs A2 A3 B4 bq hW
  generalize w2.alloc (.cells cs 61) = W4 at *
  generalize w2.heap.size = bt at *
  refine wp_region_held_drew (S := fun W => W.rangeAt bt 0 cs.toList) (by kernel_rfl) (KS.out _ (ext_drew _)) (fun hHeld => ?_)
  refine wpAnyH_take (i := 0) (oi := _) (v := .agg cs) rfl (by kernel_rfl) (by kernel_rfl) (by kernel_rfl) (fun _ _ _ h => h) (yieldsIf_load_mid (by rfl) 61 _ rfl bt 0 (by rfl) cs.toList _ (fun w hSw => hSw) Tryd.underlying61 rfl sz.out) (by assumption) ?zr0
  try simp only [Act.put, List.setIfInBounds_toArray, List.set_cons_zero, List.set_cons_succ]
  refine wpAnyH_take (i := 2) (oi := _) (v := .agg cs) rfl (by kernel_rfl) (by kernel_rfl) (by kernel_rfl) (fun _ _ _ h => h) (yieldsIf_load_mid (by rfl) 61 _ rfl bt 0 (by rfl) cs.toList _ (fun w hSw => hSw) Tryd.underlying61 rfl sz.out) (by assumption) ?zr2
  try simp only [Act.put, List.setIfInBounds_toArray, List.set_cons_zero, List.set_cons_succ]
  refine wpAnyH_ready (rs := [1]) (by kernel_rfl) (by simp) ?_
  refine AllReadyH.cons (o := _) rfl (fun K hK => ?_) AllReadyH.nil
  go_simp
  refine (hB'.out _).mono ?_
  rintro e w5 ⟨rfl, b5⟩
  go_wp2_with fail
  refine hK _ _ (KS.out _ (ext_trans (ext_drew _) b5)) (fun hHeld2 => ?_)
  have HB5 := Lib.hid (ext_trans (ext_drew _) b5)
  clear hK K b5
  try simp only [Act.put, List.setIfInBounds_toArray, List.set_cons_zero, List.set_cons_succ]
  refine wpAnyH_ready (rs := [3]) (by kernel_rfl) (by simp) ?_
  refine AllReadyH.cons (o := _) rfl (fun K hK => ?_) AllReadyH.nil
  go_simp
  refine (hF'.out _).mono ?_
  rintro e w6 ⟨rfl, b6⟩
  go_wp2_with fail
  refine hK _ _ (KS.out _ (ext_trans HB5.out b6)) (fun hHeld3 => ?_)
  have HB6 := Lib.hid (ext_trans HB5.out b6)
  clear hK K b6
  try simp only [Act.put, List.setIfInBounds_toArray, List.set_cons_zero, List.set_cons_succ]
  refine wpAnyH_take (i := 4) (oi := _) (v := ?zv4) rfl (by kernel_rfl) (by kernel_rfl) (by kernel_rfl) (fun _ _ _ h => h) (Or.inl ⟨by rfl, ?zy4⟩) (by assumption) ?zr4
  case zy4 => (intro w hSw; go_simp <;> with_reducible rfl)
  try simp only [Act.put, List.setIfInBounds_toArray, List.set_cons_zero, List.set_cons_succ]
  refine wpAnyH_take (i := 5) (oi := _) (v := ?zv5) rfl (by kernel_rfl) (by kernel_rfl) (by kernel_rfl) (fun _ _ _ h => h) (Or.inl ⟨by rfl, ?zy5⟩) (by assumption) ?zr5
  case zy5 => (intro w hSw; go_simp <;> with_reducible rfl)
  try simp only [Act.put, List.setIfInBounds_toArray, List.set_cons_zero, List.set_cons_succ]
  refine wpAnyH_done (by kernel_rfl) ?_ _
  clear hHeld hHeld2 hHeld3
  go_wp2_with fail
  refine (hW'.out _ (F4.out.1.keep HB6.out (Nat.le_refl _)) (F4.out.2.keep HB6.out (Nat.le_refl _))).mono ?_
  rintro e w7 ⟨v, rfl, hv, b7⟩
  have hm' : (m != 0) = true := by simpa using hm
  replace hm := Lib.hid hm
  have B7 := Lib.hid (B5.out.trans ((ext_trans HB6.out b7).mono B5.out.size))
  clear b7
  go_wp2_with fail
  refine bodyPost_ret (v := .tuple #[.slice none 0 0, .int .i64 m]) (by simp [results, Tryd.results13, go_sem]) rfl ⟨_, rfl, bytes_nil _, B7.out⟩
set_option maxRecDepth 100000 in
set_option maxHeartbeats 8000000 in
theorem put16_ok_48 (P Q : Pk) (f1 c1 : Value) (fl : Int) (w : World) (ht : Hea.Tab3 w)
    (hC : ∀ w, Calls Tryd.prog 14 #[.agg (P.v f1 c1)] w (ClP Q w))
    (hB : ∀ f c w, Calls Tryd.prog 22 #[.agg (Q.v f c)] w fun e w' => e = .returned (.func (.func 48) #[.agg (Q.v f c)] #[]) ∧ Below w.heap.size w w')
    (hF : ∀ f c w, Calls Tryd.prog 23 #[.agg (Q.v f c)] w fun e w' => e = .returned (.int .i64 fl) ∧ Below w.heap.size w w')
    (h0 : 0 ≤ fl) (l : List Nat) (m : Int) (hW : ∀ f c w, FisAt w f Q.fl → IntsAt w c Q.cl → Calls Tryd.prog 48 #[.agg (Q.v f c)] w (Pub.Numb l m w)) (hm : m = 0) (k f : Nat) (hk : Q.kind = k) (hf : fl = f) (h256 : ∀ x ∈ l, x < 256) (hR : Hea.RightF k f = 0) (hl : l.length ≤ 4096) :
    Calls Tryd.prog 13 #[.agg (P.v f1 c1)] w (Pub.Numb (Hea.putB k f l.length ++ l) 0 w) := by
  have NE : ∀ (cs : Array Value) (W : World), (binOp .eql 62 (.func (.func 48) #[.agg cs] #[]) .nilFunc).run Tryd.prog W = .ok (.bool false) W := fun _ _ => rfl
  have FL : decide (fl < 0) = false := by simp; omega
  replace h0 := Lib.hid h0
  replace hW := Lib.hid hW
  have K := Lib.hid (Blk.new w 33 (P.v f1 c1))
  have sz0 : Hid ((Tryd.prog.info? 33).map (·.size) = some (P.v f1 c1).size) := Lib.hid (pk_size _ _ _)
  replace hC := Lib.hid hC
  replace hB := Lib.hid hB
  replace hF := Lib.hid hF
  generalize P.v f1 c1 = xs at *
  go_enter Tryd.func13, Tryd.ntmps13
  go_wp2_with (refine wpList_load_row rfl 33 (.tmp 1) rfl w.heap.size rfl 33 xs (0, 0) _ K.out Tryd.underlying33 rfl sz0.out ?_)
  refine (hC.out _).mono ?_
  rintro e w2 ⟨fs, cs', rfl, ⟨hfs, -⟩, ⟨hcs, -⟩, b2⟩
  have hB' := Lib.hid (hB.out fs cs')
  have hF' := Lib.hid (hF.out fs cs')
  have one : Hid ((Q.v fs cs').all (·.oneCell') = true) := Lib.hid (pk_one _ _ _ (fis_one hfs) (ints_one hcs))
  have sz : Hid ((Tryd.prog.info? 61).map (·.size) = some (Q.v fs cs').size) := Lib.hid (by kernel_rfl)
  have hz : Hid ((#[.int .i64 0, .int .i64 0, .bool false, .string ⟨#[]⟩, .string ⟨#[]⟩, .int .i64 0, .bool false, .int .i64 0, .bool false, .int .i64 0, .string ⟨#[]⟩, .bool false, .string ⟨#[]⟩, .string ⟨#[]⟩, .int .i64 0, .bool false, .bool false, .string ⟨#[]⟩, .bool false, .string ⟨#[]⟩, .bool false, .int .i64 0, .slice none 0 0, .slice none 0 0] : Array Value).size = (Q.v fs cs').size) := Lib.hid rfl
  generalize hcs0 : Q.v fs cs' = cs at *
  have A2 := Lib.hid (heap_alloc_new w2 (.cells #[.int .i64 0, .int .i64 0, .bool false, .string ⟨#[]⟩, .string ⟨#[]⟩, .int .i64 0, .bool false, .int .i64 0, .bool false, .int .i64 0, .string ⟨#[]⟩, .bool false, .string ⟨#[]⟩, .string ⟨#[]⟩, .int .i64 0, .bool false, .bool false, .string ⟨#[]⟩, .bool false, .string ⟨#[]⟩, .bool false, .int .i64 0, .slice none 0 0, .slice none 0 0] 61))
  have A3 := Lib.hid (World.setRow_alloc_new w2 #[.int .i64 0, .int .i64 0, .bool false, .string ⟨#[]⟩, .string ⟨#[]⟩, .int .i64 0, .bool false, .int .i64 0, .bool false, .int .i64 0, .string ⟨#[]⟩, .bool false, .string ⟨#[]⟩, .string ⟨#[]⟩, .int .i64 0, .bool false, .bool false, .string ⟨#[]⟩, .bool false, .string ⟨#[]⟩, .bool false, .int .i64 0, .slice none 0 0, .slice none 0 0] cs 61)
  have R4 := Lib.hid (Blk.new w2 61 cs)
  clear hB hF hC
  replace hcs0 := Lib.hid hcs0
  go_wp2_with (refine wpList_store_row rfl 61 (.tmp 4) (.tmp 11) rfl w2.heap.size cs rfl rfl 61 #[.int .i64 0, .int .i64 0, .bool false, .string ⟨#[]⟩, .string ⟨#[]⟩, .int .i64 0, .bool false, .int .i64 0, .bool false, .int .i64 0, .string ⟨#[]⟩, .bool false, .string ⟨#[]⟩, .string ⟨#[]⟩, .int .i64 0, .bool false, .bool false, .string ⟨#[]⟩, .bool false, .string ⟨#[]⟩, .bool false, .int .i64 0, .slice none 0 0, .slice none 0 0] A2.out sz.out hz.out one.out ?_; rw [A3.out])
  have KS : Hid (∀ W, Below (w2.alloc (.cells cs 61)).heap.size (w2.alloc (.cells cs 61)) W → W.rangeAt w2.heap.size 0 cs.toList) := Lib.hid fun W hW j u hj => by
    have := (R4.out.ext hW).cell j
    rw [Nat.zero_add, this]
    simpa using hj
  have B4 := Lib.hid (((Below.refl _ w).alloc (Nat.le_refl _) (.cells xs 33)).trans (b2.mono (by simp)))
  have hT4 := Lib.hid ((ht.keep B4.out).keep ((Below.refl _ w2).alloc (Nat.le_refl _) (.cells cs 61)))
  have B5 := Lib.hid (B4.out.trans (((Below.refl _ w2).alloc (Nat.le_refl _) (.cells cs 61)).mono B4.out.size))
  have bq := ((Below.refl _ w2).alloc (Nat.le_refl _) (.cells cs 61))
  have F4 := Lib.hid (And.intro (hfs.keep bq (Nat.le_refl _)) (hcs.keep bq (Nat.le_refl _)))
  have hW' := Lib.hid (hW.out fs cs')
  rw [hcs0.out] at hW'
  clear ht b2 hfs hcs A2 A3 B4 bq hW
  generalize w2.alloc (.cells cs 61) = W4 at *
  generalize w2.heap.size = bt at *
  refine wp_region_held_drew (S := fun W => W.rangeAt bt 0 cs.toList) (by kernel_rfl) (KS.out _ (ext_drew _)) (fun hHeld => ?_)
  refine wpAnyH_take (i := 0) (oi := _) (v := .agg cs) rfl (by kernel_rfl) (by kernel_rfl) (by kernel_rfl) (fun _ _ _ h => h) (yieldsIf_load_mid (by rfl) 61 _ rfl bt 0 (by rfl) cs.toList _ (fun w hSw => hSw) Tryd.underlying61 rfl sz.out) (by assumption) ?zr0
  try simp only [Act.put, List.setIfInBounds_toArray, List.set_cons_zero, List.set_cons_succ]
  refine wpAnyH_take (i := 2) (oi := _) (v := .agg cs) rfl (by kernel_rfl) (by kernel_rfl) (by kernel_rfl) (fun _ _ _ h => h) (yieldsIf_load_mid (by rfl) 61 _ rfl bt 0 (by rfl) cs.toList _ (fun w hSw => hSw) Tryd.underlying61 rfl sz.out) (by assumption) ?zr2
  try simp only [Act.put, List.setIfInBounds_toArray, List.set_cons_zero, List.set_cons_succ]
  refine wpAnyH_ready (rs := [1]) (by kernel_rfl) (by simp) ?_
  refine AllReadyH.cons (o := _) rfl (fun K hK => ?_) AllReadyH.nil
  go_simp
  refine (hB'.out _).mono ?_
  rintro e w5 ⟨rfl, b5⟩
  go_wp2_with fail
  refine hK _ _ (KS.out _ (ext_trans (ext_drew _) b5)) (fun hHeld2 => ?_)
  have HB5 := Lib.hid (ext_trans (ext_drew _) b5)
  clear hK K b5
  try simp only [Act.put, List.setIfInBounds_toArray, List.set_cons_zero, List.set_cons_succ]
  refine wpAnyH_ready (rs := [3]) (by kernel_rfl) (by simp) ?_
  refine AllReadyH.cons (o := _) rfl (fun K hK => ?_) AllReadyH.nil
  go_simp
  refine (hF'.out _).mono ?_
  rintro e w6 ⟨rfl, b6⟩
  go_wp2_with fail
  refine hK _ _ (KS.out _ (ext_trans HB5.out b6)) (fun hHeld3 => ?_)
  have HB6 := Lib.hid (ext_trans HB5.out b6)
  clear hK K b6
  try simp only [Act.put, List.setIfInBounds_toArray, List.set_cons_zero, List.set_cons_succ]
  refine wpAnyH_take (i := 4) (oi := _) (v := ?zv4) rfl (by kernel_rfl) (by kernel_rfl) (by kernel_rfl) (fun _ _ _ h => h) (Or.inl ⟨by rfl, ?zy4⟩) (by assumption) ?zr4
  case zy4 => (intro w hSw; go_simp <;> with_reducible rfl)
  try simp only [Act.put, List.setIfInBounds_toArray, List.set_cons_zero, List.set_cons_succ]
  refine wpAnyH_take (i := 5) (oi := _) (v := ?zv5) rfl (by kernel_rfl) (by kernel_rfl) (by kernel_rfl) (fun _ _ _ h => h) (Or.inl ⟨by rfl, ?zy5⟩) (by assumption) ?zr5
  case zy5 => (intro w hSw; go_simp <;> with_reducible rfl)
  try simp only [Act.put, List.setIfInBounds_toArray, List.set_cons_zero, List.set_cons_succ]
  refine wpAnyH_done (by kernel_rfl) ?_ _
  clear hHeld hHeld2 hHeld3
  go_wp2_with fail
  refine (hW'.out _ (F4.out.1.keep HB6.out (Nat.le_refl _)) (F4.out.2.keep HB6.out (Nat.le_refl _))).mono ?_
  rintro e w7 ⟨v, rfl, hv, b7⟩
  subst hm hf
  have H := Lib.hid (fun W hT => head_ok k f l.length W hT hR hl)
  have C0 : w7.cell? ⟨bt, 0, none⟩ = some (.int .i64 k) := by
    have := (R4.out.ext (ext_trans HB6.out b7)).cell 0
    rw [this, ← hcs0.out, ← hk]
    rfl
  have T7 := Lib.hid (hT4.out.keep (ext_trans HB6.out b7))
  have B7 := Lib.hid (B5.out.trans ((ext_trans HB6.out b7).mono B5.out.size))
  have HV := Lib.hid hv
  obtain ⟨i0, hi, hz0, hz1, hz2⟩ := info_parts Hea.info5
  have hl' : (l.length : Int) ≤ 4096 := by omega
  have hpl := putB_len k f l.length
  replace hl := Lib.hid hl
  replace hk := Lib.hid hk
  obtain ⟨va, vc, rfl, -, -⟩ := hv
  replace b7 := Lib.hid b7
  generalize hp0 : Hea.putB k f l.length = hp at *
  clear hR h256
  go_wp2_with fail
  refine (H.out _ T7.out).mono ?_
  rintro e w8 ⟨v8, rfl, o8, b8⟩
  have HV8 := Lib.hid (HV.out.keep b8 (Nat.le_refl _))
  replace o8 := Lib.hid o8
  replace b8 := Lib.hid b8
  have hlN := hl.out
  go_wp2_with (at_builtin; refine wpList_append_bytes _ rfl (.tmp 41) (.tmp 42) 48 rfl w7.heap.size 5 i0 Tryd.underlying48 hi hz0 hz1 hz2 v8 hp l rfl o8.out HV8.out (by omega) b8.out.size ?_; intro v9 w9 o9 g9 n9; have b9 := Lib.hid (grown_ext o8.out g9 b8.out.size); replace o9 := Lib.hid o9; clear g9 n9)
  refine bodyPost_ret (v := .tuple #[v9, .int .i64 0]) (by simp [results, Tryd.results13, go_sem]) rfl ⟨_, rfl, BytesAt.of_own o9.out, B7.out.trans ((b8.out.trans b9.out).mono B7.out.size)⟩
end Go.Proofs.YtmpklaokgogigaaDoor.Pac

/-
  LAYER 16: awake.
-/
namespace Go.Proofs.YtmpklaokgogigaaDoor.Pac
set_option linter.unusedVariables false
set_option linter.unusedSimpArgs false
open Go.Proofs.YtmpklaokgogigaaDoor
open Go.RowKit
set_option maxRecDepth 100000 in
set_option maxHeartbeats 8000000 in
theorem way_id (Q : Pk) (f c : Value) (w : World) (l : List Nat) (m : Int) (h : ∀ W, Calls Tryd.prog 78 #[.int .i64 Q.id] W (Pub.Numb l m W)) : Calls Tryd.prog 48 #[.agg (Q.v f c)] w (Pub.Numb l m w) := by
  have K := Lib.hid (Blk.new w 61 (Q.v f c))
  have c1 : (w.alloc (.cells (Q.v f c) 61)).cell? ⟨w.heap.size, 1, none⟩ = some (.int .i64 Q.id) := by rw [K.out.cell]; rfl
  replace h := Lib.hid h
  generalize Q.v f c = cs at *
  generalize Q.id = i at *
  go_enter Tryd.func48, Tryd.ntmps48
  go_wp2_with fail
  refine (h.out _).mono ?_
  rintro e w1 ⟨v, rfl, hv, b⟩
  go_wp2_with fail
  refine bodyPost_ret (v := .tuple #[v, .int .i64 m]) (by simp [results, Tryd.results48, go_sem]) rfl ⟨v, rfl, hv, ext_trans (ext_alloc _ _) b⟩
theorem pid_numb (W : World) : Calls Tryd.prog 78 #[.int .i64 5] W (Pub.Numb [0, 5] 0 W) := (Pub.pid_5 W).mono fun e w' ⟨he, hb, hw⟩ => ⟨_, he, hb, hw⟩
theorem put_ack5 (w : World) (ht : Hea.Tab3 w) : Calls Tryd.prog 13 #[.agg ((pkI 4 5).v noS noS)] w (Pub.Numb [64, 2, 0, 5] 0 w) :=
  put16_ok_48 (pkI 4 5) (pkI 4 5) noS noS 0 w ht (fun w => clean_4 (pkI 4 5) noS noS w rfl) (fun f c w => body_4 (pkI 4 5) f c w rfl) (fun f c w => flags_4 (pkI 4 5) f c w rfl) (Int.le_refl _) [0, 5] 0
    (fun f c w _ _ => way_id (pkI 4 5) f c w _ _ pid_numb) rfl 4 0 rfl rfl (by decide) (by decide) (by decide)
set_option maxRecDepth 100000 in
theorem awake16_any (w : World) (ht : Hea.Tab3 w) : Calls Tryd.prog 10 #[] w (YesW w) := by
  have P := Lib.hid (put_ack5 w ht)
  go_enter Tryd.func10, Tryd.ntmps10
  go_wp2_with fail
  refine (P.out).mono ?_
  rintro e w1 ⟨v, rfl, hv, b⟩
  have kc := hv.conv (P := Tryd.prog) Tryd.underlying48 Tryd.underlying5 Tryd.underlying9
  have hs : strB [64, 2, 0, 5] = ⟨#[64, 2, 0, 5]⟩ := by decide +kernel
  rw [hs] at kc
  obtain ⟨x, n, rfl, -, -⟩ := hv
  simp only [List.length_cons, List.length_nil, Nat.reduceAdd, Nat.zero_add] at kc
  clear hs
  go_wp2_with fail
  go_ret
  exact ⟨rfl, b⟩
end Go.Proofs.YtmpklaokgogigaaDoor.Pac
