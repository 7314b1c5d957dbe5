/-
  LAYER 11: there and back.
-/
import Derived.Test.YtaannopaipjcoaaDoorRg
import Derived.Test.YtaannopaipjcoaaDoorApp
namespace Go.Proofs.YtaannopaipjcoaaDoor
open Go.RowKit

theorem grown_ext {B : Nat} {w w' : World} {v : Value} {n : Nat} {xs : List Value} {e : TypeId} (hown : w.ownsRow B e 1 v n xs) (hg : w.grownBy w' v.ownBlock) (hB : B ≤ w.heap.size) : Below B w w' :=
  (Below.refl _ _).grown hg hB (fun k hk => (hown.lt k hk).1)
theorem own_form {w : World} {B e n : Nat} {v : Value} {xs : List Value} (h : w.ownsRow B e 1 v (n + 1) xs) : ∃ g cap, v = .slice (some ⟨g, 0, none⟩) (n + 1) cap := by
  rcases h.2 with ⟨_, h0⟩ | ⟨g, cap, _, rfl, _⟩
  · omega
  · exact ⟨g, cap, rfl⟩

theorem BytesAt.take {w : World} {g n cp : Nat} {p : List Nat} (h : BytesAt w (.slice (some ⟨g, 0, none⟩) n cp) p) (m : Nat) (hm : m ≤ p.length) : BytesAt w (.slice (some ⟨g, 0, none⟩) m cp) (p.take m) := by
  obtain ⟨a, cap, hv, ⟨h1, h2⟩, hc⟩ := h
  simp only [Value.slice.injEq] at hv
  obtain ⟨rfl, rfl, rfl⟩ := hv
  have hl : (p.take m).length = m := by rw [List.length_take]; omega
  refine ⟨some ⟨g, 0, none⟩, cp, by rw [hl], ⟨by omega, h2⟩, ?_⟩
  rcases hc with rfl | ⟨b, o, hbo, hlt, hcell⟩
  · exact .inl (by simp)
  · simp only [Option.some.injEq, Addr.mk.injEq, and_true] at hbo
    obtain ⟨rfl, rfl⟩ := hbo
    refine .inr ⟨g, 0, rfl, hlt, fun i hi => ?_⟩
    rw [hl] at hi
    rw [hcell i (by omega)]
    simp [List.getD, List.getElem?_take, hi]
set_option maxHeartbeats 2000000 in
set_option maxRecDepth 100000 in
theorem back_ok (K F n : Nat) (s1 s2 : Value) (la lb : List Nat) (ct : Int) (w : World) (ht : Tab3 w) (hE : RightF K F = 0) (hn : n ≤ 4096) (hA : BytesAt w s1 la) (hB : BytesAt w s2 lb) (ha : la.length ≤ 8388608) (hb : lb.length ≤ 8388608) (h1 : ∀ x ∈ la, x < 256) (h2 : ∀ x ∈ lb, x < 256) (c0 : 0 ≤ ct) (c1 : ct ≤ 255) :
    Calls Tryd.prog 5 #[.agg #[.int .i64 K, .int .i64 F, .int .i64 n], s1, s2, .int .u8 ct] w (Yes w) := by
  obtain ⟨i0, hi, hz0, hz1, hz2⟩ := info_parts info5
  obtain ⟨a1, cap1, e1, _, _⟩ := id hA
  subst e1
  obtain ⟨q1, q2, q3, q4⟩ := right_zero hE
  have P : Calls Tryd.prog 7 #[.agg #[.int .i64 K, .int .i64 F, .int .i64 n]] (w.alloc (.cells #[.int .i64 K, .int .i64 F, .int .i64 n] 23)) (PPost (w.alloc (.cells #[.int .i64 K, .int .i64 F, .int .i64 n] 23)).heap.size (putB K F n) (w.alloc (.cells #[.int .i64 K, .int .i64 F, .int .i64 n] 23))) := by
    rcases Nat.lt_or_ge n 128 with h | h
    · exact put_one K F n _ (ht.keep (ext_alloc _ _)) hE h
    · exact put_two K F n _ (ht.keep (ext_alloc _ _)) hE h hn
  have hlen := putB_length K F n
  have hplt := putB_lt K F n (by omega) (by omega) hn
  have hV1 := getV_mid la lb K F n hE hn
  have hV2 := fun m => getV_cut K F n m hE
  obtain ⟨p, hp⟩ : ∃ p, p = putB K F n := ⟨_, rfl⟩
  rw [← hp] at P hplt hV1 hlen
  have hV2' : ∀ m, m < p.length → getV (p.take m) 0 = HV 0 0 0 0 2 := fun m hm => by rw [hp] at hm ⊢; exact hV2 m hm
  have hp23 : p.length = 2 ∨ p.length = 3 := by rw [hlen]; split <;> omega
  have PH := Lib.hid P
  have HV1 := Lib.hid hV1
  have HV2 := Lib.hid hV2'
  have HT := Lib.hid ht
  have HPL := Lib.hid hplt
  have HA := Lib.hid hA
  have HB := Lib.hid hB
  have H1 := Lib.hid h1
  have H2 := Lib.hid h2
  clear P hV1 hV2 hV2' hp ht hE hplt hA hB h1 h2 hlen
  go_enter Tryd.func5, Tryd.ntmps5
  go_wp2_with fail
  refine PH.out.mono ?_
  rintro e w1 ⟨v, rfl, hown, hb1⟩
  have b1 : Below w.heap.size w w1 := ext_trans (ext_alloc w _) hb1
  have c00 : w1.cell? ⟨w.heap.size, 0, none⟩ = some (.int .i64 K) := by rw [hb1.cell (by simp), World.cell?_alloc_at _ _ _ _ rfl]; rfl
  have c01 : w1.cell? ⟨w.heap.size, 1, none⟩ = some (.int .i64 F) := by rw [hb1.cell (by simp), World.cell?_alloc_at _ _ _ _ rfl]; rfl
  have c02 : w1.cell? ⟨w.heap.size, 2, none⟩ = some (.int .i64 n) := by rw [hb1.cell (by simp), World.cell?_alloc_at _ _ _ _ rfl]; rfl
  obtain ⟨m, hm⟩ : ∃ m, p.length = m + 1 := ⟨p.length - 1, by omega⟩
  have hown' := hown
  rw [hm] at hown'
  obtain ⟨g, cp, rfl⟩ := own_form hown'
  clear hown'
  have hbl1 : w.heap.size < w1.heap.size := by have := hb1.size; simp at this; omega
  have hP := BytesAt.of_own hown
  have HP := Lib.hid hP
  have B1 := Lib.hid b1
  have hA1 := (HA.out.keep b1 (Nat.le_refl _)).keep (ext_alloc w1 (.cells #[] 5)) (Nat.le_refl _)
  have hown0 : (w1.alloc (.cells #[] 5)).ownsRow w1.heap.size 5 1 (.slice (some ⟨w1.heap.size, 0, none⟩) 0 0) ([] : List Nat).length (bl []) := World.ownsRow_lit w1 #[] 0 (Nat.le_refl _) (by unfold maxLen; omega) rfl
  clear hown hb1 b1 hP
  have hm12 : m = 1 ∨ m = 2 := by omega
  have HM := Lib.hid hm
  rcases hm12 with rfl | rfl
  all_goals
    have hv1 := HV1.out
    rw [HM.out] at hv1
    simp only [Nat.reduceAdd, Int.cast_ofNat_Int] at hv1
    have HV1 := Lib.hid hv1
    clear hv1
    go_wp2_with (first
      | (at_builtin; refine wpList_append_bytes _ rfl (.tmp 39) (.tmp 40) 24 rfl w1.heap.size 5 i0 Tryd.underlying24 hi hz0 hz1 hz2 _ [] la rfl hown0 hA1 (by simp; omega) (by simp) ?_; intro v1 w2 hown1 hgrow1 hnil1; have bw2 : Below w1.heap.size w1 w2 := (ext_alloc w1 _).trans (grown_ext hown0 hgrow1 (by simp)); have hP2 := HP.out.keep bw2 (Nat.le_refl _); rw [List.nil_append] at hown1; clear hgrow1 hnil1 hown0 hA1)
      | (at_builtin; refine wpList_append_bytes _ rfl (.tmp 41) (.tmp 42) 24 rfl w1.heap.size 5 i0 Tryd.underlying24 hi hz0 hz1 hz2 _ la p rfl hown1 hP2 (by omega) bw2.size ?_; intro v2 w3 hown2 hgrow2 hnil2; have bw3 := bw2.trans (grown_ext hown1 hgrow2 bw2.size); have hB3 := HB.out.keep (ext_trans B1.out bw3) (Nat.le_refl _); clear hgrow2 hnil2 hown1 hP2 bw2)
      | (at_builtin; go_must (refine wpList_append_bytes _ rfl (.tmp 43) (.tmp 44) 24 rfl w1.heap.size 5 i0 Tryd.underlying24 hi hz0 hz1 hz2 _ (la ++ p) lb rfl hown2 hB3 (by simp; omega) bw3.size ?_); intro v3 w4 hown3 hgrow3 hnil3; have bw4 := bw3.trans (grown_ext hown2 hgrow3 bw3.size); clear hgrow3 hnil3 hown2 hB3 bw3))
    have hb3 := BytesAt.of_own hown3
    have hlt : ∀ x ∈ la ++ p ++ lb, x < 256 := by
      intro x hx
      rcases List.mem_append.1 hx with h | h
      · rcases List.mem_append.1 h with h | h
        · exact H1.out x h
        · exact HPL.out x h
      · exact H2.out x h
    have bt4 := ext_trans B1.out bw4
    have G := get_any v3 (la ++ p ++ lb) la.length w4 (HT.out.keep bt4) hb3 hlt (by simp; omega) (by simp)
    unfold GPost at G
    rw [HV1.out] at G
    unfold HV at G
    have GH := Lib.hid G
    have BW4 := Lib.hid bw4
    have BT4 := Lib.hid bt4
    clear G hb3 hlt hown3 bw4 bt4
    refine GH.out.mono ?_
    rintro e w5 ⟨rfl, hb5⟩
    have bw5 : Below w1.heap.size w1 (w5.alloc (.cells #[.int .i64 K, .int .i64 F, .int .i64 n] 23)) := (ext_trans BW4.out hb5).alloc (ext_trans BW4.out hb5).size _
    have BW5 := Lib.hid bw5
    have hs5 : w1.heap.size ≤ w5.heap.size := (ext_trans BW4.out hb5).size
    clear bw5 GH hb5
    have hm0 : 0 ≤ ct % (_ : Int) := Int.emod_nonneg ct (show ((p.length : Nat) : Int) ≠ 0 by omega)
    have hm1 : ct % ((p.length : Nat) : Int) < ((p.length : Nat) : Int) := Int.emod_lt_of_pos ct (by omega)
    obtain ⟨mm, hmm⟩ := Int.eq_ofNat_of_zero_le hm0
    have hmml : mm < p.length := by omega
    have hP5 := (HP.out.keep BW5.out (Nat.le_refl _)).take (g := g) mm (by omega)
    have hV0 := HV2.out mm hmml
    have G := get_any _ (p.take mm) 0 _ (HT.out.keep (ext_trans B1.out BW5.out)) hP5 (fun x hx => HPL.out x (List.mem_of_mem_take hx)) (by rw [List.length_take]; omega) (by omega)
    unfold GPost at G
    rw [hV0] at G
    unfold HV at G
    rw [HM.out] at hmm
    simp only [Nat.reduceAdd, Int.cast_ofNat_Int] at hmm
    have GH := Lib.hid G
    have HMM := Lib.hid hmml
    have hmm2 : (mm : Int) ≤ 3 := by omega
    have hmm3 : (0 : Int) ≤ mm := by omega
    have hcp : p.length ≤ cp := by
      obtain ⟨_, cp', hv, ⟨hle, _⟩, _⟩ := HP.out
      simp only [Value.slice.injEq] at hv
      obtain ⟨_, _, rfl⟩ := hv
      exact hle
    have hcp1 : (mm : Int) ≤ (cp : Int) := by omega
    clear G hV0 hP5 hm0 hm1 hmml hcp
    go_wp2_with fail
    refine GH.out.mono ?_
    rintro e w6 ⟨rfl, hb6⟩
    have cH0 : w6.cell? ⟨w.heap.size, 0, none⟩ = some (.int .i64 K) := by rw [hb6.cell (by simp; omega), BW5.out.cell (by simpa using hbl1)]; exact c00
    have cH1 : w6.cell? ⟨w.heap.size, 1, none⟩ = some (.int .i64 F) := by rw [hb6.cell (by simp; omega), BW5.out.cell (by simpa using hbl1)]; exact c01
    have cH2 : w6.cell? ⟨w.heap.size, 2, none⟩ = some (.int .i64 n) := by rw [hb6.cell (by simp; omega), BW5.out.cell (by simpa using hbl1)]; exact c02
    have cX0 : w6.cell? ⟨w5.heap.size, 0, none⟩ = some (.int .i64 K) := by rw [hb6.cell (by simp), World.cell?_alloc_at _ _ _ _ rfl]; rfl
    have cX1 : w6.cell? ⟨w5.heap.size, 1, none⟩ = some (.int .i64 F) := by rw [hb6.cell (by simp), World.cell?_alloc_at _ _ _ _ rfl]; rfl
    have cX2 : w6.cell? ⟨w5.heap.size, 2, none⟩ = some (.int .i64 n) := by rw [hb6.cell (by simp), World.cell?_alloc_at _ _ _ _ rfl]; rfl
    have hs6 : w5.heap.size < w6.heap.size := by have := hb6.size; simp at this; omega
    have hs7 : w.heap.size < w6.heap.size := by omega
    have BT6 := Lib.hid (ext_trans B1.out (ext_trans BW5.out hb6))
    clear hb6 GH
    go_wp2_with (go_at_call 11; refine (awake_any _ (HT.out.keep (BT6.out.alloc (Below.size BT6.out) _)).tab).mono ?_; rintro en w7 ⟨rfl, hb7⟩)
    go_ret
    exact ⟨rfl, ext_trans (BT6.out.alloc (Below.size BT6.out) _) hb7⟩

set_option maxHeartbeats 1000000 in
set_option maxRecDepth 100000 in
theorem back_err (k f n E : Int) (s1 s2 : Value) (ct : Int) (w : World) (ht : Tab3 w) (hE : E ≠ 0)
    (P : Calls Tryd.prog 7 #[.agg #[.int .i64 k, .int .i64 f, .int .i64 n]] (w.alloc (.cells #[.int .i64 k, .int .i64 f, .int .i64 n] 23)) fun e w' => e = .returned (.tuple #[.slice none 0 0, .int .i64 E]) ∧ Below (w.alloc (.cells #[.int .i64 k, .int .i64 f, .int .i64 n] 23)).heap.size (w.alloc (.cells #[.int .i64 k, .int .i64 f, .int .i64 n] 23)) w') :
    Calls Tryd.prog 5 #[.agg #[.int .i64 k, .int .i64 f, .int .i64 n], s1, s2, .int .u8 ct] w (Yes w) := by
  have PH := Lib.hid P
  have HT := Lib.hid ht
  have hb : (E != 0) = true := by simpa using hE
  clear P ht hE
  go_enter Tryd.func5, Tryd.ntmps5
  go_wp2_with fail
  refine PH.out.mono ?_
  rintro e w1 ⟨rfl, hb1⟩
  have B1 := Lib.hid (ext_trans (ext_alloc w _) hb1)
  clear hb1
  go_wp2_with (go_at_call 11; refine (awake_any _ (HT.out.keep B1.out).tab).mono ?_; rintro en w7 ⟨rfl, hb7⟩)
  go_ret
  exact ⟨rfl, ext_trans B1.out hb7⟩
theorem back_any (k f n : Int) (a1 : Option Addr) (len1 cap1 : Nat) (z1 : List Int) (a2 : Option Addr) (len2 cap2 : Nat) (z2 : List Int) (ct : Int) (w : World) (ht : Tab3 w)
    (b0 : -9223372036854775808 ≤ k ∧ k ≤ 9223372036854775807) (b1 : -9223372036854775808 ≤ f ∧ f ≤ 9223372036854775807) (b2 : -9223372036854775808 ≤ n ∧ n ≤ 9223372036854775807)
    (w1 : IsRow .u8 w a1 len1 cap1 z1) (s1 : cap1 * 1 ≤ 8388608) (w2 : IsRow .u8 w a2 len2 cap2 z2) (s2 : cap2 * 1 ≤ 8388608) (b3 : 0 ≤ ct ∧ ct ≤ 255) :
    Calls Tryd.prog 5 #[.agg #[.int .i64 k, .int .i64 f, .int .i64 n], .slice a1 len1 cap1, .slice a2 len2 cap2, .int .u8 ct] w (Yes w) := by
  by_cases hE : RightF k f = 0
  · by_cases hn : n < 0 ∨ 4096 < n
    · exact back_err k f n 3 _ _ ct w ht (by decide) (put_long k f n _ (ht.keep (ext_alloc _ _)) hE hn)
    · obtain ⟨q1, q2, q3, q4⟩ := right_zero hE
      obtain ⟨K, rfl⟩ := Int.eq_ofNat_of_zero_le (show 0 ≤ k by omega)
      obtain ⟨F, rfl⟩ := Int.eq_ofNat_of_zero_le q3
      obtain ⟨N, rfl⟩ := Int.eq_ofNat_of_zero_le (show 0 ≤ n by omega)
      obtain ⟨hB1, he1, h1⟩ := w1.bytes
      obtain ⟨hB2, he2, h2⟩ := w2.bytes
      have l1 := w1.len_le
      have l2 := w2.len_le
      exact back_ok K F N _ _ _ _ ct w ht hE (by omega) hB1 hB2 (by omega) (by omega) h1 h2 b3.1 b3.2
  · exact back_err k f n _ _ _ ct w ht hE (put_err k f n _ (ht.keep (ext_alloc _ _)) hE)
end Go.Proofs.YtaannopaipjcoaaDoor
