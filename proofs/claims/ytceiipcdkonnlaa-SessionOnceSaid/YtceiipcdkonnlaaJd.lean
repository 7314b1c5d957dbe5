/-
  LAYER 24: contracts of Done, Len, Clear; what rises goes on rising.
-/
import Derived.Test.YtceiipcdkonnlaaJc
namespace Go.Proofs.Ytceiipcdkonnlaa.Inb
set_option linter.unusedSimpArgs false
set_option linter.unusedVariables false
open Go.RowKit

theorem foundIn_iff {t : Int} {l : List Int} (hs : Sorted l) : foundIn t l = true ↔ t ∈ l := by
  unfold foundIn
  rw [decide_eq_true_iff]
  constructor
  · rintro ⟨h1, h2⟩
    rw [← h2, List.getD_eq_getElem?_getD, List.getElem?_eq_getElem h1]
    exact List.getElem_mem _
  · intro hm
    obtain ⟨i, hi, he⟩ := List.getElem_of_mem hm
    have hp := pos_of t l hs
    have hg : l.getD i 0 = t := by rw [List.getD_eq_getElem?_getD, List.getElem?_eq_getElem hi]; exact he
    have : posOf t l = i := by
      rcases Nat.lt_trichotomy (posOf t l) i with h | h | h
      · have h1 := hp.high (posOf t l) (Nat.le_refl _) (by omega)
        have h2 := hs (posOf t l) i h hi
        omega
      · exact h
      · have := hp.low i h
        omega
    rw [this]
    exact ⟨hi, hg⟩
theorem getD_append_left (A M : List Int) (k : Nat) (h : k < A.length) : (A ++ M).getD k 0 = A.getD k 0 := by
  simp [List.getD, List.getElem?_append_left h]
theorem getD_append_right (A M : List Int) (k : Nat) (h : A.length ≤ k) : (A ++ M).getD k 0 = M.getD (k - A.length) 0 := by
  simp [List.getD, List.getElem?_append_right h]
theorem sorted_in {A M : List Int} {t : Int} (hs : Sorted (A ++ M)) (hp : Pos (A ++ M) t A.length) (hn : t ∉ A ++ M) : Sorted (A ++ t :: M) := by
  have lowA : ∀ k, k < A.length → A.getD k 0 < t := fun k hk => by have := hp.low k hk; rwa [getD_append_left A M k hk] at this
  have highM : ∀ k, k < M.length → t < M.getD k 0 := fun k hk => by
    have h1 := hp.high (A.length + k) (by omega) (by simp; omega)
    rw [getD_append_right A M _ (by omega), Nat.add_sub_cancel_left] at h1
    have hne : t ≠ M.getD k 0 := fun e => hn (by
      rw [e, List.getD_eq_getElem?_getD, List.getElem?_eq_getElem hk]
      exact List.mem_append_right _ (List.getElem_mem _))
    omega
  intro i j hij hj
  by_cases h1 : j < A.length
  · rw [getD_append_left A _ i (by omega), getD_append_left A _ j h1]
    have := hs i j hij (by simp; omega)
    rwa [getD_append_left A _ i (by omega), getD_append_left A _ j h1] at this
  · rw [getD_append_right A _ j (by omega)]
    by_cases h2 : i < A.length
    · rw [getD_append_left A _ i h2]
      by_cases h3 : j = A.length
      · subst h3; simpa using lowA i h2
      · rw [show j - A.length = (j - A.length - 1) + 1 from by omega, List.getD_cons_succ]
        have := hs i (j - 1) (by omega) (by simp at hj ⊢; omega)
        rw [getD_append_left A _ i h2, getD_append_right A _ (j - 1) (by omega), show j - 1 - A.length = j - A.length - 1 from by omega] at this
        exact this
    · rw [getD_append_right A _ i (by omega)]
      have hj' : j - A.length - 1 < M.length := by simp at hj; omega
      rw [show j - A.length = (j - A.length - 1) + 1 from by omega, List.getD_cons_succ]
      by_cases h3 : i = A.length
      · subst h3
        rw [Nat.sub_self, List.getD_cons_zero]
        exact highM _ hj'
      · rw [show i - A.length = (i - A.length - 1) + 1 from by omega, List.getD_cons_succ]
        have := hs (i - 1) (j - 1) (by omega) (by simp; omega)
        rw [getD_append_right A _ (i - 1) (by omega), getD_append_right A _ (j - 1) (by omega), show i - 1 - A.length = i - A.length - 1 from by omega, show j - 1 - A.length = j - A.length - 1 from by omega] at this
        exact this
theorem sorted_out {A M : List Int} {t : Int} (hs : Sorted (A ++ t :: M)) : Sorted (A ++ M) := by
  intro i j hij hj
  have hj2 : j < A.length + M.length := by simpa using hj
  by_cases h1 : j < A.length
  · rw [getD_append_left A _ i (by omega), getD_append_left A _ j h1]
    have := hs i j hij (by simp; omega)
    rwa [getD_append_left A _ i (by omega), getD_append_left A _ j h1] at this
  · rw [getD_append_right A _ j (by omega)]
    by_cases h2 : i < A.length
    · rw [getD_append_left A _ i h2]
      have := hs i (j + 1) (by omega) (by simp; omega)
      rw [getD_append_left A _ i h2, getD_append_right A _ (j + 1) (by omega), show j + 1 - A.length = (j - A.length) + 1 from by omega, List.getD_cons_succ] at this
      exact this
    · rw [getD_append_right A _ i (by omega)]
      have := hs (i + 1) (j + 1) (by omega) (by simp; omega)
      rw [getD_append_right A _ (i + 1) (by omega), getD_append_right A _ (j + 1) (by omega), show i + 1 - A.length = (i - A.length) + 1 from by omega, show j + 1 - A.length = (j - A.length) + 1 from by omega, List.getD_cons_succ, List.getD_cons_succ] at this
      exact this

theorem len_any (g n : Nat) (xs : List Int) (w : World) (h : Box w g xs n) :
    Calls Try.prog 122 #[.pointer (some ⟨g, 0, none⟩)] w fun e w' => e = .returned (.int .i64 n) ∧ w = w' := by
  have c0 := h.made
  have c1 := h.count
  clear h
  go_enter Try.func122, Try.ntmps122
  go_wp2
  go_ret
  exact ⟨rfl, rfl⟩
theorem new24_any (w : World) : Calls Try.prog 33 #[] w fun e w' => e = .returned (.pointer (some ⟨w.heap.size, 0, none⟩)) ∧ Box w' w.heap.size (List.replicate 16 0) 0 ∧ Below w.heap.size w w' := by
  go_enter Try.func33, Try.ntmps33
  go_wp2
  go_ret
  refine ⟨rfl, ⟨?_, by simp, by omega⟩, ext_alloc _ _⟩
  rw [heap_alloc_new]
  rfl
theorem done_no (g n : Nat) (xs : List Int) (t : Int) (w : World) (h : Box w g xs n) (hs : Sorted (xs.take n)) (hf : foundIn t (xs.take n) = false) :
    Calls Try.prog 47 #[.pointer (some ⟨g, 0, none⟩), .int .i64 t] w fun e w' => ∃ k, e = .returned (.bool false) ∧ w.drewN k = w' := by
  have c0 := h.made
  have FC := Lib.hid (find_call g n xs t w h hs)
  have HF := Lib.hid hf
  clear h hs hf
  go_enter Try.func47, Try.ntmps47
  go_wp2_with (first | (go_at_call 60; refine FC.out.mono ?_; rintro e w' ⟨k, rfl, rfl⟩; rw [HF.out]) | go_in)
  go_ret
  exact ⟨_, rfl, rfl⟩
theorem row_back (A M R : List Int) (t : Int) (c : Value) : ∃ z, splice (.bool true :: c :: (A ++ t :: (M ++ R)).map (Value.int .i64)) (2 + A.length) (M.map (Value.int .i64)) = .bool true :: c :: (A ++ (M ++ z :: R)).map (Value.int .i64) := by
  have e : 2 + A.length = A.length + 1 + 1 := by omega
  obtain ⟨m, z, hm⟩ : ∃ m z, t :: M = m ++ [z] := by
    rcases List.eq_nil_or_concat (t :: M) with h | ⟨m, z, h⟩
    · cases h
    · exact ⟨m, z, by rw [h, List.concat_eq_append]⟩
  have hml : m.length = M.length := by have := congrArg List.length hm; simp at this; omega
  refine ⟨z, ?_⟩
  unfold splice
  rw [e, List.length_map, show A.length + 1 + 1 + M.length = (A.length + m.length) + 1 + 1 from by omega]
  simp only [List.take_succ_cons, List.drop_succ_cons, ← List.map_take, ← List.map_drop]
  rw [show A ++ t :: (M ++ R) = A ++ m ++ (z :: R) from by rw [← List.cons_append, hm]; simp, List.drop_append_of_le_length (by simp), List.take_append_of_le_length (by simp)]
  simp
theorem parts_out (xs : List Int) (n : Nat) (t : Int) (h : xs.length = 16) (hn : n ≤ 16) (hs : Sorted (xs.take n)) (hf : foundIn t (xs.take n) = true) :
    ∃ A M R, xs = A ++ t :: (M ++ R) ∧ xs.take n = A ++ t :: M ∧ A.length = posOf t (xs.take n) ∧ M.length + A.length + 1 = n ∧ R.length = 16 - n := by
  unfold foundIn at hf
  rw [decide_eq_true_iff] at hf
  obtain ⟨h1, h2⟩ := hf
  obtain ⟨p, hp⟩ : ∃ p, p = posOf t (xs.take n) := ⟨_, rfl⟩
  rw [← hp] at h1 h2 ⊢
  have hl : (xs.take n).length = n := by rw [List.length_take]; omega
  have e : xs.take n = (xs.take n).take p ++ t :: (xs.take n).drop (p + 1) := by
    conv => lhs; rw [← List.take_append_drop p (xs.take n), List.drop_eq_getElem_cons h1]
    rw [List.getD_eq_getElem?_getD, List.getElem?_eq_getElem h1] at h2
    simp only [Option.getD_some] at h2
    rw [h2]
  refine ⟨(xs.take n).take p, (xs.take n).drop (p + 1), xs.drop n, ?_, e, by rw [List.length_take]; omega, by rw [List.length_take, List.length_drop]; omega, by rw [List.length_drop]; omega⟩
  conv => lhs; rw [← List.take_append_drop n xs, e]
  simp

set_option maxRecDepth 100000 in
theorem done_yes (g n : Nat) (xs : List Int) (t : Int) (w : World) (h : Box w g xs n) (hs : Sorted (xs.take n)) (hf : foundIn t (xs.take n) = true) :
    Calls Try.prog 47 #[.pointer (some ⟨g, 0, none⟩), .int .i64 t] w fun e w' => e = .returned (.bool true) ∧
      ∃ (A M R : List Int) (z : Int), xs.take n = A ++ t :: M ∧ Box w' g (A ++ (M ++ z :: R)) (n - 1) ∧ w.grownBy w' (some g) := by
  have c0 := h.made
  have c1 := h.count
  have FC := Lib.hid (find_call g n xs t w h hs)
  have HF := Lib.hid hf
  have hn := h.le
  obtain ⟨A, M, R, hx, htk, hA, hM, hR⟩ := parts_out xs n t h.len hn hs hf
  obtain ⟨p, hpd⟩ : ∃ p, p = posOf t (xs.take n) := ⟨_, rfl⟩
  rw [← hpd] at hA
  have hp : p < n := by omega
  have HPD := Lib.hid hpd
  have HX := Lib.hid hx
  have HA := Lib.hid hA
  have HM := Lib.hid hM
  have HTK := Lib.hid htk
  have HB := Lib.hid h
  have al := alen97
  have hn' : (n : Int) ≤ 16 := by omega
  clear h hs hf hpd hx hA hM htk hR
  go_enter Try.func47, Try.ntmps47
  go_wp2_with (first | (go_at_call 60; refine FC.out.mono ?_; rintro e w' ⟨k, rfl, rfl⟩; rw [HF.out, ← HPD.out]) | go_in)
  obtain ⟨W, hW⟩ : ∃ W, W = w.drewN k := ⟨_, rfl⟩
  have HBW : Hid (Box W g xs n) := by rw [hW]; exact HB.out.drewN k
  have HWB : Hid (w.grownBy W.drew (some g)) := by rw [hW]; exact ⟨rfl, rfl, rfl, Nat.le_refl _, fun _ _ _ => rfl⟩
  rw [← hW]
  clear hW HB FC c0 c1
  have c1W : W.cell? ⟨g, 1, none⟩ = some (.int .i64 n) := HBW.out.count
  have k1 : IntKind.i64.wrap ((p : Int) + 1) = (p : Int) + 1 := IntWalk.i64_in _ (by omega)
  have k2 : (0 : Int) ≤ (p : Int) + 1 := by omega
  have k4 : (p : Int) ≤ 16 := by omega
  have k5 : (p : Int) + 1 ≤ (n : Int) := by omega
  have k6 : ¬ 16 = p := by omega
  have k3 : ((p : Int) + 1).toNat = p + 1 := by omega
  have hrow : W.drew.heap[g]? = some (.cells (.bool true :: .int .i64 n :: (A ++ t :: (M ++ R)).map (Value.int .i64)).toArray 97 (0, 0)) := by rw [← HX.out]; exact HBW.out.row
  have hcsl : (M.map (Value.int .i64)).length = n - (p + 1) := by rw [List.length_map]; have := HM.out; have := HA.out; omega
  have hsrc : ∀ j v, (M.map (Value.int .i64))[j]? = some v → W.drew.cell? ((⟨g, 2 + (p + 1), none⟩ : Addr).add j) = some v := by
    intro j v hj
    have hjl : j < n - (p + 1) := by rw [← hcsl]; exact (List.getElem?_eq_some_iff.1 hj).1
    have hadd : (⟨g, 2 + (p + 1), none⟩ : Addr).add j = ⟨g, 2 + (p + 1) + j, none⟩ := by unfold Addr.add; split <;> simp_all
    rw [hadd, cell_of_row _ g _ _ 97 (0, 0) hrow, show 2 + (p + 1) + j = (A.length + (j + 1)) + 1 + 1 from by rw [HA.out]; omega]
    simp only [List.getElem?_toArray, List.getElem?_cons_succ, List.map_append, List.map_cons]
    rw [List.getElem?_append_right (by simp), List.length_map, Nat.add_sub_cancel_left, List.getElem?_cons_succ, List.getElem?_append_left (by omega)]
    exact hj
  have HROW := Lib.hid hrow
  have HSRC := Lib.hid hsrc
  have HCSL := Lib.hid hcsl
  clear hrow hsrc hcsl
  obtain ⟨z, hz⟩ := row_back A M R t (.int .i64 n)
  have HZ := Lib.hid hz
  clear hz
  have hfinal : ∀ w', Hid (w'.heap[g]? = some (.cells (splice (.bool true :: .int .i64 n :: (A ++ t :: (M ++ R)).map (Value.int .i64)) (2 + p) (M.map (Value.int .i64))).toArray 97 (0, 0))) → Box w' g (A ++ (M ++ z :: R)) n := by
    intro w' hw
    refine ⟨by rw [← HZ.out, HA.out]; exact hw.out, ?_, by omega⟩
    have := HBW.out.len
    rw [HX.out] at this
    simp at this ⊢
    omega
  have HFIN := Lib.hid hfinal
  clear hfinal
  by_cases hlast : p = 15
  · subst hlast
    obtain rfl : n = 16 := by omega
    have hM0 : M = [] := List.eq_nil_of_length_eq_zero (by have := HM.out; have := HA.out; omega)
    subst hM0
    have hbox : Box W g (A ++ t :: ([] ++ R)) 16 := by rw [← HX.out]; exact HBW.out
    have HBX := Lib.hid hbox
    clear hbox k1 k2 k3 k4 k5 k6
    have k8 : IntKind.i64.wrap 16 = 16 := by decide
    go_still_tail 15, (by kernel_rfl)
    refine wpList_copy_nothing rfl (.tmp 20) (.tmp 30) 51 51 rfl 3 Try.underlying51 (by kernel_rfl) _ _ _ _ _ _ rfl rfl ?hn ?_
    case hn => rfl
    clear k8 c1W
    have d1 : W.cell? ⟨g, 1, none⟩ = some (.int .i64 16) := HBX.out.count
    have f1 : W.frozen? ⟨g, 1, none⟩ = false := HBX.out.free 1
    go_wp2
    go_ret
    have hst := HBX.out.recount 15 (by omega)
    exact ⟨rfl, A, [], R, t, HTK.out, ⟨hst.row, hst.len, hst.le⟩, grown_trans HWB.out (set_grown _)⟩
  · have k7 : ¬ 16 = p + 1 := by omega
    go_still_tail 15, (by kernel_rfl)
    refine wpList_copy_splice_g rfl (.tmp 20) (.tmp 30) 51 51 rfl 3 Try.underlying51 (by kernel_rfl) _ _ _ _ _ _ rfl rfl g (2 + p) _ 97 HROW.out (M.map (Value.int .i64)) ?_ ?_ ?_ ?_ w HWB.out ?_
    · rw [HCSL.out]; exact (Nat.min_eq_left (by omega)).symm
    · intro _
      exact ⟨rfl, _, rfl, HSRC.out⟩
    · have e1 := HA.out
      have e2 := HM.out
      simp
      omega
    · intro u hu
      simp only [List.mem_map] at hu
      obtain ⟨x, _, rfl⟩ := hu
      rfl
    · intro w' hw hb
      have hbox := HFIN.out w' hw
      clear k1 k2 k3 k4 k5 k6 k7 c1W
      have HBX := Lib.hid hbox
      have d1 := hbox.count
      have f1 := hbox.free 1
      have hpos : 1 ≤ n := by omega
      clear hbox
      go_wp2
      go_ret
      have hst := HBX.out.recount (n - 1) (by omega)
      rw [show ((n - 1 : Nat) : Int) = (n : Int) - 1 from by omega] at hst
      exact ⟨rfl, A, M, R, z, HTK.out, hst, grown_trans hb (set_grown _)⟩
end Go.Proofs.Ytceiipcdkonnlaa.Inb
