/-
  LAYER 21: All, New; awake.
-/
import Derived.Test.YtoijdmchkjmpgaaIl
namespace Go.Proofs.Ytoijdmchkjmpgaa.Ids
open Go.RowKit Que Hp
def lstF (T : List Bool) (k : Nat) : List Int := ((List.range k).filter (fun j => T.getD j false)).map (fun j : Nat => (j : Int) + 1)
theorem lstF_yes {T : List Bool} {k : Nat} (h : T.getD k false = true) : lstF T (k + 1) = lstF T k ++ [(k : Int) + 1] := by
  have h' : T[k]?.getD false = true := by rw [← List.getD_eq_getElem?_getD]; exact h
  unfold lstF; rw [List.range_succ, List.filter_append, List.map_append]; simp [h']
theorem lstF_no {T : List Bool} {k : Nat} (h : T.getD k false = false) : lstF T (k + 1) = lstF T k := by
  have h' : T[k]?.getD false = false := by rw [← List.getD_eq_getElem?_getD]; exact h
  unfold lstF; rw [List.range_succ, List.filter_append, List.map_append]; simp [h']
theorem lstF_len (T : List Bool) (k : Nat) : (lstF T k).length ≤ k := by
  unfold lstF; rw [List.length_map]; have := List.length_filter_le (fun j => T.getD j false) (List.range k); simpa using this
section
variable {A : Nat → Prop} {w w' : World} {g most : Nat} {T : List Bool}
theorem new_ids (n : Nat) (w : World) (h1 : 1 ≤ n) (h4 : n ≤ 400) : Calls Try.prog 14 #[.int .i64 (n : Int)] w fun e w' => e = .returned (.tuple #[.pointer (some ⟨w.heap.size, 0, none⟩), .int .i64 0]) ∧ Ds (fun k => k < w.heap.size) w' w.heap.size n [] ∧ Below w.heap.size w w' := by
  have b1 : (1 : Int) ≤ (n : Int) := by omega
  have b2 : (n : Int) ≤ 400 := by omega
  go_enter Try.func14, Try.ntmps14
  go_wp2
  go_ret2
  exact ⟨rfl, ⟨⟨_, _, [], ⟨heap_alloc_new w _, World.ownsRow_nil _ _ _ _, World.ownsRow_nil _ _ _ _⟩, good_nil, fun k hk => ⟨by simp; omega, fun h => h.elim (fun e => by omega) (fun h => h.elim (fun e => by cases e) (fun e => by cases e))⟩⟩, by simp, h1, h4⟩, ext_alloc _ _⟩
def AllIds (T : List Bool) (w : World) (e : Ending) (w' : World) : Prop := ∃ v, e = .returned v ∧ w'.ownsRow w.heap.size 3 1 v (lstF T T.length).length (il (lstF T T.length)) ∧ Below w.heap.size w w'
set_option maxHeartbeats 4000000 in
set_option maxRecDepth 100000 in
theorem all_ids (h : Ds A w g most T) : Calls Try.prog 22 #[.pointer (some ⟨g, 0, none⟩)] w (AllIds T w) := by
  obtain ⟨tv, bv, H, i, G, av⟩ := h.ex
  have hle := h.le
  have hm4 := h.m4
  obtain ⟨i3, hi3, hz0, hz1, hz2⟩ := info_parts info3
  have N := Lib.hid (none_no i (by have := h.m1; omega))
  have k1 := i.c1
  have I := Lib.hid i
  obtain ⟨at', ct, hv⟩ := own_slice i.tk
  rw [hv] at k1
  have hT : (T.length : Int) ≤ 400 := by omega
  replace hv := Lib.hid hv
  clear i G av h
  go_enter Try.func22, Try.ntmps22
  go_wp2_with fail
  refine (N.out).mono ?_
  rintro e w1 ⟨rfl, rfl⟩
  go_wp2_with fail
  go_loopw [3, 13] (fun v iv wr => ∃ k : Nat, iv = .int .i64 (k : Int) ∧ k ≤ T.length ∧ wr.ownsRow w.heap.size 3 1 v (lstF T k).length (il (lstF T k)) ∧ Below w.heap.size w wr) (fun _ iv _ => T.length - (intOf iv).toNat)
  case atStart => exact ⟨0, rfl, by omega, World.ownsRow_nil _ _ _ _, Below.refl _ _⟩
  case round =>
    obtain ⟨k, rfl, hk, o, hb⟩ := hrel
    have hll := lstF_len T k
    obtain ⟨va, vc, rfl⟩ := own_slice o
    by_cases hend : k = T.length
    · subst hend
      replace o := Lib.hid o
      replace hb := Lib.hid hb
      go_wp2
      go_ret
      exact ⟨_, rfl, o.out, hb.out⟩
    · have klt : k < T.length := by omega
      have klt' : (k : Int) < (T.length : Int) := by omega
      obtain ⟨gt, ct2, hv2⟩ := own_slice' I.out.tk (by omega)
      have hve := hv.out.symm.trans hv2
      simp only [Value.slice.injEq] at hve
      obtain ⟨rfl, -, -⟩ := hve
      have kf := (hb.cell (p := ⟨gt, k, none⟩) ((I.out.tk.lt gt (by rw [hv2]; rfl)).2)).trans (I.out.flag hv2 klt)
      have sz := hb.size
      replace hb := Lib.hid hb
      replace hv2 := Lib.hid hv2
      clear hend
      cases hf : T.getD k false
      · rw [hf] at kf
        have E := Lib.hid (lstF_no hf)
        replace hf := Lib.hid hf
        replace o := Lib.hid o
        go_wp2_with fail
        go_roundw
        case rel => exact ⟨k + 1, by simp, by omega, by rw [E.out]; exact o.out, hb.out⟩
        case measure => simp [intOf]; omega
      · rw [hf] at kf
        have E := Lib.hid (lstF_yes hf)
        replace hf := Lib.hid hf
        have oA := Lib.hid (own_keep o (ext_alloc wr (.cells #[.int .i64 ((k : Int) + 1)] 3)))
        have hnew : Hid (∀ j u, ([Value.int .i64 ((k : Int) + 1)] : List Value)[j]? = some u → (wr.alloc (.cells #[.int .i64 ((k : Int) + 1)] 3)).cell? ((⟨wr.heap.size, 0, none⟩ : Addr).add j) = some u) := Lib.hid (by
          intro j u hj
          have := cell_of_row (wr.alloc (.cells #[.int .i64 ((k : Int) + 1)] 3)) wr.heap.size j _ 3 (0, 0) (heap_alloc_new wr _)
          rw [add_off', Nat.zero_add, this, ← hj]
          simp)
        clear o
        obtain ⟨L, hL⟩ : ∃ L, L = lstF T k := ⟨_, rfl⟩
        rw [← hL] at hll oA E ⊢
        go_wp2_with (first
          | (at_builtin; go_must (refine wpList_append_own _ rfl (.tmp 19) (.tmp 22) 22 rfl w.heap.size 3 i3 (.int .i64 0) 1 8 Try.underlying22 hi3 hz0 hz1 hz2 rfl (by decide) (.slice va L.length vc) L.length (il L) rfl oA.out ⟨wr.heap.size, 0, none⟩ 1 1 [.int .i64 ((k : Int) + 1)] rfl rfl hnew.out (by intro u hu; simp at hu; subst hu; rfl) (by unfold maxLen; omega) (by omega) (by simp; omega) ?_); intro v3 w3 o3 g3 _))
        go_roundw
        case rel => exact ⟨k + 1, by simp, by omega, by rw [E.out]; simpa [il] using o3, (hb.out.alloc sz _).grown g3 (by simp; omega) (fun j hj => (oA.out.lt j hj).1)⟩
        case measure => simp [intOf]; omega
theorem len_ds (h : Ds A w g most T) : Calls Try.prog 23 #[.pointer (some ⟨g, 0, none⟩)] w fun e w' => e = .returned (.int .i64 (trues T : Nat)) ∧ w = w' := by
  obtain ⟨tv, bv, H, i, G, av⟩ := h.ex
  exact len_ids i (by have := h.m1; omega)
end
set_option maxHeartbeats 4000000 in
set_option maxRecDepth 100000 in
theorem awake21_any (w : World) : Calls Try.prog 13 #[] w (Yes w) := by
  have N := Lib.hid (new_ids 3 w (by omega) (by omega))
  go_enter Try.func13, Try.ntmps13
  go_wp2_with fail
  refine N.out.mono ?_
  rintro e w1 ⟨rfl, d1, b1⟩
  have T1 : Hid (Calls Try.prog 16 #[.pointer (some ⟨w.heap.size, 0, none⟩)] w1 fun e w' => e = .returned (.tuple #[.int .i64 1, .int .i64 0]) ∧ Ds (fun k => k < w.heap.size) w' w.heap.size 3 [true] ∧ Kp (fun k => k < w.heap.size) w1 w') := Lib.hid (take_ok d1 (by decide))
  replace b1 := Lib.hid b1
  clear d1 N
  go_wp2_with fail
  refine T1.out.mono ?_
  rintro e w2 ⟨rfl, d2, b2⟩
  have T2 : Hid (Calls Try.prog 16 #[.pointer (some ⟨w.heap.size, 0, none⟩)] w2 fun e w' => e = .returned (.tuple #[.int .i64 2, .int .i64 0]) ∧ Ds (fun k => k < w.heap.size) w' w.heap.size 3 [true, true] ∧ Kp (fun k => k < w.heap.size) w2 w') := Lib.hid (take_ok d2 (by decide))
  replace b2 := Lib.hid b2
  clear d2 T1
  go_wp2_with fail
  refine T2.out.mono ?_
  rintro e w3 ⟨rfl, d3, b3⟩
  have G3 : Hid (Calls Try.prog 18 #[.pointer (some ⟨w.heap.size, 0, none⟩), .int .i64 1] w3 fun e w' => e = .returned (.int .i64 0) ∧ Ds (fun k => k < w.heap.size) w' w.heap.size 3 [false, true] ∧ Kp (fun k => k < w.heap.size) w3 w') := Lib.hid (give_ok d3 (k := 0) (by decide) rfl)
  replace b3 := Lib.hid b3
  clear d3 T2
  go_wp2_with fail
  refine G3.out.mono ?_
  rintro e w4 ⟨rfl, d4, b4⟩
  have T4 : Hid (Calls Try.prog 16 #[.pointer (some ⟨w.heap.size, 0, none⟩)] w4 fun e w' => e = .returned (.tuple #[.int .i64 1, .int .i64 0]) ∧ Ds (fun k => k < w.heap.size) w' w.heap.size 3 [true, true] ∧ Kp (fun k => k < w.heap.size) w4 w') := Lib.hid (take_ok d4 (by decide))
  replace b4 := Lib.hid b4
  clear d4 G3
  go_wp2_with fail
  refine T4.out.mono ?_
  rintro e w5 ⟨rfl, d5, b5⟩
  have L5 : Hid (Calls Try.prog 23 #[.pointer (some ⟨w.heap.size, 0, none⟩)] w5 fun e w' => e = .returned (.int .i64 2) ∧ w5 = w') := Lib.hid (len_ds d5)
  replace b5 := Lib.hid b5
  clear d5 T4
  go_wp2_with fail
  refine L5.out.mono ?_
  rintro e w6 ⟨rfl, rfl⟩
  go_wp2
  go_ret
  exact ⟨rfl, b1.out.trans ((b2.out.trans (b3.out.trans (b4.out.trans b5.out))).below b1.out.size (fun k hk => hk))⟩
end Go.Proofs.Ytoijdmchkjmpgaa.Ids
