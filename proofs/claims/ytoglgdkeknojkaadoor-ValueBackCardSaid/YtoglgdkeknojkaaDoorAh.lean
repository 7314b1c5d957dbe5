/-
  LAYER 5: Of, the document's.
-/
import Derived.Test.YtoglgdkeknojkaaDoorAg
import Derived.StillTailTactics
namespace Go.Proofs.YtoglgdkeknojkaaDoor
open Go.RowKit

theorem great_sym (k : Int) (h1 : 1 ≤ k) (h7 : k ≤ 7) (n : Nat) (hm : n ≤ 18446744073709551615) (b : Bool) (hb : decide (vmost k < n) = b) (w : World) :
    Calls Tryd.prog 21 #[.int .i64 k, .int .u64 (n : Nat)] w fun e w' => e = .returned (.bool b) ∧ w = w' := by
  obtain ⟨i, rfl⟩ := Int.eq_ofNat_of_zero_le (show 0 ≤ k by omega)
  have hi : i = 1 ∨ i = 2 ∨ i = 3 ∨ i = 4 ∨ i = 5 ∨ i = 6 ∨ i = 7 := by omega
  by_cases h : vmost i < n
  · rw [decide_eq_true h] at hb
    subst hb
    exact great_yes i hi n w h hm
  · rw [decide_eq_false h] at hb
    subst hb
    exact great_no i hi n w (by omega)
theorem kind_sym (k : Int) (h1 : 1 ≤ k) (h7 : k ≤ 7) (w : World) : Calls Tryd.prog 20 #[.int .i64 k] w fun e w' => e = .returned (.int .i64 (vkind k)) ∧ w = w' := kind_20 k (by omega) w
set_option maxHeartbeats 2000000 in
set_option maxRecDepth 100000 in
theorem of16_base (v : Value) (b : Int) (raw : Bool) (w : World) (h : b < 1 ∨ (1 ≤ b ∧ 1000 < b)) (hv : ∃ a n c, v = .slice a n c) : Calls Tryd.prog 16 #[v, .int .i64 b, .bool raw] w (OfV (v0, 1) w) := by
  obtain ⟨a, n, c, rfl⟩ := hv
  rcases h with h | ⟨h, h'⟩
  all_goals
    go_enter Tryd.func16, Tryd.ntmps16
    go_wp2_with fail
    exact bodyPost_ret (v := .tuple #[v0.val, .int .i64 1]) (by simp [results, Tryd.results16, go_sem, v0, Va.val]) rfl ⟨rfl, by repeat (first | exact e_alloc _ _ | refine Below.setCell ?_ (by simp) _)⟩
set_option maxHeartbeats 4000000 in
set_option maxRecDepth 100000 in
theorem of16_false (v : Value) (l : List Fd) (b : Int) (w : World) (hs : FdsAt w v l) (hok : ∀ f ∈ l, f.ok) (h1 : 1 ≤ b) (h2 : b ≤ 1000) : Calls Tryd.prog 16 #[v, .int .i64 b, .bool false] w (OfV (ofVs b 6 l v0) w) := by
  obtain ⟨a, cap, rfl, hlen, hc⟩ := hs
  replace hc := Lib.hid hc
  replace hok := Lib.hid hok
  have hlen' : (l.length : Int) ≤ 9223372036854775807 := by omega
  go_enter Tryd.func16, Tryd.ntmps16
  go_wp2_with fail
  go_loopw [10] (fun i wr => ∃ k : Nat, i = .int .i64 k ∧ k ≤ l.length ∧ OfR b 6 l w v0 k wr) (fun i _ => l.length - (intOf i).toNat)
  case atStart =>
    refine ⟨0, rfl, by omega, v0, ?_, ?_, rfl, ?_⟩
    · exact Blk.alloc (Blk.new w 24 _) _
    · have h := Blk.new (w.alloc (.cells #[.int .i64 0, .int .u64 0, .string ⟨#[]⟩] 24)) 24 #[.int .i64 0, .int .u64 0, .string ⟨#[]⟩]
      rw [show (w.alloc (.cells #[.int .i64 0, .int .u64 0, .string ⟨#[]⟩] 24)).heap.size = w.heap.size + 1 by simp] at h
      exact h
    · exact (e_alloc _ _).alloc (by simp) _
  case round =>
    obtain ⟨k, rfl, hk, v, hv0, hv1, hrec, hb⟩ := hrel
    obtain ⟨q0, q1, q2, z0, z1, z2⟩ := VB.cells hv0
    obtain ⟨r0, r1, r2, y0, y1, y2⟩ := VB.cells hv1
    simp only [v0] at q0 q1 q2
    have lt0 : w.heap.size < wr.heap.size := Blk.lt hv0
    have lt1 : w.heap.size + 1 < wr.heap.size := Blk.lt hv1
    replace hv0 := Lib.hid hv0
    replace hv1 := Lib.hid hv1
    replace hb := Lib.hid hb
    by_cases hend : k = l.length
    · subst hend
      rw [List.drop_length, ofVs] at hrec
      replace hrec := Lib.hid hrec
      obtain ⟨vk, vn, vs⟩ := v
      simp only at r0 r1 r2
      go_wp2
      exact bodyPost_ret (v := .tuple #[(Va.mk vk vn vs).val, .int .i64 0]) (by simp [results, Tryd.results16, go_sem, Va.val, q0, q1, q2, r0, r1, r2]) rfl ⟨by rw [← hrec.out], ((hb.out.setCell (by simp) _).setCell (by simp) _).setCell (by simp) _⟩
    obtain ⟨f, hf⟩ : ∃ f, l[k]? = some f := ⟨_, List.getElem?_eq_getElem (by omega)⟩
    obtain ⟨bb, o, rfl, hbl, hcell⟩ : ∃ b o, a = some ⟨b, o, none⟩ ∧ b < w.heap.size ∧ w.rangeAt b (o + k * 4) f.cells := by
      rcases hc.out with h | ⟨b, o, ha, hb, hc⟩
      · subst h; simp at hf
      · exact ⟨b, o, ha, hb, hc k f hf⟩
    have hr := rangeAt_keep hcell hb.out hbl
    clear hcell
    obtain ⟨c0, c1, c2, c3⟩ := rangeAt4 hr
    clear hr
    rw [drop_at hf] at hrec
    obtain ⟨fn, ff, fv, ft⟩ := hok.out f (List.mem_of_getElem? hf)
    replace hf := Lib.hid hf
    have klt : (k : Int) < (l.length : Int) := by omega
    by_cases hin : f.num < b ∨ b + 6 - 1 < f.num
    · rw [ofVs_skip hin] at hrec
      have hin' : f.num < b ∨ (b ≤ f.num ∧ b + 6 - 1 < f.num) := by omega
      replace hrec := Lib.hid hrec
      clear hin
      obtain ⟨fnum, fkind, fval, ftext⟩ := f
      simp only at c0 c1 c2 c3 hin' fn
      rcases hin' with hin | ⟨hin, hin2⟩
      all_goals
        go_wp2
        go_roundw
        case rel => exact ⟨k + 1, by simp, by omega, v, hv0.out, hv1.out, hrec.out, hb.out⟩
        case measure => simp [intOf]; omega
    have i1 : b ≤ f.num := by omega
    have i2 : f.num ≤ b + 6 - 1 := by omega
    have KD := Lib.hid (fun w => kind_sym (f.num - b + 1) (by omega) (by omega) w)
    have GD := Lib.hid (fun v h w => great_sym (f.num - b + 1) (by omega) (by omega) f.val fv v h w)
    have j1 : 0 ≤ f.num - b + 1 := by omega
    have j2 : f.num - b + 1 < 8 := by omega
    by_cases hkd : f.kind = vkind (f.num - b + 1)
    · have hd1 : (f.kind != vkind (f.num - b + 1)) = false := by simp [hkd]
      by_cases hvm : vmost (f.num - b + 1) < f.val
      · rw [ofVs_range hin hkd hvm] at hrec
        have hd3 : Hid (decide (vmost (f.num - b + 1) < f.val) = true) := Lib.hid (decide_eq_true hvm)
        replace hrec := Lib.hid hrec
        replace hkd := Lib.hid hkd
        replace hvm := Lib.hid hvm
        clear hin
        obtain ⟨fnum, fkind, fval, ftext⟩ := f
        simp only at c0 c1 c2 c3 i1 i2 j1 j2 KD GD hd1 hd3 fn
        go_wp2_with fail
        go_quiet ((go_at_call 20; exact Calls.quiet_of_same ((KD.out _).mono fun _ _ h => ⟨h.1, h.2.symm⟩)))
        go_wp2_with fail
        refine (GD.out true hd3.out _).mono ?_
        rintro e w1 ⟨rfl, rfl⟩
        go_wp2_with fail
        exact bodyPost_ret (v := .tuple #[v0.val, .int .i64 5]) (by simp [results, Tryd.results16, go_sem, Va.val, v0, q0, q1, q2, Nat.ne_of_lt lt0, lt0]) rfl ⟨by rw [← hrec.out], (((e_drewN hb.out _).setCell (by simp) _).setCell (by simp) _).setCell (by simp) _⟩
      · rw [ofVs_take hin hkd hvm] at hrec
        have hd3 : Hid (decide (vmost (f.num - b + 1) < f.val) = false) := Lib.hid (decide_eq_false hvm)
        replace hrec := Lib.hid hrec
        replace hkd := Lib.hid hkd
        replace hvm := Lib.hid hvm
        clear hin
        obtain ⟨fnum, fkind, fval, ftext⟩ := f
        simp only at c0 c1 c2 c3 i1 i2 j1 j2 KD GD hd1 hd3 fn
        go_wp2_with fail
        go_quiet ((go_at_call 20; exact Calls.quiet_of_same ((KD.out _).mono fun _ _ h => ⟨h.1, h.2.symm⟩)))
        go_wp2_with fail
        refine (GD.out false hd3.out _).mono ?_
        rintro e w1 ⟨rfl, rfl⟩
        go_wp2_with fail
        have V1 := Blk.drewN hv1.out nq
        have V0 := Lib.hid (Blk.drewN hv0.out nq)
        have b5 := Lib.hid (e_drewN hb.out nq)
        have d2 : (wr.drewN nq).cell? ⟨bb, o + k * 4 + 2, none⟩ = some (.int .u64 (fval : Nat)) := by simpa using c2
        have d3 : (wr.drewN nq).cell? ⟨bb, o + k * 4 + 3, none⟩ = some (.string ftext) := by simpa using c3
        generalize wr.drewN nq = W5 at *
        obtain ⟨s0, s1, s2, x0, x1, x2⟩ := VB.cells V1
        replace V1 := Lib.hid V1
        go_still_tail 12, (by kernel_rfl)
        go_wp2_with fail
        go_roundw
        case rel => exact ⟨k + 1, by simp, by omega, ⟨fnum - b + 1, fval, ftext⟩, Blk.far (Blk.far (Blk.far (Blk.drewN V0.out 1) (by simp) _) (by simp) _) (by simp) _, VB.set3 (u := ⟨fnum - b + 1, fval, ftext⟩) (Blk.drewN V1.out 1), hrec.out, (((e_drewN b5.out 1).setCell (by simp) _).setCell (by simp) _).setCell (by simp) _⟩
        case measure => simp [intOf]; omega
    · rw [ofVs_form hin hkd] at hrec
      have hd1 : (f.kind != vkind (f.num - b + 1)) = true := by simpa using hkd
      replace hrec := Lib.hid hrec
      replace hkd := Lib.hid hkd
      clear hin
      obtain ⟨fnum, fkind, fval, ftext⟩ := f
      simp only at c0 c1 c2 c3 i1 i2 j1 j2 KD GD hd1 fn
      go_wp2_with fail
      go_quiet ((go_at_call 20; exact Calls.quiet_of_same ((KD.out _).mono fun _ _ h => ⟨h.1, h.2.symm⟩)))
      go_wp2_with fail
      exact bodyPost_ret (v := .tuple #[v0.val, .int .i64 4]) (by simp [results, Tryd.results16, go_sem, Va.val, v0, q0, q1, q2, Nat.ne_of_lt lt0, lt0]) rfl ⟨by rw [← hrec.out], (((e_drewN hb.out _).setCell (by simp) _).setCell (by simp) _).setCell (by simp) _⟩
set_option maxHeartbeats 4000000 in
set_option maxRecDepth 100000 in
theorem of16_true (v : Value) (l : List Fd) (b : Int) (w : World) (hs : FdsAt w v l) (hok : ∀ f ∈ l, f.ok) (h1 : 1 ≤ b) (h2 : b ≤ 1000) : Calls Tryd.prog 16 #[v, .int .i64 b, .bool true] w (OfV (ofVs b 7 l v0) w) := by
  obtain ⟨a, cap, rfl, hlen, hc⟩ := hs
  replace hc := Lib.hid hc
  replace hok := Lib.hid hok
  have hlen' : (l.length : Int) ≤ 9223372036854775807 := by omega
  go_enter Tryd.func16, Tryd.ntmps16
  go_wp2_with fail
  go_loopw [10] (fun i wr => ∃ k : Nat, i = .int .i64 k ∧ k ≤ l.length ∧ OfR b 7 l w v0 k wr) (fun i _ => l.length - (intOf i).toNat)
  case atStart =>
    refine ⟨0, rfl, by omega, v0, ?_, ?_, rfl, ?_⟩
    · exact Blk.alloc (Blk.new w 24 _) _
    · have h := Blk.new (w.alloc (.cells #[.int .i64 0, .int .u64 0, .string ⟨#[]⟩] 24)) 24 #[.int .i64 0, .int .u64 0, .string ⟨#[]⟩]
      rw [show (w.alloc (.cells #[.int .i64 0, .int .u64 0, .string ⟨#[]⟩] 24)).heap.size = w.heap.size + 1 by simp] at h
      exact h
    · exact (e_alloc _ _).alloc (by simp) _
  case round =>
    obtain ⟨k, rfl, hk, v, hv0, hv1, hrec, hb⟩ := hrel
    obtain ⟨q0, q1, q2, z0, z1, z2⟩ := VB.cells hv0
    obtain ⟨r0, r1, r2, y0, y1, y2⟩ := VB.cells hv1
    simp only [v0] at q0 q1 q2
    have lt0 : w.heap.size < wr.heap.size := Blk.lt hv0
    have lt1 : w.heap.size + 1 < wr.heap.size := Blk.lt hv1
    replace hv0 := Lib.hid hv0
    replace hv1 := Lib.hid hv1
    replace hb := Lib.hid hb
    by_cases hend : k = l.length
    · subst hend
      rw [List.drop_length, ofVs] at hrec
      replace hrec := Lib.hid hrec
      obtain ⟨vk, vn, vs⟩ := v
      simp only at r0 r1 r2
      go_wp2
      exact bodyPost_ret (v := .tuple #[(Va.mk vk vn vs).val, .int .i64 0]) (by simp [results, Tryd.results16, go_sem, Va.val, q0, q1, q2, r0, r1, r2]) rfl ⟨by rw [← hrec.out], ((hb.out.setCell (by simp) _).setCell (by simp) _).setCell (by simp) _⟩
    obtain ⟨f, hf⟩ : ∃ f, l[k]? = some f := ⟨_, List.getElem?_eq_getElem (by omega)⟩
    obtain ⟨bb, o, rfl, hbl, hcell⟩ : ∃ b o, a = some ⟨b, o, none⟩ ∧ b < w.heap.size ∧ w.rangeAt b (o + k * 4) f.cells := by
      rcases hc.out with h | ⟨b, o, ha, hb, hc⟩
      · subst h; simp at hf
      · exact ⟨b, o, ha, hb, hc k f hf⟩
    have hr := rangeAt_keep hcell hb.out hbl
    clear hcell
    obtain ⟨c0, c1, c2, c3⟩ := rangeAt4 hr
    clear hr
    rw [drop_at hf] at hrec
    obtain ⟨fn, ff, fv, ft⟩ := hok.out f (List.mem_of_getElem? hf)
    replace hf := Lib.hid hf
    have klt : (k : Int) < (l.length : Int) := by omega
    by_cases hin : f.num < b ∨ b + 7 - 1 < f.num
    · rw [ofVs_skip hin] at hrec
      have hin' : f.num < b ∨ (b ≤ f.num ∧ b + 7 - 1 < f.num) := by omega
      replace hrec := Lib.hid hrec
      clear hin
      obtain ⟨fnum, fkind, fval, ftext⟩ := f
      simp only at c0 c1 c2 c3 hin' fn
      rcases hin' with hin | ⟨hin, hin2⟩
      all_goals
        go_wp2
        go_roundw
        case rel => exact ⟨k + 1, by simp, by omega, v, hv0.out, hv1.out, hrec.out, hb.out⟩
        case measure => simp [intOf]; omega
    have i1 : b ≤ f.num := by omega
    have i2 : f.num ≤ b + 7 - 1 := by omega
    have KD := Lib.hid (fun w => kind_sym (f.num - b + 1) (by omega) (by omega) w)
    have GD := Lib.hid (fun v h w => great_sym (f.num - b + 1) (by omega) (by omega) f.val fv v h w)
    have j1 : 0 ≤ f.num - b + 1 := by omega
    have j2 : f.num - b + 1 < 8 := by omega
    by_cases hkd : f.kind = vkind (f.num - b + 1)
    · have hd1 : (f.kind != vkind (f.num - b + 1)) = false := by simp [hkd]
      by_cases hvm : vmost (f.num - b + 1) < f.val
      · rw [ofVs_range hin hkd hvm] at hrec
        have hd3 : Hid (decide (vmost (f.num - b + 1) < f.val) = true) := Lib.hid (decide_eq_true hvm)
        replace hrec := Lib.hid hrec
        replace hkd := Lib.hid hkd
        replace hvm := Lib.hid hvm
        clear hin
        obtain ⟨fnum, fkind, fval, ftext⟩ := f
        simp only at c0 c1 c2 c3 i1 i2 j1 j2 KD GD hd1 hd3 fn
        go_wp2_with fail
        go_quiet ((go_at_call 20; exact Calls.quiet_of_same ((KD.out _).mono fun _ _ h => ⟨h.1, h.2.symm⟩)))
        go_wp2_with fail
        refine (GD.out true hd3.out _).mono ?_
        rintro e w1 ⟨rfl, rfl⟩
        go_wp2_with fail
        exact bodyPost_ret (v := .tuple #[v0.val, .int .i64 5]) (by simp [results, Tryd.results16, go_sem, Va.val, v0, q0, q1, q2, Nat.ne_of_lt lt0, lt0]) rfl ⟨by rw [← hrec.out], (((e_drewN hb.out _).setCell (by simp) _).setCell (by simp) _).setCell (by simp) _⟩
      · rw [ofVs_take hin hkd hvm] at hrec
        have hd3 : Hid (decide (vmost (f.num - b + 1) < f.val) = false) := Lib.hid (decide_eq_false hvm)
        replace hrec := Lib.hid hrec
        replace hkd := Lib.hid hkd
        replace hvm := Lib.hid hvm
        clear hin
        obtain ⟨fnum, fkind, fval, ftext⟩ := f
        simp only at c0 c1 c2 c3 i1 i2 j1 j2 KD GD hd1 hd3 fn
        go_wp2_with fail
        go_quiet ((go_at_call 20; exact Calls.quiet_of_same ((KD.out _).mono fun _ _ h => ⟨h.1, h.2.symm⟩)))
        go_wp2_with fail
        refine (GD.out false hd3.out _).mono ?_
        rintro e w1 ⟨rfl, rfl⟩
        go_wp2_with fail
        have V1 := Blk.drewN hv1.out nq
        have V0 := Lib.hid (Blk.drewN hv0.out nq)
        have b5 := Lib.hid (e_drewN hb.out nq)
        have d2 : (wr.drewN nq).cell? ⟨bb, o + k * 4 + 2, none⟩ = some (.int .u64 (fval : Nat)) := by simpa using c2
        have d3 : (wr.drewN nq).cell? ⟨bb, o + k * 4 + 3, none⟩ = some (.string ftext) := by simpa using c3
        generalize wr.drewN nq = W5 at *
        obtain ⟨s0, s1, s2, x0, x1, x2⟩ := VB.cells V1
        replace V1 := Lib.hid V1
        go_still_tail 12, (by kernel_rfl)
        go_wp2_with fail
        go_roundw
        case rel => exact ⟨k + 1, by simp, by omega, ⟨fnum - b + 1, fval, ftext⟩, Blk.far (Blk.far (Blk.far (Blk.drewN V0.out 1) (by simp) _) (by simp) _) (by simp) _, VB.set3 (u := ⟨fnum - b + 1, fval, ftext⟩) (Blk.drewN V1.out 1), hrec.out, (((e_drewN b5.out 1).setCell (by simp) _).setCell (by simp) _).setCell (by simp) _⟩
        case measure => simp [intOf]; omega
    · rw [ofVs_form hin hkd] at hrec
      have hd1 : (f.kind != vkind (f.num - b + 1)) = true := by simpa using hkd
      replace hrec := Lib.hid hrec
      replace hkd := Lib.hid hkd
      clear hin
      obtain ⟨fnum, fkind, fval, ftext⟩ := f
      simp only at c0 c1 c2 c3 i1 i2 j1 j2 KD GD hd1 fn
      go_wp2_with fail
      go_quiet ((go_at_call 20; exact Calls.quiet_of_same ((KD.out _).mono fun _ _ h => ⟨h.1, h.2.symm⟩)))
      go_wp2_with fail
      exact bodyPost_ret (v := .tuple #[v0.val, .int .i64 4]) (by simp [results, Tryd.results16, go_sem, Va.val, v0, q0, q1, q2, Nat.ne_of_lt lt0, lt0]) rfl ⟨by rw [← hrec.out], (((e_drewN hb.out _).setCell (by simp) _).setCell (by simp) _).setCell (by simp) _⟩
theorem of16_any (v : Value) (l : List Fd) (b : Int) (raw : Bool) (w : World) (hs : FdsAt w v l) (hok : ∀ f ∈ l, f.ok) : Calls Tryd.prog 16 #[v, .int .i64 b, .bool raw] w (OfV (ofVal b raw l) w) := by
  unfold ofVal
  by_cases h : b < 1 ∨ 1000 < b
  · rw [if_pos h]
    obtain ⟨a, cap, rfl, -⟩ := hs
    exact of16_base _ b raw w (by omega) ⟨_, _, _, rfl⟩
  · rw [if_neg h]
    cases raw
    · exact of16_false v l b w hs hok (by omega) (by omega)
    · exact of16_true v l b w hs hok (by omega) (by omega)
end Go.Proofs.YtoglgdkeknojkaaDoor
