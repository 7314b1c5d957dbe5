/-
  LAYER 20: Births; awake.
-/
import Derived.Test.YtbmelmmefgehoaaDoorWi
namespace Go.Proofs.YtbmelmmefgehoaaDoor
open Go.RowKit

def TwoIs (r : ByteArray × ByteArray) (w : World) (e : Ending) (w' : World) : Prop := e = .returned (.tuple #[.string r.1, .string r.2]) ∧ Below w.heap.size w w'
def birthsB (K : Int) (G N D : ByteArray) : ByteArray × ByteArray :=
  if K = 0 ∨ K = 9 then (⟨#[]⟩, ⟨#[]⟩)
  else if (putB 1 G N ⟨#[]⟩).2 ≠ 0 then (⟨#[]⟩, ⟨#[]⟩)
  else if D = ⟨#[]⟩ then ((putB 1 G N ⟨#[]⟩).1, ⟨#[]⟩)
  else if (putB 5 G N D).2 ≠ 0 then (⟨#[]⟩, ⟨#[]⟩)
  else ((putB 1 G N ⟨#[]⟩).1, (putB 5 G N D).1)
set_option maxHeartbeats 1000000 in
set_option maxRecDepth 100000 in
theorem births_0 (G N D : ByteArray) (w : World) : Calls Tryd.prog 15 #[.agg #[.int .i64 0, .string G, .string N, .string D]] w (TwoIs (⟨#[]⟩, ⟨#[]⟩) w) := by
  go_enter Tryd.func15, Tryd.ntmps15
  go_wp2_with fail
  go_ret2
  exact ⟨rfl, ext_alloc _ _⟩
set_option maxHeartbeats 1000000 in
set_option maxRecDepth 100000 in
theorem births_9 (G N D : ByteArray) (w : World) : Calls Tryd.prog 15 #[.agg #[.int .i64 9, .string G, .string N, .string D]] w (TwoIs (⟨#[]⟩, ⟨#[]⟩) w) := by
  go_enter Tryd.func15, Tryd.ntmps15
  go_wp2_with fail
  go_ret2
  exact ⟨rfl, ext_alloc _ _⟩
set_option maxHeartbeats 1000000 in
set_option maxRecDepth 100000 in
theorem births_any (K : Int) (G N D : ByteArray) (w : World) (ht : Tabs w) (hG : G.size ≤ 1048576) (hN : N.size ≤ 1048576) (hD : D.size ≤ 1048576) : Calls Tryd.prog 15 #[.agg #[.int .i64 K, .string G, .string N, .string D]] w (TwoIs (birthsB K G N D) w) := by
  by_cases h0 : K = 0
  · have : birthsB K G N D = (⟨#[]⟩, ⟨#[]⟩) := by unfold birthsB; rw [if_pos (.inl h0)]
    rw [this, h0]; exact births_0 G N D w
  by_cases h9 : K = 9
  · have : birthsB K G N D = (⟨#[]⟩, ⟨#[]⟩) := by unfold birthsB; rw [if_pos (.inr h9)]
    rw [this, h9]; exact births_9 G N D w
  have k0 : (K == 0) = false := by rw [beq_eq_false_iff_ne]; exact h0
  have k9 : (K == 9) = false := by rw [beq_eq_false_iff_ne]; exact h9
  have P1 := Lib.hid fun w h => put_all 1 G N ⟨#[]⟩ w h hG hN (by decide)
  have P5 := Lib.hid fun w h => put_all 5 G N D w h hG hN hD
  generalize hr : birthsB K G N D = r
  unfold birthsB at hr
  rw [if_neg (by rintro (h | h); exact h0 h; exact h9 h)] at hr
  generalize putB 1 G N ⟨#[]⟩ = p1 at *
  generalize putB 5 G N D = p5 at *
  obtain ⟨n1, x1⟩ := p1
  obtain ⟨n5, x5⟩ := p5
  simp only at hr
  have b0 := ext_alloc w (.cells #[.int .i64 K, .string G, .string N, .string D] 23)
  have t0 := Lib.hid (ht.keep b0)
  have s0 : SpotAt (w.alloc (.cells #[.int .i64 K, .string G, .string N, .string D] 23)) w.heap.size K G N D := ⟨by rw [World.cell?_alloc_at _ _ _ _ rfl]; rfl, by rw [World.cell?_alloc_at _ _ _ _ rfl]; rfl, by rw [World.cell?_alloc_at _ _ _ _ rfl]; rfl, by rw [World.cell?_alloc_at _ _ _ _ rfl]; rfl⟩
  replace s0 := Lib.hid s0
  replace b0 := Lib.hid b0
  replace h0 := Lib.hid h0
  replace h9 := Lib.hid h9
  clear ht hG hN hD
  by_cases hx1 : x1 = 0
  · have y1 : (x1 != 0) = false := by rw [hx1]; rfl
    rw [if_neg (by simpa using hx1)] at hr
    replace hx1 := Lib.hid hx1
    by_cases hD : D = ⟨#[]⟩
    · rw [if_pos hD] at hr
      subst hD
      replace hr := Lib.hid hr
      go_enter Tryd.func15, Tryd.ntmps15
      go_wp2_with fail
      refine (P1.out _ t0.out).mono ?_
      rintro e w1 ⟨rfl, b1⟩
      obtain ⟨c0, c1, c2, c3⟩ := s0.out.keep b1 (by simp)
      have B1 := Lib.hid (ext_trans b0.out b1)
      clear b1
      go_wp2_with fail
      go_ret2
      exact ⟨by rw [← hr.out]; rfl, B1.out⟩
    · rw [if_neg hD] at hr
      have yd := ne_empty hD
      replace hD := Lib.hid hD
      by_cases hx5 : x5 = 0
      · have y5 : (x5 != 0) = false := by rw [hx5]; rfl
        rw [if_neg (by simpa using hx5)] at hr
        replace hx5 := Lib.hid hx5
        replace hr := Lib.hid hr
        go_enter Tryd.func15, Tryd.ntmps15
        go_wp2_with fail
        refine (P1.out _ t0.out).mono ?_
        rintro e w1 ⟨rfl, b1⟩
        obtain ⟨c0, c1, c2, c3⟩ := s0.out.keep b1 (by simp)
        have t1 := Lib.hid (t0.out.keep b1)
        have B1 := Lib.hid (ext_trans b0.out b1)
        clear b1
        go_wp2_with fail
        refine (P5.out _ t1.out).mono ?_
        rintro e w2 ⟨rfl, b2⟩
        have B2 := Lib.hid (ext_trans B1.out b2)
        clear b2
        go_wp2_with fail
        go_ret2
        exact ⟨by rw [← hr.out]; rfl, B2.out⟩
      · have y5 : (x5 != 0) = true := by unfold bne; rw [show (x5 == 0) = false from by rw [beq_eq_false_iff_ne]; exact hx5]; rfl
        rw [if_pos hx5] at hr
        replace hx5 := Lib.hid hx5
        replace hr := Lib.hid hr
        go_enter Tryd.func15, Tryd.ntmps15
        go_wp2_with fail
        refine (P1.out _ t0.out).mono ?_
        rintro e w1 ⟨rfl, b1⟩
        obtain ⟨c0, c1, c2, c3⟩ := s0.out.keep b1 (by simp)
        have t1 := Lib.hid (t0.out.keep b1)
        have B1 := Lib.hid (ext_trans b0.out b1)
        clear b1
        go_wp2_with fail
        refine (P5.out _ t1.out).mono ?_
        rintro e w2 ⟨rfl, b2⟩
        have B2 := Lib.hid (ext_trans B1.out b2)
        clear b2
        go_wp2_with fail
        go_ret2
        exact ⟨by rw [← hr.out]; rfl, B2.out⟩
  · have y1 : (x1 != 0) = true := by unfold bne; rw [show (x1 == 0) = false from by rw [beq_eq_false_iff_ne]; exact hx1]; rfl
    rw [if_pos hx1] at hr
    replace hx1 := Lib.hid hx1
    replace hr := Lib.hid hr
    go_enter Tryd.func15, Tryd.ntmps15
    go_wp2_with fail
    refine (P1.out _ t0.out).mono ?_
    rintro e w1 ⟨rfl, b1⟩
    have B1 := Lib.hid (ext_trans b0.out b1)
    clear b1
    go_wp2_with fail
    go_ret2
    exact ⟨by rw [← hr.out]; rfl, B1.out⟩
abbrev topicA : ByteArray := ⟨#[115, 112, 66, 118, 49, 46, 48, 47, 103, 47, 78, 66, 73, 82, 84, 72, 47, 110]⟩
theorem of_a : ofB topicA = ⟨1, ⟨#[103]⟩, ⟨#[110]⟩, ⟨#[]⟩⟩ := by
  obtain ⟨k, e, h⟩ := of_put (K := 1) (G := ⟨#[103]⟩) (N := ⟨#[110]⟩) (D := ⟨#[]⟩) (t := topicA) (by decide +kernel)
  have : k = 1 := by omega
  rw [h, this]
theorem word_a : wordI 8 = ⟨#[68, 67, 77, 68]⟩ := by decide +kernel
set_option maxHeartbeats 1000000 in
set_option maxRecDepth 100000 in
theorem awake_any (w : World) (ht : Tabs w) : Calls Tryd.prog 10 #[] w (Yes' w) := by
  have O := of_any topicA w ht (by decide)
  rw [of_a] at O
  have W := fun w h => word_any 8 w h
  rw [word_a] at W
  replace W := Lib.hid W
  replace O := Lib.hid O
  replace ht := Lib.hid ht
  go_enter Tryd.func10, Tryd.ntmps10
  go_wp2_with fail
  refine O.out.mono ?_
  rintro e w1 ⟨rfl, b1⟩
  have t1 := Lib.hid (ht.out.keep b1)
  replace b1 := Lib.hid b1
  go_wp2_with fail
  refine (W.out _ t1.out).mono ?_
  rintro e w2 ⟨rfl, rfl⟩
  go_wp2_with fail
  go_ret
  exact ⟨rfl, b1.out⟩
end Go.Proofs.YtbmelmmefgehoaaDoor
