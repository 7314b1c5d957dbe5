/-
  LAYER 25: New, and what only looks.
-/
import Derived.Test.YtceiipcdkonnlaaXb
import Derived.Test.YtceiipcdkonnlaaQg
import Derived.Test.YtceiipcdkonnlaaUc
import Derived.Test.YtceiipcdkonnlaaJd
namespace Go.Proofs.Ytceiipcdkonnlaa.Ses
open Go.RowKit Que Hp Ids Fli
set_option linter.unusedSimpArgs false
set_option linter.unusedVariables false
section
variable {A : Nat → Prop} {w : World} {a : Ad} {cl : ByteArray} {cn on : Bool} {T : List Bool} {L : List Se} {l : List Mg} {lost : Int}
theorem s_none (h : Ss A w a cl cn on T L l lost) : Calls Try.prog 34 #[.pointer (some ⟨a.s, 0, none⟩)] w fun e w' => e = .returned (.bool false) ∧ w = w' := by
  have s3 := h.s3
  replace h := Lib.hid h
  go_enter Try.func34, Try.ntmps34
  go_wp2
  go_ret
  exact ⟨rfl, rfl⟩
theorem s_in (h : Ss A w a cl cn on T L l lost) : Calls Try.prog 38 #[.pointer (some ⟨a.s, 0, none⟩)] w fun e w' => e = .returned (.pointer (some ⟨a.ps, 0, none⟩)) ∧ w = w' := by
  have s3 := h.s3
  have N := Lib.hid (s_none h)
  replace h := Lib.hid h
  go_enter Try.func38, Try.ntmps38
  go_wp2_with fail
  refine N.out.mono ?_
  rintro e w1 ⟨rfl, rfl⟩
  go_wp2_with fail
  go_ret
  exact ⟨rfl, rfl⟩
theorem s_online (h : Ss A w a cl cn on T L l lost) : Calls Try.prog 22 #[.pointer (some ⟨a.s, 0, none⟩)] w fun e w' => e = .returned (.bool on) ∧ w = w' := by
  have s2 := h.s2
  have N := Lib.hid (s_none h)
  replace h := Lib.hid h
  go_enter Try.func22, Try.ntmps22
  go_wp2_with fail
  refine N.out.mono ?_
  rintro e w1 ⟨rfl, rfl⟩
  go_wp2_with fail
  go_ret
  exact ⟨rfl, rfl⟩
theorem s_lost (h : Ss A w a cl cn on T L l lost) : Calls Try.prog 16 #[.pointer (some ⟨a.s, 0, none⟩)] w fun e w' => e = .returned (.int .i64 lost) ∧ w = w' := by
  have p0 := h.p0
  have N := Lib.hid (s_in h)
  have Q := Lib.hid (Quu.lost_any h.qu)
  replace h := Lib.hid h
  go_enter Try.func16, Try.ntmps16
  go_wp2_with fail
  refine N.out.mono ?_
  rintro e w1 ⟨rfl, rfl⟩
  go_wp2_with fail
  refine Q.out.mono ?_
  rintro e w1 ⟨rfl, rfl⟩
  go_wp2_with fail
  go_ret
  exact ⟨rfl, rfl⟩
/-- What is on its way. -/
theorem s_flight (h : Ss A w a cl cn on T L l lost) : Calls Try.prog 15 #[.pointer (some ⟨a.s, 0, none⟩)] w (AllF L w) := by
  have p1 := h.p1
  have N := Lib.hid (s_in h)
  have F := Lib.hid (f_all h.fs)
  replace h := Lib.hid h
  go_enter Try.func15, Try.ntmps15
  go_wp2_with fail
  refine N.out.mono ?_
  rintro e w1 ⟨rfl, rfl⟩
  go_wp2_with fail
  refine F.out.mono ?_
  rintro e w1 ⟨v, rfl, o1, b1⟩
  go_wp2_with fail
  go_ret
  exact ⟨v, rfl, o1, b1⟩
/-- What waits. -/
theorem s_queue (h : Ss A w a cl cn on T L l lost) : Calls Try.prog 14 #[.pointer (some ⟨a.s, 0, none⟩)] w fun e w' => ∃ v, e = .returned v ∧ w'.ownsRow w.heap.size 30 4 v l.length (msAtC l) ∧ Ss A w' a cl cn on T L l lost ∧ Kp A w w' ∧ w.grownBy w' (some a.qc) := by
  have p0 := h.p0
  have N := Lib.hid (s_in h)
  have Q := Lib.hid (Quu.all_any h.qu (by have := h.le; omega) h.le)
  have H := Lib.hid h
  clear h
  go_enter Try.func14, Try.ntmps14
  go_wp2_with fail
  refine N.out.mono ?_
  rintro e w1 ⟨rfl, rfl⟩
  go_wp2_with fail
  refine Q.out.mono ?_
  rintro e w1 ⟨v, rfl, o1, q1, g1⟩
  obtain ⟨S1, K1⟩ := H.out.onQ q1 g1 (.inl rfl) H.out.le H.out.ql
  replace S1 := Lib.hid S1
  replace K1 := Lib.hid K1
  replace o1 := Lib.hid o1
  replace g1 := Lib.hid g1
  clear q1
  go_wp2_with fail
  go_ret
  exact ⟨v, rfl, o1.out, S1.out, K1.out, g1.out⟩
end
set_option maxHeartbeats 4000000 in
theorem new_ok (cl : ByteArray) (cn : Bool) (w : World) (hs : cl.size ≤ 32) (hne : cl.toList.isEmpty = false) (hr : rightB cl = true) : Calls Try.prog 8 #[.string cl, .bool cn] w fun e w' => ∃ a, e = .returned (.tuple #[.pointer (some ⟨a.s, 0, none⟩), .int .i64 0]) ∧ Ss (fun k => k < w.heap.size) w' a cl cn false [] [] [] 0 ∧ Below w.heap.size w w' := by
  have RA := right_any cl w
  rw [hr] at RA
  replace RA := Lib.hid RA
  have QN : Hid (∀ w1 : World, Calls Try.prog 31 #[.int .i64 16] w1 fun e w' => e = .returned (.tuple #[.pointer (some ⟨w1.heap.size + 1, 0, none⟩), .int .i64 0]) ∧ Quu.Qu w' (w1.heap.size + 1) w1.heap.size 16 [] 0 ∧ Below w1.heap.size w1 w' ∧ w'.heap.size = w1.heap.size + 2) := Lib.hid fun w1 => Quu.new_any 16 w1 (by decide) (by decide)
  have hs' : (cl.size : Int) ≤ 32 := by omega
  replace hr := Lib.hid hr
  clear hs
  go_enter Try.func8, Try.ntmps8
  go_wp2_with fail
  refine RA.out.mono ?_
  rintro e w1 ⟨rfl, b1⟩
  replace b1 := Lib.hid b1
  clear RA
  go_wp2_with fail
  refine (QN.out _).mono ?_
  rintro e w2 ⟨rfl, q2, b2, z2⟩
  replace b2 := Lib.hid b2
  replace q2 := Lib.hid q2
  replace z2 := Lib.hid z2
  clear QN
  go_wp2_with fail
  refine (f_new _).mono ?_
  rintro e w3 ⟨f, g, rfl, f3, b3⟩
  replace b3 := Lib.hid b3
  replace f3 := Lib.hid f3
  go_wp2_with fail
  refine (Inb.new24_any _).mono ?_
  rintro e w4 ⟨rfl, x4, b4⟩
  replace b4 := Lib.hid b4
  replace x4 := Lib.hid x4
  go_wp2_with fail
  go_ret2
  have l4 := x4.out.lt
  have y1 := b1.out.size
  have y2 := z2.out
  have y3 := b3.out.size
  have B35 : Below w3.heap.size w3 ((w4.alloc (.cells #[.pointer (some ⟨w1.heap.size + 1, 0, none⟩), .pointer (some ⟨f, 0, none⟩), .pointer (some ⟨w3.heap.size, 0, none⟩)] 72)).alloc (.cells #[.string cl, .bool cn, .bool false, .pointer (some ⟨w4.heap.size, 0, none⟩)] 47)) := (b4.out.alloc b4.out.size _).alloc (by have := b4.out.size; simp; omega) _
  have B25 := b3.out.trans (B35.mono y3)
  refine ⟨⟨w4.heap.size + 1, w4.heap.size, w1.heap.size + 1, w1.heap.size, f, g, w3.heap.size⟩, by simp, ⟨?_, ?_, q2.out.keep B25, ?_, ?_, by simp, by simp⟩, (b1.out.trans ((b2.out.trans (B25.mono b2.out.size)).mono y1))⟩
  · have := heap_alloc_new (w4.alloc (.cells #[.pointer (some ⟨w1.heap.size + 1, 0, none⟩), .pointer (some ⟨f, 0, none⟩), .pointer (some ⟨w3.heap.size, 0, none⟩)] 72)) (.cells #[.string cl, .bool cn, .bool false, .pointer (some ⟨w4.heap.size, 0, none⟩)] 47)
    simpa using this
  · show ((w4.alloc _).alloc _).heap[w4.heap.size]? = _
    rw [Below.heap_alloc _ _ _ (by simp)]
    exact heap_alloc_new w4 _
  · refine f3.out.more B35 ?_
    rintro k (hk | rfl | rfl | rfl | rfl | rfl)
    · have hk' : k < w.heap.size := hk
      left; show k < w2.heap.size; omega
    · right; simp; omega
    · right; simp; omega
    · left; show w1.heap.size + 1 < w2.heap.size; omega
    · left; show w1.heap.size < w2.heap.size; omega
    · right; simp; omega
  · intro k hk
    have hk' : k < w.heap.size := hk
    have := b2.out.size
    have := b4.out.size
    show k ≠ w4.heap.size + 1 ∧ k ≠ w4.heap.size ∧ k ≠ w1.heap.size + 1 ∧ k ≠ w1.heap.size ∧ k ≠ w3.heap.size
    omega
end Go.Proofs.Ytceiipcdkonnlaa.Ses
