/-
  LAYER 20: the levels of a spot's topic.
-/
import Derived.Test.YtbmelmmefgehoaaDoorWd
import Derived.StillTailTactics
namespace Go.Proofs.YtbmelmmefgehoaaDoor
open Go.RowKit

abbrev fst' : ByteArray := ⟨#[115, 112, 66, 118, 49, 46, 48]⟩
abbrev state' : ByteArray := ⟨#[83, 84, 65, 84, 69]⟩
theorem Tabs.drew {w : World} (h : Tabs w) : Tabs w.drew := h
def levelsL (k : Nat) (G N D : ByteArray) : List ByteArray := if k = 9 then [fst', state', N] else [fst', G, wordI k, N] ++ (if dB k then [D] else [])
set_option maxHeartbeats 1000000 in
set_option maxRecDepth 100000 in
theorem lev_state (G N D : ByteArray) (w : World) : Calls Tryd.prog 22 #[.agg #[.int .i64 9, .string G, .string N, .string D]] w (StrsIs [fst', state', N] w) := by
  have b1 : Below w.heap.size w ((w.alloc (.cells #[.int .i64 9, .string G, .string N, .string D] 23)).alloc (.cells #[.string fst', .string state', .string N] 9)) := (ext_alloc w _).alloc (by simp) _
  have o1 : ((w.alloc (.cells #[.int .i64 9, .string G, .string N, .string D] 23)).alloc (.cells #[.string fst', .string state', .string N] 9)).ownsRow (w.heap.size + 1) 9 1 (.slice (some ⟨w.heap.size + 1, 0, none⟩) 3 3) 3 (sl [fst', state', N]) := by
    have := own_made (w.alloc (.cells #[.int .i64 9, .string G, .string N, .string D] 23)) (w.heap.size + 1) (by simp) [fst', state', N] (by simp)
    simpa [sl] using this
  replace b1 := Lib.hid b1
  replace o1 := Lib.hid o1
  go_enter Tryd.func22, Tryd.ntmps22
  go_wp2_with fail
  go_ret
  exact ⟨_, rfl, own_base (B := w.heap.size + 1) o1.out (by omega), b1.out⟩
set_option maxHeartbeats 1000000 in
set_option maxRecDepth 100000 in
theorem lev_0 (k : Nat) (h9 : k ≠ 9) (G N D : ByteArray) (w : World) (ht : Tabs w) (HD : ∀ w, Tabs w → Calls Tryd.prog 17 #[.int .i64 (k : Int)] w (Same (.bool false) w)) : Calls Tryd.prog 22 #[.agg #[.int .i64 (k : Int), .string G, .string N, .string D]] w (StrsIs ([fst', G, wordI k, N]) w) := by
  obtain ⟨i0, hi, hz0, hz1, hz2⟩ := info_parts Tryd.info9
  replace hi := Lib.hid hi
  replace hz0 := Lib.hid hz0
  replace hz1 := Lib.hid hz1
  replace hz2 := Lib.hid hz2
  replace HD := Lib.hid HD
  have k9 : ((k : Int) == 9) = false := by rw [beq_eq_false_iff_ne]; omega
  have W := Lib.hid (fun w h => word_any k w h)
  have b0 : Below w.heap.size w (w.alloc (.cells #[.int .i64 (k : Int), .string G, .string N, .string D] 23)) := ext_alloc w _
  have t0 := ht.keep b0
  have s0 := SpotAt.new w k G N D
  have z0 : (w.alloc (.cells #[.int .i64 (k : Int), .string G, .string N, .string D] 23)).heap.size = w.heap.size + 1 := by simp
  replace h9 := Lib.hid h9
  replace b0 := Lib.hid b0
  replace t0 := Lib.hid t0
  replace s0 := Lib.hid s0
  replace z0 := Lib.hid z0
  clear ht
  go_enter Tryd.func22, Tryd.ntmps22
  go_wp2_with fail
  generalize w.alloc (.cells #[.int .i64 (k : Int), .string G, .string N, .string D] 23) = w0 at *
  have c0 : w0.cell? ⟨w.heap.size, 0, none⟩ = some (.int .i64 (k : Int)) := s0.out.1
  have c1 : w0.cell? ⟨w.heap.size, 1, none⟩ = some (.string G) := s0.out.2.1
  have c2 : w0.cell? ⟨w.heap.size, 2, none⟩ = some (.string N) := s0.out.2.2.1
  go_still_tail 7, (by kernel_rfl)
  still_call ((W.out _ t0.out.drew).mono fun _ _ h => h)
  repeat still_step
  refine wpStill_nil ?_
  have z1 : w0.drew.heap.size = w.heap.size + 1 := z0.out
  have b1 := Lib.hid b0.out.drew
  have s1 := Lib.hid (s0.out.keep ((Below.refl (w.heap.size + 1) w0).drew) (by omega))
  have t1 := Lib.hid t0.out.drew
  change wpList _ _ _ _ _ w0.drew
  generalize w0.drew = w1 at *
  clear c0 c1 c2 b0 t0 s0 z0
  have b2 : Below (w.heap.size + 1) w1 (w1.alloc (.cells #[.string fst', .string G, .string (wordI k), .string N] 9)) := (Below.refl _ _).alloc (by omega) _
  have o1 : (w1.alloc (.cells #[.string fst', .string G, .string (wordI k), .string N] 9)).ownsRow (w.heap.size + 1) 9 1 (.slice (some ⟨w.heap.size + 1, 0, none⟩) 4 4) 4 (sl [fst', G, wordI k, N]) := by
    rw [← z1]
    have := own_made w1 (w1.heap.size) (by omega) [fst', G, wordI k, N] (by simp)
    simpa [sl] using this
  have b3 := Lib.hid (b1.out.trans (b2.mono (by omega)))
  have t3 := Lib.hid (t1.out.keepB b2 (by omega))
  have s3 := s1.out.keep b2 (by omega)
  have d0 := s3.1
  have d1 := s3.2.2.2
  have z3 : (w1.alloc (.cells #[.string fst', .string G, .string (wordI k), .string N] 9)).heap.size = w.heap.size + 2 := by simp; omega
  replace o1 := Lib.hid o1
  have n1 : w.heap.size < w1.heap.size := by omega
  have n2 : w.heap.size ≠ w1.heap.size := by omega
  have e0 := s1.out.1
  have e3 := s1.out.2.2.2
  replace b2 := Lib.hid b2
  clear s3
  go_wp2_with fail
  refine (HD.out _ t3.out).mono ?_
  rintro e w4 ⟨rfl, rfl⟩
  go_wp2_with fail
  go_ret
  exact ⟨_, rfl, own_base (B := w.heap.size + 1) o1.out (by omega), b3.out⟩
set_option maxHeartbeats 1000000 in
set_option maxRecDepth 100000 in
theorem lev_1 (k : Nat) (h9 : k ≠ 9) (G N D : ByteArray) (w : World) (ht : Tabs w) (HD : ∀ w, Tabs w → Calls Tryd.prog 17 #[.int .i64 (k : Int)] w (Same (.bool true) w)) : Calls Tryd.prog 22 #[.agg #[.int .i64 (k : Int), .string G, .string N, .string D]] w (StrsIs ([fst', G, wordI k, N] ++ [D]) w) := by
  obtain ⟨i0, hi, hz0, hz1, hz2⟩ := info_parts Tryd.info9
  replace hi := Lib.hid hi
  replace hz0 := Lib.hid hz0
  replace hz1 := Lib.hid hz1
  replace hz2 := Lib.hid hz2
  replace HD := Lib.hid HD
  have k9 : ((k : Int) == 9) = false := by rw [beq_eq_false_iff_ne]; omega
  have W := Lib.hid (fun w h => word_any k w h)
  have b0 : Below w.heap.size w (w.alloc (.cells #[.int .i64 (k : Int), .string G, .string N, .string D] 23)) := ext_alloc w _
  have t0 := ht.keep b0
  have s0 := SpotAt.new w k G N D
  have z0 : (w.alloc (.cells #[.int .i64 (k : Int), .string G, .string N, .string D] 23)).heap.size = w.heap.size + 1 := by simp
  replace h9 := Lib.hid h9
  replace b0 := Lib.hid b0
  replace t0 := Lib.hid t0
  replace s0 := Lib.hid s0
  replace z0 := Lib.hid z0
  clear ht
  go_enter Tryd.func22, Tryd.ntmps22
  go_wp2_with fail
  generalize w.alloc (.cells #[.int .i64 (k : Int), .string G, .string N, .string D] 23) = w0 at *
  have c0 : w0.cell? ⟨w.heap.size, 0, none⟩ = some (.int .i64 (k : Int)) := s0.out.1
  have c1 : w0.cell? ⟨w.heap.size, 1, none⟩ = some (.string G) := s0.out.2.1
  have c2 : w0.cell? ⟨w.heap.size, 2, none⟩ = some (.string N) := s0.out.2.2.1
  go_still_tail 7, (by kernel_rfl)
  still_call ((W.out _ t0.out.drew).mono fun _ _ h => h)
  repeat still_step
  refine wpStill_nil ?_
  have z1 : w0.drew.heap.size = w.heap.size + 1 := z0.out
  have b1 := Lib.hid b0.out.drew
  have s1 := Lib.hid (s0.out.keep ((Below.refl (w.heap.size + 1) w0).drew) (by omega))
  have t1 := Lib.hid t0.out.drew
  change wpList _ _ _ _ _ w0.drew
  generalize w0.drew = w1 at *
  clear c0 c1 c2 b0 t0 s0 z0
  have b2 : Below (w.heap.size + 1) w1 (w1.alloc (.cells #[.string fst', .string G, .string (wordI k), .string N] 9)) := (Below.refl _ _).alloc (by omega) _
  have o1 : (w1.alloc (.cells #[.string fst', .string G, .string (wordI k), .string N] 9)).ownsRow (w.heap.size + 1) 9 1 (.slice (some ⟨w.heap.size + 1, 0, none⟩) 4 4) 4 (sl [fst', G, wordI k, N]) := by
    rw [← z1]
    have := own_made w1 (w1.heap.size) (by omega) [fst', G, wordI k, N] (by simp)
    simpa [sl] using this
  have b3 := Lib.hid (b1.out.trans (b2.mono (by omega)))
  have t3 := Lib.hid (t1.out.keepB b2 (by omega))
  have s3 := s1.out.keep b2 (by omega)
  have d0 := s3.1
  have d1 := s3.2.2.2
  have z3 : (w1.alloc (.cells #[.string fst', .string G, .string (wordI k), .string N] 9)).heap.size = w.heap.size + 2 := by simp; omega
  replace o1 := Lib.hid o1
  have n1 : w.heap.size < w1.heap.size := by omega
  have n2 : w.heap.size ≠ w1.heap.size := by omega
  have e0 := s1.out.1
  have e3 := s1.out.2.2.2
  replace b2 := Lib.hid b2
  clear s3
  go_wp2_with fail
  refine (HD.out _ t3.out).mono ?_
  rintro e w4 ⟨rfl, rfl⟩
  go_wp2_with (at_builtin; go_must (refine wpList_append_own_at _ rfl (.tmp 21) (.tmp 24) 39 rfl (w.heap.size + 1) 9 i0 (.string ⟨#[]⟩) 1 16 Tryd.underlying39 hi.out hz0.out hz1.out hz2.out rfl (by decide) _ 4 (sl [fst', G, wordI k, N]) rfl (o1.out.alloc _) ⟨w.heap.size + 2, 0, none⟩ 1 1 [.string D] rfl rfl (cell_new_at _ _ (by simp; omega) _ _) (by intro u hu; simp at hu; subst hu; rfl) (by unfold maxLen; omega) (by simp) (by simp; omega) ?_); intro v4 w4 o4 gr4 n4 nb4)
  have k4 : Below (w.heap.size + 1) (w1.alloc (.cells #[.string fst', .string G, .string (wordI k), .string N] 9)) w4 := ((Below.refl _ _).alloc (by omega) _).grown gr4 (by simp; omega) (fun j hj => (o1.out.lt j hj).1)
  have b4 := Lib.hid (b3.out.trans (k4.mono (by omega)))
  go_wp2_with fail
  go_ret
  exact ⟨_, rfl, own_base (show w4.ownsRow (w.heap.size + 1) 9 1 v4 5 (sl [fst', G, wordI k, N, D]) from o4) (by omega), b4.out⟩
end Go.Proofs.YtbmelmmefgehoaaDoor
