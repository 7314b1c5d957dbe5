/-
  LAYER 6: Joined, the document's.
-/
import Derived.Test.YtoglgdkeknojkaaMh
import Derived.StillTailTactics
namespace Go.Proofs.Ytoglgdkeknojkaa
open Go.RowKit

def laterS (a b : ByteArray) : ByteArray := if b.size = 0 then a else b
def laterN (a b : Nat) : Nat := if b = 0 then a else b
def joinD (a b : Me) : Me := ⟨a.multi || b.multi, laterS a.type b.type, laterN a.size b.size, laterN a.seq b.seq, laterS a.file b.file, laterS a.kind b.kind, laterS a.md5 b.md5, laterS a.desc b.desc⟩
set_option maxRecDepth 100000 in
theorem later_any (a b : ByteArray) (w : World) : Calls Try.prog 18 #[.string a, .string b] w fun e w' => e = .returned (.string (laterS a b)) ∧ w' = w := by
  unfold laterS
  by_cases h : b.size = 0
  · rw [if_pos h]
    obtain rfl := size0 h
    replace h := Lib.hid h
    go_enter Try.func18, Try.ntmps18
    go_wp2
    go_ret
    exact ⟨rfl, rfl⟩
  · rw [if_neg h]
    have h1 := size1 h
    replace h := Lib.hid h
    go_enter Try.func18, Try.ntmps18
    go_wp2
    go_ret
    exact ⟨rfl, rfl⟩
set_option maxRecDepth 100000 in
theorem number_any (a b : Nat) (w : World) : Calls Try.prog 19 #[.int .u64 (a : Nat), .int .u64 (b : Nat)] w fun e w' => e = .returned (.int .u64 (laterN a b : Nat)) ∧ w' = w := by
  unfold laterN
  by_cases h : b = 0
  · subst h
    rw [if_pos rfl]
    go_enter Try.func19, Try.ntmps19
    go_wp2
    go_ret
    exact ⟨rfl, rfl⟩
  · rw [if_neg h]
    have h1 : ((b : Int) != 0) = true := by simpa using h
    replace h := Lib.hid h
    go_enter Try.func19, Try.ntmps19
    go_wp2
    go_ret
    exact ⟨rfl, rfl⟩
theorem ja0 (b m : Me) : joinAt b m 0 = { m with multi := m.multi || b.multi } := by
  obtain ⟨m0, m1, m2, m3, m4, m5, m6, m7⟩ := m
  obtain ⟨b0, b1, b2, b3, b4, b5, b6, b7⟩ := b
  cases b0
  · have : joinAt ⟨false, b1, b2, b3, b4, b5, b6, b7⟩ ⟨m0, m1, m2, m3, m4, m5, m6, m7⟩ 0 = ⟨m0, m1, m2, m3, m4, m5, m6, m7⟩ := if_pos ⟨rfl, rfl⟩
    rw [this]; simp
  · have : joinAt ⟨true, b1, b2, b3, b4, b5, b6, b7⟩ ⟨m0, m1, m2, m3, m4, m5, m6, m7⟩ 0 = ⟨true, m1, m2, m3, m4, m5, m6, m7⟩ := by
      refine (if_neg ?_).trans rfl
      rintro ⟨h, -⟩; cases h
    rw [this]; simp
theorem ja1 (b m : Me) : joinAt b m 1 = { m with type := laterS m.type b.type } := by
  unfold laterS
  by_cases h : b.type.size = 0
  · rw [if_pos h]; exact if_pos ⟨rfl, h⟩
  · rw [if_neg h]; exact (if_neg fun h2 => h h2.2).trans rfl
theorem ja2 (b m : Me) : joinAt b m 2 = { m with size := laterN m.size b.size } := by
  unfold laterN
  by_cases h : b.size = 0
  · rw [if_pos h]; exact if_pos ⟨h, rfl⟩
  · rw [if_neg h]; exact (if_neg fun h2 => h h2.1).trans rfl
theorem ja3 (b m : Me) : joinAt b m 3 = { m with seq := laterN m.seq b.seq } := by
  unfold laterN
  by_cases h : b.seq = 0
  · rw [if_pos h]; exact if_pos ⟨h, rfl⟩
  · rw [if_neg h]; exact (if_neg fun h2 => h h2.1).trans rfl
theorem ja4 (b m : Me) : joinAt b m 4 = { m with file := laterS m.file b.file } := by
  unfold laterS
  by_cases h : b.file.size = 0
  · rw [if_pos h]; exact if_pos ⟨rfl, h⟩
  · rw [if_neg h]; exact (if_neg fun h2 => h h2.2).trans rfl
theorem ja5 (b m : Me) : joinAt b m 5 = { m with kind := laterS m.kind b.kind } := by
  unfold laterS
  by_cases h : b.kind.size = 0
  · rw [if_pos h]; exact if_pos ⟨rfl, h⟩
  · rw [if_neg h]; exact (if_neg fun h2 => h h2.2).trans rfl
theorem ja6 (b m : Me) : joinAt b m 6 = { m with md5 := laterS m.md5 b.md5 } := by
  unfold laterS
  by_cases h : b.md5.size = 0
  · rw [if_pos h]; exact if_pos ⟨rfl, h⟩
  · rw [if_neg h]; exact (if_neg fun h2 => h h2.2).trans rfl
theorem ja7 (b m : Me) : joinAt b m 7 = { m with desc := laterS m.desc b.desc } := by
  unfold laterS
  by_cases h : b.desc.size = 0
  · rw [if_pos h]; exact if_pos ⟨rfl, h⟩
  · rw [if_neg h]; exact (if_neg fun h2 => h h2.2).trans rfl
/-- Part by part. -/
theorem joinD_is (a b : Me) : joinK a b 8 = joinD a b := by
  have e : joinK a b 8 = joinAt b (joinAt b (joinAt b (joinAt b (joinAt b (joinAt b (joinAt b (joinAt b a 0) 1) 2) 3) 4) 5) 6) 7 := rfl
  rw [e, ja0, ja1, ja2, ja3, ja4, ja5, ja6, ja7]
  rfl
set_option maxHeartbeats 4000000 in
set_option maxRecDepth 100000 in
theorem joined10_b (a b : Me) (w : World) (x y : Bool) (hx : a.multi = x) (hy : b.multi = y) : Calls Try.prog 10 #[a.val, b.val] w (MeP (joinD a b) w) := by
  unfold Me.val
  have ea : a.cells = #[.bool x, .string a.type, .int .u64 (a.size : Nat), .int .u64 (a.seq : Nat), .string a.file, .string a.kind, .string a.md5, .string a.desc] := by rw [← hx]; rfl
  have eb : b.cells = #[.bool y, .string b.type, .int .u64 (b.size : Nat), .int .u64 (b.seq : Nat), .string b.file, .string b.kind, .string b.md5, .string b.desc] := by rw [← hy]; rfl
  have hA1 : Blk ((w.alloc (.cells a.cells 24)).alloc (.cells b.cells 24)) w.heap.size 24 a.cells := Blk.alloc (Blk.new w 24 _) _
  have hA2 : Blk ((w.alloc (.cells a.cells 24)).alloc (.cells b.cells 24)) (w.heap.size + 1) 24 b.cells := by
    have h := Blk.new (w.alloc (.cells a.cells 24)) 24 b.cells
    rw [show (w.alloc (.cells a.cells 24)).heap.size = w.heap.size + 1 by simp] at h
    exact h
  have hA3 : Blk (((w.alloc (.cells a.cells 24)).alloc (.cells b.cells 24)).alloc (.cells zeroM.cells 24)) (w.heap.size + 1 + 1) 24 zeroM.cells := by
    have h := Blk.new ((w.alloc (.cells a.cells 24)).alloc (.cells b.cells 24)) 24 zeroM.cells
    rw [show ((w.alloc (.cells a.cells 24)).alloc (.cells b.cells 24)).heap.size = w.heap.size + 1 + 1 by simp] at h
    exact h
  have hB := (((ext_alloc w (.cells a.cells 24)).alloc (by simp) (.cells b.cells 24)).alloc (by simp; omega) (.cells zeroM.cells 24))
  replace hA1 := Blk.alloc hA1 (.cells zeroM.cells 24)
  replace hA2 := Blk.alloc hA2 (.cells zeroM.cells 24)
  have ez : zeroM.cells = #[.bool false, .string ⟨#[]⟩, .int .u64 0, .int .u64 0, .string ⟨#[]⟩, .string ⟨#[]⟩, .string ⟨#[]⟩, .string ⟨#[]⟩] := rfl
  rw [ez, ea, eb] at hA1 hA2 hA3 hB
  rw [ea, eb]
  have ej : (joinD a b).cells = #[.bool (x || y), .string (laterS a.type b.type), .int .u64 (laterN a.size b.size : Nat), .int .u64 (laterN a.seq b.seq : Nat), .string (laterS a.file b.file), .string (laterS a.kind b.kind), .string (laterS a.md5 b.md5), .string (laterS a.desc b.desc)] := by rw [← hx, ← hy]; rfl
  replace ej := Lib.hid ej
  replace ea := Lib.hid ea
  replace eb := Lib.hid eb
  replace ez := Lib.hid ez
  replace hA1 := Lib.hid hA1
  replace hA2 := Lib.hid hA2
  replace hA3 := Lib.hid hA3
  replace hB := Lib.hid hB
  replace hx := Lib.hid hx
  replace hy := Lib.hid hy
  go_enter Try.func10, Try.ntmps10
  go_wp2_with fail
  generalize ((w.alloc (.cells #[.bool x, .string a.type, .int .u64 (a.size : Nat), .int .u64 (a.seq : Nat), .string a.file, .string a.kind, .string a.md5, .string a.desc] 24)).alloc (.cells #[.bool y, .string b.type, .int .u64 (b.size : Nat), .int .u64 (b.seq : Nat), .string b.file, .string b.kind, .string b.md5, .string b.desc] 24)).alloc (.cells #[.bool false, .string ⟨#[]⟩, .int .u64 0, .int .u64 0, .string ⟨#[]⟩, .string ⟨#[]⟩, .string ⟨#[]⟩, .string ⟨#[]⟩] 24) = W at *
  obtain ⟨a0, a1, a2, a3, a4, a5, a6, a7⟩ := box8b hA1.out
  obtain ⟨b0, b1, b2, b3, b4, b5, b6, b7⟩ := box8b hA2.out
  cases x
  · cases y
    · go_still_tail 42, (by kernel_rfl)
      still_call ((later_any _ _ _).mono fun _ _ h => h)
      repeat still_step
      still_call ((number_any _ _ _).mono fun _ _ h => h)
      repeat still_step
      still_call ((number_any _ _ _).mono fun _ _ h => h)
      repeat still_step
      still_call ((later_any _ _ _).mono fun _ _ h => h)
      repeat still_step
      still_call ((later_any _ _ _).mono fun _ _ h => h)
      repeat still_step
      still_call ((later_any _ _ _).mono fun _ _ h => h)
      repeat still_step
      still_call ((later_any _ _ _).mono fun _ _ h => h)
      repeat still_step
      refine wpStill_nil ?_
      change wpList _ _ _ _ _ W.drew
      have hB4 := Lib.hid (hB.out.drew)
      have A4 := Blk.drew hA3.out
      generalize W.drew = W4 at *
      obtain ⟨y0, y1, y2, y3, y4, y5, y6, y7⟩ := box8b A4
      have z0 := A4.fz 0
      have z1 := A4.fz 1
      have z2 := A4.fz 2
      have z3 := A4.fz 3
      have z4 := A4.fz 4
      have z5 := A4.fz 5
      have z6 := A4.fz 6
      have z7 := A4.fz 7
      clear A4
      go_wp2_with fail
      exact bodyPost_ret (v := .agg (joinD a b).cells) (by rw [ej.out]; simp [results, Try.results10, go_sem, y0, y1, y2, y3, y4, y5, y6, y7]) rfl ⟨rfl, (((((((hB4.out.setCell (by simp; omega) _).setCell (by simp; omega) _).setCell (by simp; omega) _).setCell (by simp; omega) _).setCell (by simp; omega) _).setCell (by simp; omega) _).setCell (by simp; omega) _).setCell (by simp; omega) _⟩
    · go_still_tail 42, (by kernel_rfl)
      still_call ((later_any _ _ _).mono fun _ _ h => h)
      repeat still_step
      still_call ((number_any _ _ _).mono fun _ _ h => h)
      repeat still_step
      still_call ((number_any _ _ _).mono fun _ _ h => h)
      repeat still_step
      still_call ((later_any _ _ _).mono fun _ _ h => h)
      repeat still_step
      still_call ((later_any _ _ _).mono fun _ _ h => h)
      repeat still_step
      still_call ((later_any _ _ _).mono fun _ _ h => h)
      repeat still_step
      still_call ((later_any _ _ _).mono fun _ _ h => h)
      repeat still_step
      refine wpStill_nil ?_
      change wpList _ _ _ _ _ W.drew
      have hB4 := Lib.hid (hB.out.drew)
      have A4 := Blk.drew hA3.out
      generalize W.drew = W4 at *
      obtain ⟨y0, y1, y2, y3, y4, y5, y6, y7⟩ := box8b A4
      have z0 := A4.fz 0
      have z1 := A4.fz 1
      have z2 := A4.fz 2
      have z3 := A4.fz 3
      have z4 := A4.fz 4
      have z5 := A4.fz 5
      have z6 := A4.fz 6
      have z7 := A4.fz 7
      clear A4
      go_wp2_with fail
      exact bodyPost_ret (v := .agg (joinD a b).cells) (by rw [ej.out]; simp [results, Try.results10, go_sem, y0, y1, y2, y3, y4, y5, y6, y7]) rfl ⟨rfl, (((((((hB4.out.setCell (by simp; omega) _).setCell (by simp; omega) _).setCell (by simp; omega) _).setCell (by simp; omega) _).setCell (by simp; omega) _).setCell (by simp; omega) _).setCell (by simp; omega) _).setCell (by simp; omega) _⟩
  · go_still_tail 42, (by kernel_rfl)
    still_call ((later_any _ _ _).mono fun _ _ h => h)
    repeat still_step
    still_call ((number_any _ _ _).mono fun _ _ h => h)
    repeat still_step
    still_call ((number_any _ _ _).mono fun _ _ h => h)
    repeat still_step
    still_call ((later_any _ _ _).mono fun _ _ h => h)
    repeat still_step
    still_call ((later_any _ _ _).mono fun _ _ h => h)
    repeat still_step
    still_call ((later_any _ _ _).mono fun _ _ h => h)
    repeat still_step
    still_call ((later_any _ _ _).mono fun _ _ h => h)
    repeat still_step
    refine wpStill_nil ?_
    change wpList _ _ _ _ _ W.drew
    have hB4 := Lib.hid (hB.out.drew)
    have A4 := Blk.drew hA3.out
    generalize W.drew = W4 at *
    obtain ⟨y0, y1, y2, y3, y4, y5, y6, y7⟩ := box8b A4
    have z0 := A4.fz 0
    have z1 := A4.fz 1
    have z2 := A4.fz 2
    have z3 := A4.fz 3
    have z4 := A4.fz 4
    have z5 := A4.fz 5
    have z6 := A4.fz 6
    have z7 := A4.fz 7
    clear A4
    go_wp2_with fail
    exact bodyPost_ret (v := .agg (joinD a b).cells) (by rw [ej.out]; simp [results, Try.results10, go_sem, y0, y1, y2, y3, y4, y5, y6, y7]) rfl ⟨rfl, (((((((hB4.out.setCell (by simp; omega) _).setCell (by simp; omega) _).setCell (by simp; omega) _).setCell (by simp; omega) _).setCell (by simp; omega) _).setCell (by simp; omega) _).setCell (by simp; omega) _).setCell (by simp; omega) _⟩
theorem joined10_any (a b : Me) (w : World) : Calls Try.prog 10 #[a.val, b.val] w (MeP (joinK a b 8) w) := by
  rw [joinD_is]
  exact joined10_b a b w _ _ rfl rfl
end Go.Proofs.Ytoglgdkeknojkaa
