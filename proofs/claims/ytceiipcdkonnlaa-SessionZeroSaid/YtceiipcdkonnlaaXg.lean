/-
  LAYER 25: a session that nobody made.
-/
import Derived.Test.YtceiipcdkonnlaaXf
namespace Go.Proofs.Ytceiipcdkonnlaa.Ses
open Go.RowKit Que Hp Ids Fli
set_option linter.unusedSimpArgs false
set_option linter.unusedVariables false
/-- No session at all, or one that nobody made. -/
def No (w : World) (v : Value) : Prop := ∀ W, Below w.heap.size w W → Calls Try.prog 34 #[v] W fun e w' => e = .returned (.bool true) ∧ W = w'
theorem No.keep {w w' : World} {v : Value} (h : No w v) (hb : Below w.heap.size w w') : No w' v := fun W b => h W (ext_trans hb b)
theorem no_nil (w : World) : No w (.pointer none) := fun W _ => by
  go_enter Try.func34, Try.ntmps34
  go_wp2
  go_ret
  exact ⟨rfl, rfl⟩
theorem no_zero {w : World} {p : Nat} (h : w.cell? ⟨p, 3, none⟩ = some (.pointer none)) : No w (.pointer (some ⟨p, 0, none⟩)) := fun W hb => by
  have c := (hb.cell (by simpa using World.block_lt_of_cell? w _ h)).trans h
  go_enter Try.func34, Try.ntmps34
  go_wp2
  go_ret
  exact ⟨rfl, rfl⟩
theorem inb_none (w : World) : Calls Try.prog 59 #[.pointer none] w fun e w' => e = .returned (.bool true) ∧ w = w' := by
  go_enter Try.func59, Try.ntmps59
  go_wp2
  go_ret
  exact ⟨rfl, rfl⟩
theorem inb_come (id : Int) (w : World) : Calls Try.prog 42 #[.pointer none, .int .i64 id] w fun e w' => e = .returned (.tuple #[.bool false, .int .i64 8]) ∧ w = w' := by
  have N := Lib.hid inb_none
  go_enter Try.func42, Try.ntmps42
  go_wp2_with fail
  refine (N.out _).mono ?_
  rintro e w1 ⟨rfl, rfl⟩
  go_wp2_with fail
  go_ret2
  exact ⟨rfl, rfl⟩
theorem inb_all (w : World) : Calls Try.prog 46 #[.pointer none] w fun e w' => e = .returned (.slice none 0 0) ∧ w = w' := by
  have N := Lib.hid inb_none
  go_enter Try.func46, Try.ntmps46
  go_wp2_with fail
  refine (N.out _).mono ?_
  rintro e w1 ⟨rfl, rfl⟩
  go_wp2_with fail
  go_ret
  exact ⟨rfl, rfl⟩
theorem inb_done (id : Int) (w : World) : Calls Try.prog 47 #[.pointer none, .int .i64 id] w fun e w' => e = .returned (.bool false) ∧ w = w' := by
  have N := Lib.hid inb_none
  go_enter Try.func47, Try.ntmps47
  go_wp2_with fail
  refine (N.out _).mono ?_
  rintro e w1 ⟨rfl, rfl⟩
  go_wp2_with fail
  go_ret
  exact ⟨rfl, rfl⟩
section
variable {w : World} {v : Value}
theorem in_0 (h : No w v) : Calls Try.prog 38 #[v] w fun e w' => e = .returned (.pointer (some ⟨w.heap.size, 0, none⟩)) ∧ w' = w.alloc (.cells #[.pointer none, .pointer none, .pointer none] 72) := by
  have N := Lib.hid (h w (Below.refl _ _))
  replace h := Lib.hid h
  go_enter Try.func38, Try.ntmps38
  go_wp2_with fail
  refine N.out.mono ?_
  rintro e w1 ⟨rfl, rfl⟩
  go_wp2_with fail
  go_ret
  exact ⟨rfl, rfl⟩
theorem deliver_0 (h : No w v) (t x : ByteArray) (q qos : Int) (r : Bool) : Calls Try.prog 9 #[v, .agg #[.string t, .string x, .int .i64 q, .bool r], .int .i64 qos] w fun e w' => e = .returned (.tuple #[.slice none 0 0, .bool false]) ∧ Below w.heap.size w w' := by
  have e0 := ext_alloc w (.cells #[.string t, .string x, .int .i64 q, .bool r] 30)
  have N := Lib.hid (h _ e0)
  replace h := Lib.hid h
  replace e0 := Lib.hid e0
  go_enter Try.func9, Try.ntmps9
  go_wp2_with fail
  refine N.out.mono ?_
  rintro e w1 ⟨rfl, rfl⟩
  go_wp2_with fail
  go_ret2
  exact ⟨rfl, e0.out⟩
theorem attach_0 (h : No w v) : Calls Try.prog 11 #[v] w fun e w' => e = .returned (.slice none 0 0) ∧ w = w' := by
  have N := Lib.hid (h w (Below.refl _ _))
  replace h := Lib.hid h
  go_enter Try.func11, Try.ntmps11
  go_wp2_with fail
  refine N.out.mono ?_
  rintro e w1 ⟨rfl, rfl⟩
  go_wp2_with fail
  go_ret
  exact ⟨rfl, rfl⟩
theorem online_0 (h : No w v) : Calls Try.prog 22 #[v] w fun e w' => e = .returned (.bool false) ∧ w = w' := by
  have N := Lib.hid (h w (Below.refl _ _))
  replace h := Lib.hid h
  go_enter Try.func22, Try.ntmps22
  go_wp2_with fail
  refine N.out.mono ?_
  rintro e w1 ⟨rfl, rfl⟩
  go_wp2_with fail
  go_ret
  exact ⟨rfl, rfl⟩
theorem clean_0 (h : No w v) : Calls Try.prog 23 #[v] w fun e w' => e = .returned (.bool false) ∧ w = w' := by
  have N := Lib.hid (h w (Below.refl _ _))
  replace h := Lib.hid h
  go_enter Try.func23, Try.ntmps23
  go_wp2_with fail
  refine N.out.mono ?_
  rintro e w1 ⟨rfl, rfl⟩
  go_wp2_with fail
  go_ret
  exact ⟨rfl, rfl⟩
theorem client_0 (h : No w v) : Calls Try.prog 24 #[v] w fun e w' => e = .returned (.string ⟨#[]⟩) ∧ w = w' := by
  have N := Lib.hid (h w (Below.refl _ _))
  replace h := Lib.hid h
  go_enter Try.func24, Try.ntmps24
  go_wp2_with fail
  refine N.out.mono ?_
  rintro e w1 ⟨rfl, rfl⟩
  go_wp2_with fail
  go_ret
  exact ⟨rfl, rfl⟩
theorem answer_0 (h : No w v) (kind : Int) (id : Int) : Calls Try.prog 19 #[v, .int .i64 kind, .int .i64 id] w fun e w' => e = .returned (.slice none 0 0) ∧ w = w' := by
  have N := Lib.hid (online_0 h)
  replace h := Lib.hid h
  go_enter Try.func19, Try.ntmps19
  go_wp2_with fail
  refine N.out.mono ?_
  rintro e w1 ⟨rfl, rfl⟩
  go_wp2_with fail
  go_ret
  exact ⟨rfl, rfl⟩
theorem detach_0 (h : No w v) : Calls Try.prog 12 #[v] w fun e w' => e = .returned (.bool false) ∧ w = w' := by
  have N := Lib.hid (online_0 h)
  replace h := Lib.hid h
  go_enter Try.func12, Try.ntmps12
  go_wp2_with fail
  refine N.out.mono ?_
  rintro e w1 ⟨rfl, rfl⟩
  go_wp2_with fail
  go_ret
  exact ⟨rfl, rfl⟩
theorem come_0 (h : No w v) (id : Int) : Calls Try.prog 18 #[v, .int .i64 id] w fun e w' => e = .returned (.tuple #[.bool false, .int .i64 8]) ∧ Below w.heap.size w w' := by
  have N := Lib.hid (in_0 h)
  have r0 := heap_alloc_new w (.cells #[.pointer none, .pointer none, .pointer none] 72)
  have c0 : (w.alloc (.cells #[.pointer none, .pointer none, .pointer none] 72)).cell? ⟨w.heap.size, 2, none⟩ = some (.pointer none) := cell_of_row _ _ 2 _ 72 (0, 0) r0
  have CC := Lib.hid (inb_come id (w.alloc (.cells #[.pointer none, .pointer none, .pointer none] 72)))
  replace h := Lib.hid h
  replace r0 := Lib.hid r0
  go_enter Try.func18, Try.ntmps18
  go_wp2_with fail
  refine N.out.mono ?_
  rintro e w1 ⟨rfl, rfl⟩
  go_wp2_with fail
  refine CC.out.mono ?_
  rintro e w1 ⟨rfl, rfl⟩
  go_wp2_with fail
  go_ret2
  exact ⟨rfl, ext_alloc _ _⟩
theorem flight_0 (h : No w v) : Calls Try.prog 15 #[v] w fun e w' => e = .returned (.slice none 0 0) ∧ Below w.heap.size w w' := by
  have N := Lib.hid (in_0 h)
  have r0 := heap_alloc_new w (.cells #[.pointer none, .pointer none, .pointer none] 72)
  have c0 : (w.alloc (.cells #[.pointer none, .pointer none, .pointer none] 72)).cell? ⟨w.heap.size, 1, none⟩ = some (.pointer none) := cell_of_row _ _ 1 _ 72 (0, 0) r0
  have CC := Lib.hid (Fli.all_0 (w := (w.alloc (.cells #[.pointer none, .pointer none, .pointer none] 72))) (.inl rfl))
  replace h := Lib.hid h
  replace r0 := Lib.hid r0
  go_enter Try.func15, Try.ntmps15
  go_wp2_with fail
  refine N.out.mono ?_
  rintro e w1 ⟨rfl, rfl⟩
  go_wp2_with fail
  refine CC.out.mono ?_
  rintro e w1 ⟨rfl, rfl⟩
  go_wp2_with fail
  go_ret
  exact ⟨rfl, ext_alloc _ _⟩
theorem queue_0 (h : No w v) : Calls Try.prog 14 #[v] w fun e w' => e = .returned (.slice none 0 0) ∧ Below w.heap.size w w' := by
  have N := Lib.hid (in_0 h)
  have r0 := heap_alloc_new w (.cells #[.pointer none, .pointer none, .pointer none] 72)
  have c0 : (w.alloc (.cells #[.pointer none, .pointer none, .pointer none] 72)).cell? ⟨w.heap.size, 0, none⟩ = some (.pointer none) := cell_of_row _ _ 0 _ 72 (0, 0) r0
  have CC := Lib.hid (Quu.all_0 (Quu.noQ_nil (w.alloc (.cells #[.pointer none, .pointer none, .pointer none] 72))))
  replace h := Lib.hid h
  replace r0 := Lib.hid r0
  go_enter Try.func14, Try.ntmps14
  go_wp2_with fail
  refine N.out.mono ?_
  rintro e w1 ⟨rfl, rfl⟩
  go_wp2_with fail
  refine CC.out.mono ?_
  rintro e w1 ⟨rfl, rfl⟩
  go_wp2_with fail
  go_ret
  exact ⟨rfl, ext_alloc _ _⟩
theorem inbox_0 (h : No w v) : Calls Try.prog 20 #[v] w fun e w' => e = .returned (.slice none 0 0) ∧ Below w.heap.size w w' := by
  have N := Lib.hid (in_0 h)
  have r0 := heap_alloc_new w (.cells #[.pointer none, .pointer none, .pointer none] 72)
  have c0 : (w.alloc (.cells #[.pointer none, .pointer none, .pointer none] 72)).cell? ⟨w.heap.size, 2, none⟩ = some (.pointer none) := cell_of_row _ _ 2 _ 72 (0, 0) r0
  have CC := Lib.hid (inb_all (w.alloc (.cells #[.pointer none, .pointer none, .pointer none] 72)))
  replace h := Lib.hid h
  replace r0 := Lib.hid r0
  go_enter Try.func20, Try.ntmps20
  go_wp2_with fail
  refine N.out.mono ?_
  rintro e w1 ⟨rfl, rfl⟩
  go_wp2_with fail
  refine CC.out.mono ?_
  rintro e w1 ⟨rfl, rfl⟩
  go_wp2_with fail
  go_ret
  exact ⟨rfl, ext_alloc _ _⟩
theorem lost_0 (h : No w v) : Calls Try.prog 16 #[v] w fun e w' => e = .returned (.int .i64 0) ∧ Below w.heap.size w w' := by
  have N := Lib.hid (in_0 h)
  have r0 := heap_alloc_new w (.cells #[.pointer none, .pointer none, .pointer none] 72)
  have c0 : (w.alloc (.cells #[.pointer none, .pointer none, .pointer none] 72)).cell? ⟨w.heap.size, 0, none⟩ = some (.pointer none) := cell_of_row _ _ 0 _ 72 (0, 0) r0
  have CC := Lib.hid (Quu.lost_0 (Quu.noQ_nil (w.alloc (.cells #[.pointer none, .pointer none, .pointer none] 72))))
  replace h := Lib.hid h
  replace r0 := Lib.hid r0
  go_enter Try.func16, Try.ntmps16
  go_wp2_with fail
  refine N.out.mono ?_
  rintro e w1 ⟨rfl, rfl⟩
  go_wp2_with fail
  refine CC.out.mono ?_
  rintro e w1 ⟨rfl, rfl⟩
  go_wp2_with fail
  go_ret
  exact ⟨rfl, ext_alloc _ _⟩
theorem done_0 (h : No w v) (id : Int) : Calls Try.prog 21 #[v, .int .i64 id] w fun e w' => e = .returned (.bool false) ∧ Below w.heap.size w w' := by
  have N := Lib.hid (in_0 h)
  have r0 := heap_alloc_new w (.cells #[.pointer none, .pointer none, .pointer none] 72)
  have c0 : (w.alloc (.cells #[.pointer none, .pointer none, .pointer none] 72)).cell? ⟨w.heap.size, 2, none⟩ = some (.pointer none) := cell_of_row _ _ 2 _ 72 (0, 0) r0
  have CC := Lib.hid (inb_done id (w.alloc (.cells #[.pointer none, .pointer none, .pointer none] 72)))
  replace h := Lib.hid h
  replace r0 := Lib.hid r0
  go_enter Try.func21, Try.ntmps21
  go_wp2_with fail
  refine N.out.mono ?_
  rintro e w1 ⟨rfl, rfl⟩
  go_wp2_with fail
  refine CC.out.mono ?_
  rintro e w1 ⟨rfl, rfl⟩
  go_wp2_with fail
  go_ret
  exact ⟨rfl, ext_alloc _ _⟩
end
/-- A message in a block, behind it a session that nobody made. -/
structure Zs (w W : World) (t x : ByteArray) (q : Int) (r : Bool) : Prop where
  m : W.heap[w.heap.size]? = some (.cells #[.string t, .string x, .int .i64 q, .bool r] 30 (0, 0))
  z : No W (.pointer (some ⟨w.heap.size + 1, 0, none⟩))
  bw : Below w.heap.size w W
theorem Zs.ext {w W W' : World} {t x : ByteArray} {q : Int} {r : Bool} (h : Zs w W t x q r) (hb : Below W.heap.size W W') : Zs w W' t x q r :=
  ⟨(hb.block _ (Array.getElem?_eq_some_iff.1 h.m).1).trans h.m, h.z.keep hb, ext_trans h.bw hb⟩
theorem Zs.cells {w W : World} {t x : ByteArray} {q : Int} {r : Bool} (h : Zs w W t x q r) : W.cell? ⟨w.heap.size, 0, none⟩ = some (.string t) ∧ W.cell? ⟨w.heap.size, 1, none⟩ = some (.string x) ∧ W.cell? ⟨w.heap.size, 2, none⟩ = some (.int .i64 q) ∧ W.cell? ⟨w.heap.size, 3, none⟩ = some (.bool r) :=
  ⟨cell_of_row _ _ 0 _ 30 (0, 0) h.m, cell_of_row _ _ 1 _ 30 (0, 0) h.m, cell_of_row _ _ 2 _ 30 (0, 0) h.m, cell_of_row _ _ 3 _ 30 (0, 0) h.m⟩
theorem zs_start (w : World) (t x : ByteArray) (q : Int) (r : Bool) : Zs w ((w.alloc (.cells #[.string t, .string x, .int .i64 q, .bool r] 30)).alloc (.cells #[.string ⟨#[]⟩, .bool false, .bool false, .pointer none] 47)) t x q r := by
  refine ⟨?_, no_zero ?_, ext_two _ _ _⟩
  · rw [Below.heap_alloc _ _ _ (by simp)]
    exact heap_alloc_new w _
  · have h := heap_alloc_new (w.alloc (.cells #[.string t, .string x, .int .i64 q, .bool r] 30)) (.cells #[.string ⟨#[]⟩, .bool false, .bool false, .pointer none] 47)
    have hs : (w.alloc (.cells #[.string t, .string x, .int .i64 q, .bool r] 30)).heap.size = w.heap.size + 1 := by simp
    rw [hs] at h
    exact cell_of_row _ _ 3 _ 47 (0, 0) h
end Go.Proofs.Ytceiipcdkonnlaa.Ses
