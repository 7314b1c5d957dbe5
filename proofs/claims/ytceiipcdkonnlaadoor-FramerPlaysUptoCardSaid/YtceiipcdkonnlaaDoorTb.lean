/-
  LAYER 12: the program's framer as one fact; New, Feed, Waits, Taken, Dead.
-/
import Derived.Test.YtceiipcdkonnlaaDoorTa
namespace Go.Proofs.YtceiipcdkonnlaaDoor
open Go.RowKit
set_option linter.unusedVariables false
set_option linter.unusedSimpArgs false
structure Fm (w : World) (B f : Nat) (v : Value) (l : List Nat) (n : Int) (flt : Value) : Prop where
  row : w.heap[f]? = some (.cells #[.bool true, v, .int .i64 n, flt] 57 (0, 0))
  wt : Wt w B v l
  fB : f < B
  bt : ∀ x ∈ l, x < 256
/-- What an act on a framer may change. -/
def FS (f : Nat) (v : Value) (k : Nat) : Prop := k = f ∨ v.ownBlock = some k
section
variable {w w' : World} {B f : Nat} {v : Value} {l : List Nat} {n : Int} {flt : Value}
theorem Fm.lt (h : Fm w B f v l n flt) : f < w.heap.size := (Array.getElem?_eq_some_iff.1 h.row).1
theorem Fm.c0 (h : Fm w B f v l n flt) : w.cell? ⟨f, 0, none⟩ = some (.bool true) := cell_of_row w f 0 _ 57 (0, 0) h.row
theorem Fm.c1 (h : Fm w B f v l n flt) : w.cell? ⟨f, 1, none⟩ = some v := cell_of_row w f 1 _ 57 (0, 0) h.row
theorem Fm.c2 (h : Fm w B f v l n flt) : w.cell? ⟨f, 2, none⟩ = some (.int .i64 n) := cell_of_row w f 2 _ 57 (0, 0) h.row
theorem Fm.c3 (h : Fm w B f v l n flt) : w.cell? ⟨f, 3, none⟩ = some flt := cell_of_row w f 3 _ 57 (0, 0) h.row
theorem Fm.fz (h : Fm w B f v l n flt) (j : Nat) : w.frozen? ⟨f, j, none⟩ = false := frozen_of_row w f j _ 57 h.row
theorem Fm.ne (h : Fm w B f v l n flt) : v.ownBlock ≠ some f := h.wt.ne h.row (by decide)
theorem Fm.fars {S : Nat → Prop} (h : Fm w B f v l n flt) (F : Far S w w') (hs : ∀ k, FS f v k → ¬ S k) : Fm w' B f v l n flt :=
  ⟨(F.block f h.lt (hs f (.inl rfl))).trans h.row, h.wt.fars F (fun k hk => hs k (.inr hk)), h.fB, h.bt⟩
theorem Fm.ext (h : Fm w B f v l n flt) (F : Below w.heap.size w w') : Fm w' B f v l n flt := h.fars (S := fun _ => False) (Far.of_ext F) (fun _ _ e => e)
theorem Fm.lo (h : Fm w B f v l n flt) {k : Nat} (hk : FS f v k) : f ≤ k := by
  rcases hk with rfl | hk
  · exact Nat.le_refl _
  · have := (h.wt.own hk).1; have := h.fB; omega
theorem Fm.hi (h : Fm w B f v l n flt) {k : Nat} (hk : FS f v k) : k < w.heap.size := by
  rcases hk with rfl | hk
  · exact h.lt
  · exact (h.wt.own hk).2.1
end
theorem f_new (w : World) : Calls Tryd.prog 8 #[] w fun e w' => e = .returned (.pointer (some ⟨w.heap.size, 0, none⟩)) ∧ Fm w' (w.heap.size + 1) w.heap.size (.slice none 0 0) [] 0 .nilIface ∧ Below w.heap.size w w' ∧ w'.heap.size = w.heap.size + 1 := by
  go_enter Tryd.func8, Tryd.ntmps8
  go_wp2_with fail
  go_ret
  exact ⟨rfl, ⟨heap_alloc_new w _, .inl (World.ownsRow_nil _ _ _ _), Nat.lt_succ_self _, by simp⟩, ext_alloc w _, by simp⟩
section
variable {w : World} {B f : Nat} {v : Value} {l : List Nat} {n : Int} {flt : Value}
theorem f_none (h : Fm w B f v l n flt) : Calls Tryd.prog 21 #[.pointer (some ⟨f, 0, none⟩)] w fun e w' => e = .returned (.bool false) ∧ w = w' := by
  have c0 := h.c0
  go_enter Tryd.func21, Tryd.ntmps21
  go_wp2_with fail
  go_ret
  exact ⟨rfl, rfl⟩
theorem f_waits (h : Fm w B f v l n flt) : Calls Tryd.prog 13 #[.pointer (some ⟨f, 0, none⟩)] w fun e w' => e = .returned (.int .i64 (l.length : Nat)) ∧ w = w' := by
  have c1 := h.c1
  have N := Lib.hid (f_none h)
  obtain ⟨a, c, rfl⟩ := h.wt.len
  replace h := Lib.hid h
  go_enter Tryd.func13, Tryd.ntmps13
  go_wp2_with fail
  refine N.out.mono ?_
  rintro e w' ⟨rfl, rfl⟩
  go_wp2_with fail
  go_ret
  exact ⟨rfl, rfl⟩
theorem f_taken (h : Fm w B f v l n flt) : Calls Tryd.prog 14 #[.pointer (some ⟨f, 0, none⟩)] w fun e w' => e = .returned (.int .i64 n) ∧ w = w' := by
  have c2 := h.c2
  have N := Lib.hid (f_none h)
  replace h := Lib.hid h
  go_enter Tryd.func14, Tryd.ntmps14
  go_wp2_with fail
  refine N.out.mono ?_
  rintro e w' ⟨rfl, rfl⟩
  go_wp2_with fail
  go_ret
  exact ⟨rfl, rfl⟩
theorem f_live (h : Fm w B f v l n .nilIface) : Calls Tryd.prog 15 #[.pointer (some ⟨f, 0, none⟩)] w fun e w' => e = .returned (.bool false) ∧ w = w' := by
  have c3 := h.c3
  have N := Lib.hid (f_none h)
  replace h := Lib.hid h
  go_enter Tryd.func15, Tryd.ntmps15
  go_wp2_with fail
  refine N.out.mono ?_
  rintro e w' ⟨rfl, rfl⟩
  go_wp2_with fail
  go_ret
  exact ⟨rfl, rfl⟩
theorem f_dead {T : TypeId} {d : Value} (h : Fm w B f v l n (.iface T d)) : Calls Tryd.prog 15 #[.pointer (some ⟨f, 0, none⟩)] w fun e w' => e = .returned (.bool true) ∧ w = w' := by
  have c3 := h.c3
  have N := Lib.hid (f_none h)
  replace h := Lib.hid h
  go_enter Tryd.func15, Tryd.ntmps15
  go_wp2_with fail
  refine N.out.mono ?_
  rintro e w' ⟨rfl, rfl⟩
  go_wp2_with fail
  go_ret
  exact ⟨rfl, rfl⟩
theorem info5x : (Tryd.prog.info? 5).map (fun i => (i.zero, i.size, i.bytes)) = some (some (.int .u8 0), 1, 1) := by kernel_rfl
set_option maxHeartbeats 1000000 in
set_option maxRecDepth 100000 in
theorem f_feed (h : Fm w B f v l n .nilIface) (hB : B ≤ w.heap.size) (s : ByteArray) (hl : l.length + s.size ≤ 140737488355328) : Calls Tryd.prog 9 #[.pointer (some ⟨f, 0, none⟩), .string s] w fun e w' => ∃ v', e = .returned (.int .i64 0) ∧ Fm w' B f v' (l ++ nb s) n .nilIface ∧ Far (FS f v) w w' ∧ ∀ k, v'.ownBlock = some k → v.ownBlock = some k ∨ w.heap.size ≤ k := by
  have c1 := h.c1
  have c3 := h.c3
  have N := Lib.hid (f_none h)
  obtain ⟨i0, hi, hz0, hz1, hz2⟩ := info_parts info5x
  have H := Lib.hid h
  replace hl := Lib.hid hl
  clear h
  go_enter Tryd.func9, Tryd.ntmps9
  go_wp2_with fail
  refine N.out.mono ?_
  rintro e w' ⟨rfl, rfl⟩
  go_wp2_with (at_builtin; refine wpList_append_wt w rfl (.tmp 16) (.tmp 17) 23 9 rfl B i0 Tryd.underlying23 Tryd.underlying9 hi hz0 hz1 hz2 v l rfl H.out.wt s rfl hl.out hB ?_; intro v1 w1 wt1 g1 o1; obtain ⟨va, vc, rfl⟩ := wt1.len; have W1 := Lib.hid wt1; have G1 := Lib.hid g1; have O1 := Lib.hid o1; have r1 : w1.heap[f]? = some (.cells #[.bool true, v, .int .i64 n, .nilIface] 57 (0, 0)) := (G1.out.block f H.out.lt (fun e => H.out.ne e.symm)).trans H.out.row; have R1 := Lib.hid r1; have k1 : w1.cell? ⟨f, 1, none⟩ = some v := cell_of_row w1 f 1 _ 57 (0, 0) R1.out; have z1 : w1.frozen? ⟨f, 1, none⟩ = false := frozen_of_row w1 f 1 _ 57 R1.out; clear wt1 g1 o1 r1)
  go_ret
  rw [← List.length_append]
  have F0 := Far.of_grown (S := FS f v) G1.out (fun k _ hk => .inr hk)
  have F1 : Far (FS f v) w (w1.setCell ⟨f, 1, none⟩ (.slice va (l ++ nb s).length vc)) := F0.trans (Far.of_grown (S := FS f v) (set_grownX (w := w1) (g := f) (j := 1) (u := .slice va (l ++ nb s).length vc)) (fun k _ hk => .inl (by cases hk; rfl))) (fun k _ hk => hk)
  refine ⟨_, rfl, ⟨heap_setCell_same w1 f 1 _ 57 _ R1.out, ?_, H.out.fB, ?_⟩, F1, O1.out⟩
  · refine W1.out.fars (S := fun k => k = f) (Far.of_grown (set_grownX (w := w1) (g := f) (j := 1)) (fun k _ hk => by cases hk; rfl)) ?_
    rintro k hk rfl
    exact W1.out.ne R1.out (by decide) hk
  · intro x hx
    rcases List.mem_append.1 hx with hx | hx
    · exact H.out.bt x hx
    · exact nb_lt s x hx
theorem f_feed_dead {T : TypeId} {d : Value} (h : Fm w B f v l n (.iface T d)) (s : ByteArray) : Calls Tryd.prog 9 #[.pointer (some ⟨f, 0, none⟩), .string s] w fun e w' => e = .returned (.int .i64 0) ∧ w = w' := by
  have c3 := h.c3
  have N := Lib.hid (f_none h)
  clear h
  go_enter Tryd.func9, Tryd.ntmps9
  go_wp2_with fail
  refine N.out.mono ?_
  rintro e w' ⟨rfl, rfl⟩
  go_wp2_with fail
  go_ret
  exact ⟨rfl, rfl⟩
end
/-- The document's framer. -/
structure Fd (w : World) (B f : Nat) (v : Value) (l : List Nat) (n d : Int) : Prop where
  row : w.heap[f]? = some (.cells #[v, .int .i64 n, .int .i64 d] 28 (0, 0))
  wt : Wt w B v l
  fB : f < B
section
variable {w w' : World} {B f : Nat} {v : Value} {l : List Nat} {n d : Int}
theorem Fd.lt (h : Fd w B f v l n d) : f < w.heap.size := (Array.getElem?_eq_some_iff.1 h.row).1
theorem Fd.c0 (h : Fd w B f v l n d) : w.cell? ⟨f, 0, none⟩ = some v := cell_of_row w f 0 _ 28 (0, 0) h.row
theorem Fd.c1 (h : Fd w B f v l n d) : w.cell? ⟨f, 1, none⟩ = some (.int .i64 n) := cell_of_row w f 1 _ 28 (0, 0) h.row
theorem Fd.c2 (h : Fd w B f v l n d) : w.cell? ⟨f, 2, none⟩ = some (.int .i64 d) := cell_of_row w f 2 _ 28 (0, 0) h.row
theorem Fd.fz (h : Fd w B f v l n d) (j : Nat) : w.frozen? ⟨f, j, none⟩ = false := frozen_of_row w f j _ 28 h.row
theorem Fd.ne (h : Fd w B f v l n d) : v.ownBlock ≠ some f := h.wt.ne h.row (by decide)
theorem Fd.fars {S : Nat → Prop} (h : Fd w B f v l n d) (F : Far S w w') (hs : ∀ k, FS f v k → ¬ S k) : Fd w' B f v l n d :=
  ⟨(F.block f h.lt (hs f (.inl rfl))).trans h.row, h.wt.fars F (fun k hk => hs k (.inr hk)), h.fB⟩
theorem Fd.ext (h : Fd w B f v l n d) (F : Below w.heap.size w w') : Fd w' B f v l n d := h.fars (S := fun _ => False) (Far.of_ext F) (fun _ _ e => e)
theorem Fd.lo (h : Fd w B f v l n d) {k : Nat} (hk : FS f v k) : f ≤ k := by
  rcases hk with rfl | hk
  · exact Nat.le_refl _
  · have := (h.wt.own hk).1; have := h.fB; omega
theorem Fd.hi (h : Fd w B f v l n d) {k : Nat} (hk : FS f v k) : k < w.heap.size := by
  rcases hk with rfl | hk
  · exact h.lt
  · exact (h.wt.own hk).2.1
set_option maxHeartbeats 1000000 in
set_option maxRecDepth 100000 in
theorem x_feed (h : Fd w B f v l n 0) (hB : B ≤ w.heap.size) (s : ByteArray) (hl : l.length + s.size ≤ 140737488355328) : Calls Tryd.prog 10 #[.pointer (some ⟨f, 0, none⟩), .string s] w fun e w' => ∃ v', e = .returned (.tuple #[]) ∧ Fd w' B f v' (l ++ nb s) n 0 ∧ Far (FS f v) w w' ∧ ∀ k, v'.ownBlock = some k → v.ownBlock = some k ∨ w.heap.size ≤ k := by
  have c0 := h.c0
  have c2 := h.c2
  obtain ⟨i0, hi, hz0, hz1, hz2⟩ := info_parts info5x
  have H := Lib.hid h
  replace hl := Lib.hid hl
  clear h
  go_enter Tryd.func10, Tryd.ntmps10
  go_wp2_with (at_builtin; refine wpList_append_wt w rfl (.tmp 13) (.tmp 14) 23 9 rfl B i0 Tryd.underlying23 Tryd.underlying9 hi hz0 hz1 hz2 v l rfl H.out.wt s rfl hl.out hB ?_; intro v1 w1 wt1 g1 o1; obtain ⟨va, vc, rfl⟩ := wt1.len; have W1 := Lib.hid wt1; have G1 := Lib.hid g1; have O1 := Lib.hid o1; have r1 : w1.heap[f]? = some (.cells #[v, .int .i64 n, .int .i64 0] 28 (0, 0)) := (G1.out.block f H.out.lt (fun e => H.out.ne e.symm)).trans H.out.row; have R1 := Lib.hid r1; have k1 : w1.cell? ⟨f, 0, none⟩ = some v := cell_of_row w1 f 0 _ 28 (0, 0) R1.out; have z1 : w1.frozen? ⟨f, 0, none⟩ = false := frozen_of_row w1 f 0 _ 28 R1.out; clear wt1 g1 o1 r1)
  go_end0
  rw [← List.length_append]
  have F0 := Far.of_grown (S := FS f v) G1.out (fun k _ hk => .inr hk)
  have F1 : Far (FS f v) w (w1.setCell ⟨f, 0, none⟩ (.slice va (l ++ nb s).length vc)) := F0.trans (Far.of_grown (S := FS f v) (set_grownX (w := w1) (g := f) (j := 0) (u := .slice va (l ++ nb s).length vc)) (fun k _ hk => .inl (by cases hk; rfl))) (fun k _ hk => hk)
  refine ⟨_, rfl, ⟨heap_setCell_same w1 f 0 _ 28 _ R1.out, ?_, H.out.fB⟩, F1, O1.out⟩
  refine W1.out.fars (S := fun k => k = f) (Far.of_grown (set_grownX (w := w1) (g := f) (j := 0)) (fun k _ hk => by cases hk; rfl)) ?_
  rintro k hk rfl
  exact W1.out.ne R1.out (by decide) hk
theorem x_feed_dead (h : Fd w B f v l n d) (hd : d ≠ 0) (s : ByteArray) : Calls Tryd.prog 10 #[.pointer (some ⟨f, 0, none⟩), .string s] w fun e w' => e = .returned (.tuple #[]) ∧ w = w' := by
  have c2 := h.c2
  have hd' : (d == 0) = false := by simpa using hd
  clear h hd
  go_enter Tryd.func10, Tryd.ntmps10
  go_wp2_with fail
  go_end0
  exact ⟨rfl, rfl⟩
end
end Go.Proofs.YtceiipcdkonnlaaDoor
