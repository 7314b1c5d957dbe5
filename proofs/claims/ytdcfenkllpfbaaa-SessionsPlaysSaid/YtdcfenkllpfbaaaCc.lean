/-
  LAYER 28: the document's Deliver.
-/
import Derived.Test.YtdcfenkllpfbaaaCb
namespace Go.Proofs.Ytdcfenkllpfbaaa.Sns
set_option linter.unusedVariables false
set_option linter.unusedSimpArgs false
open Go.Proofs.Ytdcfenkllpfbaaa
open Go.RowKit Que
variable {w w' : World} {x B : Nat} {n : Int} {D : List (Option De)}
theorem De.At.ext {z : De} (h : z.At w B n) (hb : Below w.heap.size w w') : z.At w' B n := h.off (S := fun _ => False) (Far.of_ext hb) (fun k e => e.elim)
set_option maxHeartbeats 8000000 in
theorem xfill {z : De} (h : z.At w B n) : Calls Try.prog 37 #[.pointer (some ⟨z.d, 0, none⟩)] w fun e w' => e = .returned (.slice none 0 0) ∧ w = w' := by
  have c2 := h.c2
  clear h
  go_enter Try.func37, Try.ntmps37
  go_wp2_with fail
  go_loopw [3] (fun v wr => v = .slice none 0 0 ∧ wr = w) (fun _ _ => 0)
  case atStart => exact ⟨rfl, rfl⟩
  case round =>
    obtain ⟨rfl, rfl⟩ := hrel
    go_wp2_with fail
    go_ret
    exact ⟨rfl, rfl⟩
/-- A session after one more message. -/
def dlD (z : De) (m : Mg) (v : Value) : De := { z with v := v, l := if z.l.length < 16 then z.l ++ [m] else z.l, lost := if z.l.length < 16 then z.lost else z.lost + 1 }
/-- Where a session's list stands: its queue, its row. -/
def SXd (z : De) (k : Nat) : Prop := k = z.q ∨ z.v.ownBlock = some k
def PutD (w : World) (B : Nat) (n : Int) (z : De) (m : Mg) (w' : World) : Prop :=
  ∃ v, (dlD z m v).At w' B (n + 1) ∧ Far (SXd z) w w' ∧ ∀ k, v.ownBlock = some k → z.v.ownBlock = some k ∨ w.heap.size ≤ k
theorem De.At.sx {z : De} (h : z.At w B n) : ¬ SXd z z.d := fun e => e.elim (ne_ty h.row h.xq.row (by decide)) (fun e => own_far h.xq.its h.row (by decide) e.symm)
theorem xput_any {z : De} (h : z.At w B n) (m : Mg) (hn : n ≤ 1000) (hB : B ≤ w.heap.size) :
    Calls Try.prog 36 #[.pointer (some ⟨z.q, 0, none⟩), .agg #[.string m.a0, .string m.a1, .int .i64 m.a2, .bool m.a3]] w fun e w' => e = .returned (.bool (decide (z.l.length < 16))) ∧ PutD w B n z m w' := by
  have hl := h.len
  have h0 := h.lost0
  have h1 := h.lostn
  by_cases hr : z.l.length < 16
  · refine (Quu.xput_yes h.xq m (by omega) (by omega) hB).mono ?_
    rintro e w' ⟨rfl, v', nx⟩
    rw [decide_eq_true hr]
    have F : Far (SXd z) w w' := nx.far
    refine ⟨rfl, v', ⟨?_, ?_, h.old, ?_, ?_, ?_⟩, F, nx.nb⟩
    · exact (F.block z.d h.ltd h.sx).trans h.row
    · simpa [dlD, hr] using nx.x
    · simp [dlD, hr]; omega
    · simp [dlD, hr]; omega
    · simp [dlD, hr]; omega
  · refine (Quu.xput_no h.xq m (by omega) ⟨h0, by omega⟩ (by omega)).mono ?_
    rintro e w' ⟨rfl, v', nx⟩
    rw [decide_eq_false hr]
    have F : Far (SXd z) w w' := nx.far
    refine ⟨rfl, v', ⟨?_, ?_, h.old, ?_, ?_, ?_⟩, F, nx.nb⟩
    · exact (F.block z.d h.ltd h.sx).trans h.row
    · simpa [dlD, hr] using nx.x
    · simp [dlD, hr]; omega
    · simp [dlD, hr]; omega
    · simp [dlD, hr]; omega
theorem PutD.from {z : De} {m : Mg} {w0 : World} (h : PutD w B n z m w') (b : Below w0.heap.size w0 w) : PutD w0 B n z m w' := by
  obtain ⟨v, h1, h2, h3⟩ := h
  exact ⟨v, h1, (Far.of_ext b).trans h2 (fun k _ hk => hk), fun k hk => (h3 k hk).imp id (fun e => Nat.le_trans b.size e)⟩
set_option maxHeartbeats 16000000 in
set_option maxRecDepth 100000 in
theorem xdeliver {z : De} (h : z.At w B n) (t y : ByteArray) (r : Bool) (hn : n ≤ 1000) (hB : B ≤ w.heap.size) :
    Calls Try.prog 21 #[.pointer (some ⟨z.d, 0, none⟩), .agg #[.string t, .string y, .int .i64 1, .bool r], .int .i64 1] w fun e w' => (∃ v, e = .returned (.tuple #[.slice none 0 0, v])) ∧ PutD w B n z ⟨t, y, 1, r⟩ w' := by
  have e0 := ext_two w (.cells #[.string t, .string y, .int .i64 1, .bool r] 46) (.cells #[.string t, .string y, .int .i64 1, .bool r] 46)
  have R1 : ((w.alloc (.cells #[.string t, .string y, .int .i64 1, .bool r] 46)).alloc (.cells #[.string t, .string y, .int .i64 1, .bool r] 46)).heap[w.heap.size + 1]? = some (.cells #[.string t, .string y, .int .i64 1, .bool r] 46 (0, 0)) := by
    have h' := heap_alloc_new (w.alloc (.cells #[.string t, .string y, .int .i64 1, .bool r] 46)) (.cells #[.string t, .string y, .int .i64 1, .bool r] 46)
    simpa using h'
  have nob : ¬ SXd z (w.heap.size + 1) := fun e => by
    rcases e with e | e
    · have := h.xq.lt; omega
    · obtain ⟨-, cs, hc⟩ := own_row h.xq.its e
      have := (Array.getElem?_eq_some_iff.1 hc).1
      omega
  have S1 := Lib.hid (h.ext e0)
  have c3 := S1.out.c3
  have k0 := cell_of_row _ _ 0 _ 46 (0, 0) R1
  have k1 := cell_of_row _ _ 1 _ 46 (0, 0) R1
  have k2 := cell_of_row _ _ 2 _ 46 (0, 0) R1
  have k3 := cell_of_row _ _ 3 _ 46 (0, 0) R1
  clear k0 k1 k2 k3
  have KO := Lib.hid (fun W (hb : Below ((w.alloc (.cells #[.string t, .string y, .int .i64 1, .bool r] 46)).alloc (.cells #[.string t, .string y, .int .i64 1, .bool r] 46)).heap.size ((w.alloc (.cells #[.string t, .string y, .int .i64 1, .bool r] 46)).alloc (.cells #[.string t, .string y, .int .i64 1, .bool r] 46)) W) =>
    (show W.cell? ⟨z.d, 3, none⟩ = some (.pointer (some ⟨z.q, 0, none⟩)) ∧ W.cell? ⟨w.heap.size + 1, 0, none⟩ = some (.string t) ∧ W.cell? ⟨w.heap.size + 1, 1, none⟩ = some (.string y) ∧ W.cell? ⟨w.heap.size + 1, 2, none⟩ = some (.int .i64 1) ∧ W.cell? ⟨w.heap.size + 1, 3, none⟩ = some (.bool r) from by
      have R' := (hb.block _ (Array.getElem?_eq_some_iff.1 R1).1).trans R1
      exact ⟨(S1.out.ext hb).c3, cell_of_row _ _ 0 _ 46 (0, 0) R', cell_of_row _ _ 1 _ 46 (0, 0) R', cell_of_row _ _ 2 _ 46 (0, 0) R', cell_of_row _ _ 3 _ 46 (0, 0) R'⟩))
  have SE := Lib.hid (fun W (hb : Below ((w.alloc (.cells #[.string t, .string y, .int .i64 1, .bool r] 46)).alloc (.cells #[.string t, .string y, .int .i64 1, .bool r] 46)).heap.size ((w.alloc (.cells #[.string t, .string y, .int .i64 1, .bool r] 46)).alloc (.cells #[.string t, .string y, .int .i64 1, .bool r] 46)) W) =>
    (xput_any (S1.out.ext hb) ⟨t, y, 1, r⟩ hn (Nat.le_trans hB (Nat.le_trans e0.size hb.size))).mono (R' := fun e w' => e = .returned (.bool (decide (z.l.length < 16))) ∧ PutD w B n z ⟨t, y, 1, r⟩ w' ∧ (w'.cell? ⟨z.d, 3, none⟩ = some (.pointer (some ⟨z.q, 0, none⟩)) ∧ w'.cell? ⟨w.heap.size + 1, 0, none⟩ = some (.string t) ∧ w'.cell? ⟨w.heap.size + 1, 1, none⟩ = some (.string y) ∧ w'.cell? ⟨w.heap.size + 1, 2, none⟩ = some (.int .i64 1) ∧ w'.cell? ⟨w.heap.size + 1, 3, none⟩ = some (.bool r))) (fun e w' he => ⟨he.1, he.2.from (ext_trans e0 hb), by
      obtain ⟨v, h1, F, -⟩ := he.2
      have hbx : w.heap.size + 1 < W.heap.size := Nat.lt_of_lt_of_le (Array.getElem?_eq_some_iff.1 R1).1 hb.size
      have R' := (F.block _ hbx nob).trans ((hb.block _ (Array.getElem?_eq_some_iff.1 R1).1).trans R1)
      exact ⟨h1.c3, cell_of_row _ _ 0 _ 46 (0, 0) R', cell_of_row _ _ 1 _ 46 (0, 0) R', cell_of_row _ _ 2 _ 46 (0, 0) R', cell_of_row _ _ 3 _ 46 (0, 0) R'⟩⟩))
  clear h
  replace e0 := Lib.hid e0
  replace R1 := Lib.hid R1
  go_enter Try.func21, Try.ntmps21
  go_wp2_with fail
  generalize hW1 : ((w.alloc (.cells #[.string t, .string y, .int .i64 1, .bool r] 46)).alloc (.cells #[.string t, .string y, .int .i64 1, .bool r] 46)) = w1 at *
  clear c3
  go_region_held3 (fun W => W.cell? ⟨z.d, 3, none⟩ = some (.pointer (some ⟨z.q, 0, none⟩)) ∧ W.cell? ⟨w.heap.size + 1, 0, none⟩ = some (.string t) ∧ W.cell? ⟨w.heap.size + 1, 1, none⟩ = some (.string y) ∧ W.cell? ⟨w.heap.size + 1, 2, none⟩ = some (.int .i64 1) ∧ W.cell? ⟨w.heap.size + 1, 3, none⟩ = some (.bool r))
    (first | exact KO.out _ (by first | exact Below.refl _ _ | exact ext_drew _ | assumption) | exact KA.out)
    (first
      | (go_at_call 36; refine (SE.out _ (by first | exact Below.refl _ _ | exact ext_drew _ | assumption)).mono ?_; rintro e w4 ⟨rfl, p4, k4⟩; have X4 : Hid (PutD w B n z ⟨t, y, 1, r⟩ w4) := Lib.hid p4; clear p4; have KA := Lib.hid k4; clear k4))
  all_goals
    obtain ⟨v4, z4, F4, b4⟩ := X4.out
    have FL := Lib.hid (xfill z4)
    clear KA KO SE z4 F4 b4
    go_wp2_with fail
    refine FL.out.mono ?_
    rintro e w5 ⟨rfl, rfl⟩
    go_wp2_with fail
    go_ret2
    exact ⟨⟨_, rfl⟩, X4.out⟩
end Go.Proofs.Ytdcfenkllpfbaaa.Sns
