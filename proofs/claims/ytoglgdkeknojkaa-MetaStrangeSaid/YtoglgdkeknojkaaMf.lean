/-
  LAYER 6: the document's fields.
-/
import Derived.Test.YtoglgdkeknojkaaMe
import Derived.Deep.DeepMust
namespace Go.Proofs.Ytoglgdkeknojkaa
open Go.RowKit

theorem fieldP_0 (m : Me) : fieldP m 0 = if m.multi then [⟨1, 0, 1, ⟨#[]⟩⟩] else [] := by
  unfold fieldP getN getS kindP
  cases m.multi <;> simp [empty, ByteArray.size]
theorem fieldP_n2 (m : Me) : fieldP m 2 = if m.size = 0 then [] else [⟨3, 0, m.size, ⟨#[]⟩⟩] := by
  unfold fieldP getN getS kindP
  by_cases h : m.size = 0 <;> simp [h, empty, ByteArray.size]
theorem fieldP_n3 (m : Me) : fieldP m 3 = if m.seq = 0 then [] else [⟨4, 0, m.seq, ⟨#[]⟩⟩] := by
  unfold fieldP getN getS kindP
  by_cases h : m.seq = 0 <;> simp [h, empty, ByteArray.size]
theorem fieldP_t (m : Me) : fieldP m 1 = tx 2 m.type ∧ fieldP m 4 = tx 5 m.file ∧ fieldP m 5 = tx 6 m.kind ∧ fieldP m 6 = tx 7 m.md5 ∧ fieldP m 7 = tx 8 m.desc := by
  refine ⟨?_, ?_, ?_, ?_, ?_⟩ <;> simp [fieldP, getN, getS, kindP, tx]
theorem fieldsK_8 (m : Me) : fieldsK m 8 = (((((((fieldP m 0 ++ tx 2 m.type) ++ fieldP m 2) ++ fieldP m 3) ++ tx 5 m.file) ++ tx 6 m.kind) ++ tx 7 m.md5) ++ tx 8 m.desc) := by
  obtain ⟨h1, h4, h5, h6, h7⟩ := fieldP_t m
  rw [← h1, ← h4, ← h5, ← h6, ← h7]
  simp [fieldsK, List.range_succ, List.append_assoc]
/-- What fields makes. -/
def FldP (m : Me) (w : World) (e : Ending) (w' : World) : Prop := ∃ v, e = .returned v ∧ FdsAt w' v (fieldsK m 8) ∧ Below w.heap.size w w'
theorem box8b {w : World} {q : Nat} {a b c d e f g h : Value} (k : Blk w q 24 #[a, b, c, d, e, f, g, h]) : w.cell? ⟨q, 0, none⟩ = some a ∧ w.cell? ⟨q, 1, none⟩ = some b ∧ w.cell? ⟨q, 2, none⟩ = some c ∧ w.cell? ⟨q, 3, none⟩ = some d ∧ w.cell? ⟨q, 4, none⟩ = some e ∧ w.cell? ⟨q, 5, none⟩ = some f ∧ w.cell? ⟨q, 6, none⟩ = some g ∧ w.cell? ⟨q, 7, none⟩ = some h :=
  ⟨Blk.cell k 0, Blk.cell k 1, Blk.cell k 2, Blk.cell k 3, Blk.cell k 4, Blk.cell k 5, Blk.cell k 6, Blk.cell k 7⟩
set_option maxHeartbeats 4000000 in
set_option maxRecDepth 100000 in
theorem fields_000 (m : Me) (w : World) (hm : m.ok) (h0 : m.multi = false) (h2 : m.size = 0) (h3 : m.seq = 0) : Calls Try.prog 17 #[m.val] w (FldP m w) := by
  unfold FldP
  rw [fieldsK_8, fieldP_0, fieldP_n2, fieldP_n3, if_neg (by rw [h0]; simp), if_pos h2, if_pos h3]
  obtain ⟨j0, hj, hy0, hy1, hy2⟩ := info_parts Try.info41
  replace hj := Lib.hid hj
  replace hy0 := Lib.hid hy0
  replace hy1 := Lib.hid hy1
  replace hy2 := Lib.hid hy2
  obtain ⟨x0, x1, x2, x3, x4, x5, x6, x7⟩ := m
  obtain ⟨-, hsz, hsq, -⟩ := hm
  simp only at h0 h2 h3 hsz hsq ⊢
  subst h0
  subst h2
  subst h3
  simp only [Me.val, Me.cells, Int.natCast_zero]
  have t2 := tx_le 2 x1
  have t5 := tx_le 5 x4
  have t6 := tx_le 6 x5
  have t7 := tx_le 7 x6
  have t8 := tx_le 8 x7
  have D0 := Lib.hid (ext_alloc w (.cells #[.bool false, .string x1, .int .u64 0, .int .u64 0, .string x4, .string x5, .string x6, .string x7] 24))
  have M0 := Lib.hid (Blk.new w 24 #[.bool false, .string x1, .int .u64 0, .int .u64 0, .string x4, .string x5, .string x6, .string x7])
  obtain ⟨c0, c1, c2, c3, c4, c5, c6, c7⟩ := box8b M0.out
  have own0 : (w.alloc (.cells #[.bool false, .string x1, .int .u64 0, .int .u64 0, .string x4, .string x5, .string x6, .string x7] 24)).ownsRow (w.heap.size + 1) 41 4 (.slice none 0 0) ([] : List Fd).length (fcs []) := World.ownsRow_nil _ _ _ _
  have z0 : w.heap.size + 1 ≤ (w.alloc (.cells #[.bool false, .string x1, .int .u64 0, .int .u64 0, .string x4, .string x5, .string x6, .string x7] 24)).heap.size := by simp
  replace own0 := Lib.hid own0
  go_enter Try.func17, Try.ntmps17
  go_wp2_with fail
  refine (text38_any _ (w.heap.size + 1) ([] : List Fd) 2 x1 _ own0.out z0 (by simp only [List.length_append, List.length_nil, List.length_singleton, List.length_cons]; omega)).mono ?_
  rintro e w1 ⟨v1, rfl, own1, b1⟩
  have D1 := Lib.hid (D0.out.trans (b1.mono D0.out.size))
  have M1 := Lib.hid (Blk.ext M0.out b1)
  have z1 : w.heap.size + 1 ≤ w1.heap.size := Nat.succ_le_of_lt (Blk.lt M1.out)
  replace own1 := Lib.hid own1
  clear b1 c0 c1 c2 c3 c4 c5 c6 c7
  obtain ⟨c0, c1, c2, c3, c4, c5, c6, c7⟩ := box8b M1.out
  go_wp2_with fail
  refine (text38_any _ (w.heap.size + 1) (([] : List Fd) ++ tx 2 x1) 5 x4 _ own1.out z1 (by simp only [List.length_append, List.length_nil, List.length_singleton, List.length_cons]; omega)).mono ?_
  rintro e w2 ⟨v2, rfl, own2, b2⟩
  have D2 := Lib.hid (D1.out.trans (b2.mono D1.out.size))
  have M2 := Lib.hid (Blk.ext M1.out b2)
  have z2 : w.heap.size + 1 ≤ w2.heap.size := Nat.succ_le_of_lt (Blk.lt M2.out)
  replace own2 := Lib.hid own2
  clear b2 c0 c1 c2 c3 c4 c5 c6 c7
  obtain ⟨c0, c1, c2, c3, c4, c5, c6, c7⟩ := box8b M2.out
  go_wp2_with fail
  refine (text38_any _ (w.heap.size + 1) ((([] : List Fd) ++ tx 2 x1) ++ tx 5 x4) 6 x5 _ own2.out z2 (by simp only [List.length_append, List.length_nil, List.length_singleton, List.length_cons]; omega)).mono ?_
  rintro e w3 ⟨v3, rfl, own3, b3⟩
  have D3 := Lib.hid (D2.out.trans (b3.mono D2.out.size))
  have M3 := Lib.hid (Blk.ext M2.out b3)
  have z3 : w.heap.size + 1 ≤ w3.heap.size := Nat.succ_le_of_lt (Blk.lt M3.out)
  replace own3 := Lib.hid own3
  clear b3 c0 c1 c2 c3 c4 c5 c6 c7
  obtain ⟨c0, c1, c2, c3, c4, c5, c6, c7⟩ := box8b M3.out
  go_wp2_with fail
  refine (text38_any _ (w.heap.size + 1) (((([] : List Fd) ++ tx 2 x1) ++ tx 5 x4) ++ tx 6 x5) 7 x6 _ own3.out z3 (by simp only [List.length_append, List.length_nil, List.length_singleton, List.length_cons]; omega)).mono ?_
  rintro e w4 ⟨v4, rfl, own4, b4⟩
  have D4 := Lib.hid (D3.out.trans (b4.mono D3.out.size))
  have M4 := Lib.hid (Blk.ext M3.out b4)
  have z4 : w.heap.size + 1 ≤ w4.heap.size := Nat.succ_le_of_lt (Blk.lt M4.out)
  replace own4 := Lib.hid own4
  clear b4 c0 c1 c2 c3 c4 c5 c6 c7
  obtain ⟨c0, c1, c2, c3, c4, c5, c6, c7⟩ := box8b M4.out
  go_wp2_with fail
  refine (text38_any _ (w.heap.size + 1) ((((([] : List Fd) ++ tx 2 x1) ++ tx 5 x4) ++ tx 6 x5) ++ tx 7 x6) 8 x7 _ own4.out z4 (by simp only [List.length_append, List.length_nil, List.length_singleton, List.length_cons]; omega)).mono ?_
  rintro e w5 ⟨v5, rfl, own5, b5⟩
  have D5 := Lib.hid (D4.out.trans (b5.mono D4.out.size))
  have M5 := Lib.hid (Blk.ext M4.out b5)
  have z5 : w.heap.size + 1 ≤ w5.heap.size := Nat.succ_le_of_lt (Blk.lt M5.out)
  replace own5 := Lib.hid own5
  clear b5 c0 c1 c2 c3 c4 c5 c6 c7
  obtain ⟨c0, c1, c2, c3, c4, c5, c6, c7⟩ := box8b M5.out
  go_wp2_with fail
  go_ret
  have hF := FdsAt.of_own own5.out (by simp only [List.length_append, List.length_nil, List.length_singleton, List.length_cons]; omega)
  simp only [List.nil_append, List.append_nil] at hF ⊢
  exact ⟨_, rfl, hF, D5.out⟩
set_option maxHeartbeats 4000000 in
set_option maxRecDepth 100000 in
theorem fields_001 (m : Me) (w : World) (hm : m.ok) (h0 : m.multi = false) (h2 : m.size = 0) (h3 : m.seq ≠ 0) : Calls Try.prog 17 #[m.val] w (FldP m w) := by
  unfold FldP
  rw [fieldsK_8, fieldP_0, fieldP_n2, fieldP_n3, if_neg (by rw [h0]; simp), if_pos h2, if_neg h3]
  obtain ⟨j0, hj, hy0, hy1, hy2⟩ := info_parts Try.info41
  replace hj := Lib.hid hj
  replace hy0 := Lib.hid hy0
  replace hy1 := Lib.hid hy1
  replace hy2 := Lib.hid hy2
  obtain ⟨x0, x1, x2, x3, x4, x5, x6, x7⟩ := m
  obtain ⟨-, hsz, hsq, -⟩ := hm
  simp only at h0 h2 h3 hsz hsq ⊢
  subst h0
  subst h2
  have d3 : ((x3 : Int) != 0) = true := by simpa using h3
  replace h3 := Lib.hid h3
  simp only [Me.val, Me.cells, Int.natCast_zero]
  have t2 := tx_le 2 x1
  have t5 := tx_le 5 x4
  have t6 := tx_le 6 x5
  have t7 := tx_le 7 x6
  have t8 := tx_le 8 x7
  have D0 := Lib.hid (ext_alloc w (.cells #[.bool false, .string x1, .int .u64 0, .int .u64 (x3 : Nat), .string x4, .string x5, .string x6, .string x7] 24))
  have M0 := Lib.hid (Blk.new w 24 #[.bool false, .string x1, .int .u64 0, .int .u64 (x3 : Nat), .string x4, .string x5, .string x6, .string x7])
  obtain ⟨c0, c1, c2, c3, c4, c5, c6, c7⟩ := box8b M0.out
  have own0 : (w.alloc (.cells #[.bool false, .string x1, .int .u64 0, .int .u64 (x3 : Nat), .string x4, .string x5, .string x6, .string x7] 24)).ownsRow (w.heap.size + 1) 41 4 (.slice none 0 0) ([] : List Fd).length (fcs []) := World.ownsRow_nil _ _ _ _
  have z0 : w.heap.size + 1 ≤ (w.alloc (.cells #[.bool false, .string x1, .int .u64 0, .int .u64 (x3 : Nat), .string x4, .string x5, .string x6, .string x7] 24)).heap.size := by simp
  replace own0 := Lib.hid own0
  have hl4 := fun w => fds_lit w ⟨4, 0, x3, ⟨#[]⟩⟩
  have hc4 : (Fd.mk 4 0 x3 ⟨#[]⟩).cells.toArray = #[.int .i64 4, .int .i64 0, .int .u64 (x3 : Nat), .string ⟨#[]⟩] := rfl
  rw [hc4] at hl4
  replace hl4 := Lib.hid hl4
  replace hc4 := Lib.hid hc4
  go_enter Try.func17, Try.ntmps17
  go_wp2_with fail
  refine (text38_any _ (w.heap.size + 1) ([] : List Fd) 2 x1 _ own0.out z0 (by simp only [List.length_append, List.length_nil, List.length_singleton, List.length_cons]; omega)).mono ?_
  rintro e w1 ⟨v1, rfl, own1, b1⟩
  have D1 := Lib.hid (D0.out.trans (b1.mono D0.out.size))
  have M1 := Lib.hid (Blk.ext M0.out b1)
  have z1 : w.heap.size + 1 ≤ w1.heap.size := Nat.succ_le_of_lt (Blk.lt M1.out)
  replace own1 := Lib.hid own1
  clear b1 c0 c1 c2 c3 c4 c5 c6 c7
  obtain ⟨c0, c1, c2, c3, c4, c5, c6, c7⟩ := box8b M1.out
  go_wp2_with (first
    | (at_builtin; go_must ((refine wpList_append_fds _ rfl (.tmp 26) (.tmp 30) 39 rfl (w.heap.size + 1) 41 j0 _ Try.underlying39 hj.out hy0.out rfl hy1.out hy2.out _ (([] : List Fd) ++ tx 2 x1) [(⟨4, 0, x3, ⟨#[]⟩⟩ : Fd)] rfl (mown_below own1.out (ext_alloc _ _)) (hl4.out _) (by simp only [List.length_append, List.length_nil, List.length_singleton, List.length_cons]; omega) (Nat.le_trans z1 (ext_alloc w1 (.cells #[.int .i64 4, .int .i64 0, .int .u64 (x3 : Nat), .string ⟨#[]⟩] 41)).size) ?_); intro v2 w2 own2 g2; have D2 := Lib.hid ((D1.out.trans ((ext_alloc w1 (.cells #[.int .i64 4, .int .i64 0, .int .u64 (x3 : Nat), .string ⟨#[]⟩] 41)).mono D1.out.size)).trans ((fgrown_ext (mown_below own1.out (ext_alloc w1 (.cells #[.int .i64 4, .int .i64 0, .int .u64 (x3 : Nat), .string ⟨#[]⟩] 41))) g2 (Nat.le_trans z1 (ext_alloc w1 (.cells #[.int .i64 4, .int .i64 0, .int .u64 (x3 : Nat), .string ⟨#[]⟩] 41)).size)).mono (Nat.le_succ _))); have M2 := Lib.hid ((Blk.ext M1.out (ext_alloc w1 (.cells #[.int .i64 4, .int .i64 0, .int .u64 (x3 : Nat), .string ⟨#[]⟩] 41))).grown g2 (own_ne (mown_below own1.out (ext_alloc w1 (.cells #[.int .i64 4, .int .i64 0, .int .u64 (x3 : Nat), .string ⟨#[]⟩] 41))) (Nat.lt_succ_self _))); have z2 : w.heap.size + 1 ≤ w2.heap.size := Nat.succ_le_of_lt (Blk.lt M2.out); replace own2 := Lib.hid own2; clear g2 c0 c1 c2 c3 c4 c5 c6 c7; (obtain ⟨c0, c1, c2, c3, c4, c5, c6, c7⟩ := box8b M2.out))))
  refine (text38_any _ (w.heap.size + 1) ((([] : List Fd) ++ tx 2 x1) ++ [(⟨4, 0, x3, ⟨#[]⟩⟩ : Fd)]) 5 x4 _ own2.out z2 (by simp only [List.length_append, List.length_nil, List.length_singleton, List.length_cons]; omega)).mono ?_
  rintro e w3 ⟨v3, rfl, own3, b3⟩
  have D3 := Lib.hid (D2.out.trans (b3.mono D2.out.size))
  have M3 := Lib.hid (Blk.ext M2.out b3)
  have z3 : w.heap.size + 1 ≤ w3.heap.size := Nat.succ_le_of_lt (Blk.lt M3.out)
  replace own3 := Lib.hid own3
  clear b3 c0 c1 c2 c3 c4 c5 c6 c7
  obtain ⟨c0, c1, c2, c3, c4, c5, c6, c7⟩ := box8b M3.out
  go_wp2_with fail
  refine (text38_any _ (w.heap.size + 1) (((([] : List Fd) ++ tx 2 x1) ++ [(⟨4, 0, x3, ⟨#[]⟩⟩ : Fd)]) ++ tx 5 x4) 6 x5 _ own3.out z3 (by simp only [List.length_append, List.length_nil, List.length_singleton, List.length_cons]; omega)).mono ?_
  rintro e w4 ⟨v4, rfl, own4, b4⟩
  have D4 := Lib.hid (D3.out.trans (b4.mono D3.out.size))
  have M4 := Lib.hid (Blk.ext M3.out b4)
  have z4 : w.heap.size + 1 ≤ w4.heap.size := Nat.succ_le_of_lt (Blk.lt M4.out)
  replace own4 := Lib.hid own4
  clear b4 c0 c1 c2 c3 c4 c5 c6 c7
  obtain ⟨c0, c1, c2, c3, c4, c5, c6, c7⟩ := box8b M4.out
  go_wp2_with fail
  refine (text38_any _ (w.heap.size + 1) ((((([] : List Fd) ++ tx 2 x1) ++ [(⟨4, 0, x3, ⟨#[]⟩⟩ : Fd)]) ++ tx 5 x4) ++ tx 6 x5) 7 x6 _ own4.out z4 (by simp only [List.length_append, List.length_nil, List.length_singleton, List.length_cons]; omega)).mono ?_
  rintro e w5 ⟨v5, rfl, own5, b5⟩
  have D5 := Lib.hid (D4.out.trans (b5.mono D4.out.size))
  have M5 := Lib.hid (Blk.ext M4.out b5)
  have z5 : w.heap.size + 1 ≤ w5.heap.size := Nat.succ_le_of_lt (Blk.lt M5.out)
  replace own5 := Lib.hid own5
  clear b5 c0 c1 c2 c3 c4 c5 c6 c7
  obtain ⟨c0, c1, c2, c3, c4, c5, c6, c7⟩ := box8b M5.out
  go_wp2_with fail
  refine (text38_any _ (w.heap.size + 1) (((((([] : List Fd) ++ tx 2 x1) ++ [(⟨4, 0, x3, ⟨#[]⟩⟩ : Fd)]) ++ tx 5 x4) ++ tx 6 x5) ++ tx 7 x6) 8 x7 _ own5.out z5 (by simp only [List.length_append, List.length_nil, List.length_singleton, List.length_cons]; omega)).mono ?_
  rintro e w6 ⟨v6, rfl, own6, b6⟩
  have D6 := Lib.hid (D5.out.trans (b6.mono D5.out.size))
  have M6 := Lib.hid (Blk.ext M5.out b6)
  have z6 : w.heap.size + 1 ≤ w6.heap.size := Nat.succ_le_of_lt (Blk.lt M6.out)
  replace own6 := Lib.hid own6
  clear b6 c0 c1 c2 c3 c4 c5 c6 c7
  obtain ⟨c0, c1, c2, c3, c4, c5, c6, c7⟩ := box8b M6.out
  go_wp2_with fail
  go_ret
  have hF := FdsAt.of_own own6.out (by simp only [List.length_append, List.length_nil, List.length_singleton, List.length_cons]; omega)
  simp only [List.nil_append, List.append_nil] at hF ⊢
  exact ⟨_, rfl, hF, D6.out⟩
set_option maxHeartbeats 4000000 in
set_option maxRecDepth 100000 in
theorem fields_010 (m : Me) (w : World) (hm : m.ok) (h0 : m.multi = false) (h2 : m.size ≠ 0) (h3 : m.seq = 0) : Calls Try.prog 17 #[m.val] w (FldP m w) := by
  unfold FldP
  rw [fieldsK_8, fieldP_0, fieldP_n2, fieldP_n3, if_neg (by rw [h0]; simp), if_neg h2, if_pos h3]
  obtain ⟨j0, hj, hy0, hy1, hy2⟩ := info_parts Try.info41
  replace hj := Lib.hid hj
  replace hy0 := Lib.hid hy0
  replace hy1 := Lib.hid hy1
  replace hy2 := Lib.hid hy2
  obtain ⟨x0, x1, x2, x3, x4, x5, x6, x7⟩ := m
  obtain ⟨-, hsz, hsq, -⟩ := hm
  simp only at h0 h2 h3 hsz hsq ⊢
  subst h0
  have d2 : ((x2 : Int) != 0) = true := by simpa using h2
  replace h2 := Lib.hid h2
  subst h3
  simp only [Me.val, Me.cells, Int.natCast_zero]
  have t2 := tx_le 2 x1
  have t5 := tx_le 5 x4
  have t6 := tx_le 6 x5
  have t7 := tx_le 7 x6
  have t8 := tx_le 8 x7
  have D0 := Lib.hid (ext_alloc w (.cells #[.bool false, .string x1, .int .u64 (x2 : Nat), .int .u64 0, .string x4, .string x5, .string x6, .string x7] 24))
  have M0 := Lib.hid (Blk.new w 24 #[.bool false, .string x1, .int .u64 (x2 : Nat), .int .u64 0, .string x4, .string x5, .string x6, .string x7])
  obtain ⟨c0, c1, c2, c3, c4, c5, c6, c7⟩ := box8b M0.out
  have own0 : (w.alloc (.cells #[.bool false, .string x1, .int .u64 (x2 : Nat), .int .u64 0, .string x4, .string x5, .string x6, .string x7] 24)).ownsRow (w.heap.size + 1) 41 4 (.slice none 0 0) ([] : List Fd).length (fcs []) := World.ownsRow_nil _ _ _ _
  have z0 : w.heap.size + 1 ≤ (w.alloc (.cells #[.bool false, .string x1, .int .u64 (x2 : Nat), .int .u64 0, .string x4, .string x5, .string x6, .string x7] 24)).heap.size := by simp
  replace own0 := Lib.hid own0
  have hl3 := fun w => fds_lit w ⟨3, 0, x2, ⟨#[]⟩⟩
  have hc3 : (Fd.mk 3 0 x2 ⟨#[]⟩).cells.toArray = #[.int .i64 3, .int .i64 0, .int .u64 (x2 : Nat), .string ⟨#[]⟩] := rfl
  rw [hc3] at hl3
  replace hl3 := Lib.hid hl3
  replace hc3 := Lib.hid hc3
  go_enter Try.func17, Try.ntmps17
  go_wp2_with fail
  refine (text38_any _ (w.heap.size + 1) ([] : List Fd) 2 x1 _ own0.out z0 (by simp only [List.length_append, List.length_nil, List.length_singleton, List.length_cons]; omega)).mono ?_
  rintro e w1 ⟨v1, rfl, own1, b1⟩
  have D1 := Lib.hid (D0.out.trans (b1.mono D0.out.size))
  have M1 := Lib.hid (Blk.ext M0.out b1)
  have z1 : w.heap.size + 1 ≤ w1.heap.size := Nat.succ_le_of_lt (Blk.lt M1.out)
  replace own1 := Lib.hid own1
  clear b1 c0 c1 c2 c3 c4 c5 c6 c7
  obtain ⟨c0, c1, c2, c3, c4, c5, c6, c7⟩ := box8b M1.out
  go_wp2_with (first
    | (at_builtin; go_must ((refine wpList_append_fds _ rfl (.tmp 17) (.tmp 21) 39 rfl (w.heap.size + 1) 41 j0 _ Try.underlying39 hj.out hy0.out rfl hy1.out hy2.out _ (([] : List Fd) ++ tx 2 x1) [(⟨3, 0, x2, ⟨#[]⟩⟩ : Fd)] rfl (mown_below own1.out (ext_alloc _ _)) (hl3.out _) (by simp only [List.length_append, List.length_nil, List.length_singleton, List.length_cons]; omega) (Nat.le_trans z1 (ext_alloc w1 (.cells #[.int .i64 3, .int .i64 0, .int .u64 (x2 : Nat), .string ⟨#[]⟩] 41)).size) ?_); intro v2 w2 own2 g2; have D2 := Lib.hid ((D1.out.trans ((ext_alloc w1 (.cells #[.int .i64 3, .int .i64 0, .int .u64 (x2 : Nat), .string ⟨#[]⟩] 41)).mono D1.out.size)).trans ((fgrown_ext (mown_below own1.out (ext_alloc w1 (.cells #[.int .i64 3, .int .i64 0, .int .u64 (x2 : Nat), .string ⟨#[]⟩] 41))) g2 (Nat.le_trans z1 (ext_alloc w1 (.cells #[.int .i64 3, .int .i64 0, .int .u64 (x2 : Nat), .string ⟨#[]⟩] 41)).size)).mono (Nat.le_succ _))); have M2 := Lib.hid ((Blk.ext M1.out (ext_alloc w1 (.cells #[.int .i64 3, .int .i64 0, .int .u64 (x2 : Nat), .string ⟨#[]⟩] 41))).grown g2 (own_ne (mown_below own1.out (ext_alloc w1 (.cells #[.int .i64 3, .int .i64 0, .int .u64 (x2 : Nat), .string ⟨#[]⟩] 41))) (Nat.lt_succ_self _))); have z2 : w.heap.size + 1 ≤ w2.heap.size := Nat.succ_le_of_lt (Blk.lt M2.out); replace own2 := Lib.hid own2; clear g2 c0 c1 c2 c3 c4 c5 c6 c7; (obtain ⟨c0, c1, c2, c3, c4, c5, c6, c7⟩ := box8b M2.out))))
  refine (text38_any _ (w.heap.size + 1) ((([] : List Fd) ++ tx 2 x1) ++ [(⟨3, 0, x2, ⟨#[]⟩⟩ : Fd)]) 5 x4 _ own2.out z2 (by simp only [List.length_append, List.length_nil, List.length_singleton, List.length_cons]; omega)).mono ?_
  rintro e w3 ⟨v3, rfl, own3, b3⟩
  have D3 := Lib.hid (D2.out.trans (b3.mono D2.out.size))
  have M3 := Lib.hid (Blk.ext M2.out b3)
  have z3 : w.heap.size + 1 ≤ w3.heap.size := Nat.succ_le_of_lt (Blk.lt M3.out)
  replace own3 := Lib.hid own3
  clear b3 c0 c1 c2 c3 c4 c5 c6 c7
  obtain ⟨c0, c1, c2, c3, c4, c5, c6, c7⟩ := box8b M3.out
  go_wp2_with fail
  refine (text38_any _ (w.heap.size + 1) (((([] : List Fd) ++ tx 2 x1) ++ [(⟨3, 0, x2, ⟨#[]⟩⟩ : Fd)]) ++ tx 5 x4) 6 x5 _ own3.out z3 (by simp only [List.length_append, List.length_nil, List.length_singleton, List.length_cons]; omega)).mono ?_
  rintro e w4 ⟨v4, rfl, own4, b4⟩
  have D4 := Lib.hid (D3.out.trans (b4.mono D3.out.size))
  have M4 := Lib.hid (Blk.ext M3.out b4)
  have z4 : w.heap.size + 1 ≤ w4.heap.size := Nat.succ_le_of_lt (Blk.lt M4.out)
  replace own4 := Lib.hid own4
  clear b4 c0 c1 c2 c3 c4 c5 c6 c7
  obtain ⟨c0, c1, c2, c3, c4, c5, c6, c7⟩ := box8b M4.out
  go_wp2_with fail
  refine (text38_any _ (w.heap.size + 1) ((((([] : List Fd) ++ tx 2 x1) ++ [(⟨3, 0, x2, ⟨#[]⟩⟩ : Fd)]) ++ tx 5 x4) ++ tx 6 x5) 7 x6 _ own4.out z4 (by simp only [List.length_append, List.length_nil, List.length_singleton, List.length_cons]; omega)).mono ?_
  rintro e w5 ⟨v5, rfl, own5, b5⟩
  have D5 := Lib.hid (D4.out.trans (b5.mono D4.out.size))
  have M5 := Lib.hid (Blk.ext M4.out b5)
  have z5 : w.heap.size + 1 ≤ w5.heap.size := Nat.succ_le_of_lt (Blk.lt M5.out)
  replace own5 := Lib.hid own5
  clear b5 c0 c1 c2 c3 c4 c5 c6 c7
  obtain ⟨c0, c1, c2, c3, c4, c5, c6, c7⟩ := box8b M5.out
  go_wp2_with fail
  refine (text38_any _ (w.heap.size + 1) (((((([] : List Fd) ++ tx 2 x1) ++ [(⟨3, 0, x2, ⟨#[]⟩⟩ : Fd)]) ++ tx 5 x4) ++ tx 6 x5) ++ tx 7 x6) 8 x7 _ own5.out z5 (by simp only [List.length_append, List.length_nil, List.length_singleton, List.length_cons]; omega)).mono ?_
  rintro e w6 ⟨v6, rfl, own6, b6⟩
  have D6 := Lib.hid (D5.out.trans (b6.mono D5.out.size))
  have M6 := Lib.hid (Blk.ext M5.out b6)
  have z6 : w.heap.size + 1 ≤ w6.heap.size := Nat.succ_le_of_lt (Blk.lt M6.out)
  replace own6 := Lib.hid own6
  clear b6 c0 c1 c2 c3 c4 c5 c6 c7
  obtain ⟨c0, c1, c2, c3, c4, c5, c6, c7⟩ := box8b M6.out
  go_wp2_with fail
  go_ret
  have hF := FdsAt.of_own own6.out (by simp only [List.length_append, List.length_nil, List.length_singleton, List.length_cons]; omega)
  simp only [List.nil_append, List.append_nil] at hF ⊢
  exact ⟨_, rfl, hF, D6.out⟩
set_option maxHeartbeats 4000000 in
set_option maxRecDepth 100000 in
theorem fields_011 (m : Me) (w : World) (hm : m.ok) (h0 : m.multi = false) (h2 : m.size ≠ 0) (h3 : m.seq ≠ 0) : Calls Try.prog 17 #[m.val] w (FldP m w) := by
  unfold FldP
  rw [fieldsK_8, fieldP_0, fieldP_n2, fieldP_n3, if_neg (by rw [h0]; simp), if_neg h2, if_neg h3]
  obtain ⟨j0, hj, hy0, hy1, hy2⟩ := info_parts Try.info41
  replace hj := Lib.hid hj
  replace hy0 := Lib.hid hy0
  replace hy1 := Lib.hid hy1
  replace hy2 := Lib.hid hy2
  obtain ⟨x0, x1, x2, x3, x4, x5, x6, x7⟩ := m
  obtain ⟨-, hsz, hsq, -⟩ := hm
  simp only at h0 h2 h3 hsz hsq ⊢
  subst h0
  have d2 : ((x2 : Int) != 0) = true := by simpa using h2
  replace h2 := Lib.hid h2
  have d3 : ((x3 : Int) != 0) = true := by simpa using h3
  replace h3 := Lib.hid h3
  simp only [Me.val, Me.cells]
  have t2 := tx_le 2 x1
  have t5 := tx_le 5 x4
  have t6 := tx_le 6 x5
  have t7 := tx_le 7 x6
  have t8 := tx_le 8 x7
  have D0 := Lib.hid (ext_alloc w (.cells #[.bool false, .string x1, .int .u64 (x2 : Nat), .int .u64 (x3 : Nat), .string x4, .string x5, .string x6, .string x7] 24))
  have M0 := Lib.hid (Blk.new w 24 #[.bool false, .string x1, .int .u64 (x2 : Nat), .int .u64 (x3 : Nat), .string x4, .string x5, .string x6, .string x7])
  obtain ⟨c0, c1, c2, c3, c4, c5, c6, c7⟩ := box8b M0.out
  have own0 : (w.alloc (.cells #[.bool false, .string x1, .int .u64 (x2 : Nat), .int .u64 (x3 : Nat), .string x4, .string x5, .string x6, .string x7] 24)).ownsRow (w.heap.size + 1) 41 4 (.slice none 0 0) ([] : List Fd).length (fcs []) := World.ownsRow_nil _ _ _ _
  have z0 : w.heap.size + 1 ≤ (w.alloc (.cells #[.bool false, .string x1, .int .u64 (x2 : Nat), .int .u64 (x3 : Nat), .string x4, .string x5, .string x6, .string x7] 24)).heap.size := by simp
  replace own0 := Lib.hid own0
  have hl3 := fun w => fds_lit w ⟨3, 0, x2, ⟨#[]⟩⟩
  have hc3 : (Fd.mk 3 0 x2 ⟨#[]⟩).cells.toArray = #[.int .i64 3, .int .i64 0, .int .u64 (x2 : Nat), .string ⟨#[]⟩] := rfl
  rw [hc3] at hl3
  replace hl3 := Lib.hid hl3
  replace hc3 := Lib.hid hc3
  have hl4 := fun w => fds_lit w ⟨4, 0, x3, ⟨#[]⟩⟩
  have hc4 : (Fd.mk 4 0 x3 ⟨#[]⟩).cells.toArray = #[.int .i64 4, .int .i64 0, .int .u64 (x3 : Nat), .string ⟨#[]⟩] := rfl
  rw [hc4] at hl4
  replace hl4 := Lib.hid hl4
  replace hc4 := Lib.hid hc4
  go_enter Try.func17, Try.ntmps17
  go_wp2_with fail
  refine (text38_any _ (w.heap.size + 1) ([] : List Fd) 2 x1 _ own0.out z0 (by simp only [List.length_append, List.length_nil, List.length_singleton, List.length_cons]; omega)).mono ?_
  rintro e w1 ⟨v1, rfl, own1, b1⟩
  have D1 := Lib.hid (D0.out.trans (b1.mono D0.out.size))
  have M1 := Lib.hid (Blk.ext M0.out b1)
  have z1 : w.heap.size + 1 ≤ w1.heap.size := Nat.succ_le_of_lt (Blk.lt M1.out)
  replace own1 := Lib.hid own1
  clear b1 c0 c1 c2 c3 c4 c5 c6 c7
  obtain ⟨c0, c1, c2, c3, c4, c5, c6, c7⟩ := box8b M1.out
  go_wp2_with (first
    | (at_builtin; ((refine wpList_append_fds _ rfl (.tmp 17) (.tmp 21) 39 rfl (w.heap.size + 1) 41 j0 _ Try.underlying39 hj.out hy0.out rfl hy1.out hy2.out _ (([] : List Fd) ++ tx 2 x1) [(⟨3, 0, x2, ⟨#[]⟩⟩ : Fd)] rfl (mown_below own1.out (ext_alloc _ _)) (hl3.out _) (by simp only [List.length_append, List.length_nil, List.length_singleton, List.length_cons]; omega) (Nat.le_trans z1 (ext_alloc w1 (.cells #[.int .i64 3, .int .i64 0, .int .u64 (x2 : Nat), .string ⟨#[]⟩] 41)).size) ?_); intro v2 w2 own2 g2; have D2 := Lib.hid ((D1.out.trans ((ext_alloc w1 (.cells #[.int .i64 3, .int .i64 0, .int .u64 (x2 : Nat), .string ⟨#[]⟩] 41)).mono D1.out.size)).trans ((fgrown_ext (mown_below own1.out (ext_alloc w1 (.cells #[.int .i64 3, .int .i64 0, .int .u64 (x2 : Nat), .string ⟨#[]⟩] 41))) g2 (Nat.le_trans z1 (ext_alloc w1 (.cells #[.int .i64 3, .int .i64 0, .int .u64 (x2 : Nat), .string ⟨#[]⟩] 41)).size)).mono (Nat.le_succ _))); have M2 := Lib.hid ((Blk.ext M1.out (ext_alloc w1 (.cells #[.int .i64 3, .int .i64 0, .int .u64 (x2 : Nat), .string ⟨#[]⟩] 41))).grown g2 (own_ne (mown_below own1.out (ext_alloc w1 (.cells #[.int .i64 3, .int .i64 0, .int .u64 (x2 : Nat), .string ⟨#[]⟩] 41))) (Nat.lt_succ_self _))); have z2 : w.heap.size + 1 ≤ w2.heap.size := Nat.succ_le_of_lt (Blk.lt M2.out); replace own2 := Lib.hid own2; clear g2 c0 c1 c2 c3 c4 c5 c6 c7; (obtain ⟨c0, c1, c2, c3, c4, c5, c6, c7⟩ := box8b M2.out)))
    | (at_builtin; go_must ((refine wpList_append_fds _ rfl (.tmp 26) (.tmp 30) 39 rfl (w.heap.size + 1) 41 j0 _ Try.underlying39 hj.out hy0.out rfl hy1.out hy2.out _ ((([] : List Fd) ++ tx 2 x1) ++ [(⟨3, 0, x2, ⟨#[]⟩⟩ : Fd)]) [(⟨4, 0, x3, ⟨#[]⟩⟩ : Fd)] rfl (mown_below own2.out (ext_alloc _ _)) (hl4.out _) (by simp only [List.length_append, List.length_nil, List.length_singleton, List.length_cons]; omega) (Nat.le_trans z2 (ext_alloc w2 (.cells #[.int .i64 4, .int .i64 0, .int .u64 (x3 : Nat), .string ⟨#[]⟩] 41)).size) ?_); intro v3 w3 own3 g3; have D3 := Lib.hid ((D2.out.trans ((ext_alloc w2 (.cells #[.int .i64 4, .int .i64 0, .int .u64 (x3 : Nat), .string ⟨#[]⟩] 41)).mono D2.out.size)).trans ((fgrown_ext (mown_below own2.out (ext_alloc w2 (.cells #[.int .i64 4, .int .i64 0, .int .u64 (x3 : Nat), .string ⟨#[]⟩] 41))) g3 (Nat.le_trans z2 (ext_alloc w2 (.cells #[.int .i64 4, .int .i64 0, .int .u64 (x3 : Nat), .string ⟨#[]⟩] 41)).size)).mono (Nat.le_succ _))); have M3 := Lib.hid ((Blk.ext M2.out (ext_alloc w2 (.cells #[.int .i64 4, .int .i64 0, .int .u64 (x3 : Nat), .string ⟨#[]⟩] 41))).grown g3 (own_ne (mown_below own2.out (ext_alloc w2 (.cells #[.int .i64 4, .int .i64 0, .int .u64 (x3 : Nat), .string ⟨#[]⟩] 41))) (Nat.lt_succ_self _))); have z3 : w.heap.size + 1 ≤ w3.heap.size := Nat.succ_le_of_lt (Blk.lt M3.out); replace own3 := Lib.hid own3; clear g3 c0 c1 c2 c3 c4 c5 c6 c7; (obtain ⟨c0, c1, c2, c3, c4, c5, c6, c7⟩ := box8b M3.out))))
  refine (text38_any _ (w.heap.size + 1) (((([] : List Fd) ++ tx 2 x1) ++ [(⟨3, 0, x2, ⟨#[]⟩⟩ : Fd)]) ++ [(⟨4, 0, x3, ⟨#[]⟩⟩ : Fd)]) 5 x4 _ own3.out z3 (by simp only [List.length_append, List.length_nil, List.length_singleton, List.length_cons]; omega)).mono ?_
  rintro e w4 ⟨v4, rfl, own4, b4⟩
  have D4 := Lib.hid (D3.out.trans (b4.mono D3.out.size))
  have M4 := Lib.hid (Blk.ext M3.out b4)
  have z4 : w.heap.size + 1 ≤ w4.heap.size := Nat.succ_le_of_lt (Blk.lt M4.out)
  replace own4 := Lib.hid own4
  clear b4 c0 c1 c2 c3 c4 c5 c6 c7
  obtain ⟨c0, c1, c2, c3, c4, c5, c6, c7⟩ := box8b M4.out
  go_wp2_with fail
  refine (text38_any _ (w.heap.size + 1) ((((([] : List Fd) ++ tx 2 x1) ++ [(⟨3, 0, x2, ⟨#[]⟩⟩ : Fd)]) ++ [(⟨4, 0, x3, ⟨#[]⟩⟩ : Fd)]) ++ tx 5 x4) 6 x5 _ own4.out z4 (by simp only [List.length_append, List.length_nil, List.length_singleton, List.length_cons]; omega)).mono ?_
  rintro e w5 ⟨v5, rfl, own5, b5⟩
  have D5 := Lib.hid (D4.out.trans (b5.mono D4.out.size))
  have M5 := Lib.hid (Blk.ext M4.out b5)
  have z5 : w.heap.size + 1 ≤ w5.heap.size := Nat.succ_le_of_lt (Blk.lt M5.out)
  replace own5 := Lib.hid own5
  clear b5 c0 c1 c2 c3 c4 c5 c6 c7
  obtain ⟨c0, c1, c2, c3, c4, c5, c6, c7⟩ := box8b M5.out
  go_wp2_with fail
  refine (text38_any _ (w.heap.size + 1) (((((([] : List Fd) ++ tx 2 x1) ++ [(⟨3, 0, x2, ⟨#[]⟩⟩ : Fd)]) ++ [(⟨4, 0, x3, ⟨#[]⟩⟩ : Fd)]) ++ tx 5 x4) ++ tx 6 x5) 7 x6 _ own5.out z5 (by simp only [List.length_append, List.length_nil, List.length_singleton, List.length_cons]; omega)).mono ?_
  rintro e w6 ⟨v6, rfl, own6, b6⟩
  have D6 := Lib.hid (D5.out.trans (b6.mono D5.out.size))
  have M6 := Lib.hid (Blk.ext M5.out b6)
  have z6 : w.heap.size + 1 ≤ w6.heap.size := Nat.succ_le_of_lt (Blk.lt M6.out)
  replace own6 := Lib.hid own6
  clear b6 c0 c1 c2 c3 c4 c5 c6 c7
  obtain ⟨c0, c1, c2, c3, c4, c5, c6, c7⟩ := box8b M6.out
  go_wp2_with fail
  refine (text38_any _ (w.heap.size + 1) ((((((([] : List Fd) ++ tx 2 x1) ++ [(⟨3, 0, x2, ⟨#[]⟩⟩ : Fd)]) ++ [(⟨4, 0, x3, ⟨#[]⟩⟩ : Fd)]) ++ tx 5 x4) ++ tx 6 x5) ++ tx 7 x6) 8 x7 _ own6.out z6 (by simp only [List.length_append, List.length_nil, List.length_singleton, List.length_cons]; omega)).mono ?_
  rintro e w7 ⟨v7, rfl, own7, b7⟩
  have D7 := Lib.hid (D6.out.trans (b7.mono D6.out.size))
  have M7 := Lib.hid (Blk.ext M6.out b7)
  have z7 : w.heap.size + 1 ≤ w7.heap.size := Nat.succ_le_of_lt (Blk.lt M7.out)
  replace own7 := Lib.hid own7
  clear b7 c0 c1 c2 c3 c4 c5 c6 c7
  obtain ⟨c0, c1, c2, c3, c4, c5, c6, c7⟩ := box8b M7.out
  go_wp2_with fail
  go_ret
  have hF := FdsAt.of_own own7.out (by simp only [List.length_append, List.length_nil, List.length_singleton, List.length_cons]; omega)
  simp only [List.nil_append, List.append_nil] at hF ⊢
  exact ⟨_, rfl, hF, D7.out⟩
set_option maxHeartbeats 4000000 in
set_option maxRecDepth 100000 in
theorem fields_100 (m : Me) (w : World) (hm : m.ok) (h0 : m.multi = true) (h2 : m.size = 0) (h3 : m.seq = 0) : Calls Try.prog 17 #[m.val] w (FldP m w) := by
  unfold FldP
  rw [fieldsK_8, fieldP_0, fieldP_n2, fieldP_n3, if_pos h0, if_pos h2, if_pos h3]
  obtain ⟨j0, hj, hy0, hy1, hy2⟩ := info_parts Try.info41
  replace hj := Lib.hid hj
  replace hy0 := Lib.hid hy0
  replace hy1 := Lib.hid hy1
  replace hy2 := Lib.hid hy2
  obtain ⟨x0, x1, x2, x3, x4, x5, x6, x7⟩ := m
  obtain ⟨-, hsz, hsq, -⟩ := hm
  simp only at h0 h2 h3 hsz hsq ⊢
  subst h0
  subst h2
  subst h3
  simp only [Me.val, Me.cells, Int.natCast_zero]
  have t2 := tx_le 2 x1
  have t5 := tx_le 5 x4
  have t6 := tx_le 6 x5
  have t7 := tx_le 7 x6
  have t8 := tx_le 8 x7
  have D0 := Lib.hid (ext_alloc w (.cells #[.bool true, .string x1, .int .u64 0, .int .u64 0, .string x4, .string x5, .string x6, .string x7] 24))
  have M0 := Lib.hid (Blk.new w 24 #[.bool true, .string x1, .int .u64 0, .int .u64 0, .string x4, .string x5, .string x6, .string x7])
  obtain ⟨c0, c1, c2, c3, c4, c5, c6, c7⟩ := box8b M0.out
  have own0 : (w.alloc (.cells #[.bool true, .string x1, .int .u64 0, .int .u64 0, .string x4, .string x5, .string x6, .string x7] 24)).ownsRow (w.heap.size + 1) 41 4 (.slice none 0 0) ([] : List Fd).length (fcs []) := World.ownsRow_nil _ _ _ _
  have z0 : w.heap.size + 1 ≤ (w.alloc (.cells #[.bool true, .string x1, .int .u64 0, .int .u64 0, .string x4, .string x5, .string x6, .string x7] 24)).heap.size := by simp
  replace own0 := Lib.hid own0
  have hl1 := fun w => fds_lit w ⟨1, 0, 1, ⟨#[]⟩⟩
  have hc1 : (Fd.mk 1 0 1 ⟨#[]⟩).cells.toArray = #[.int .i64 1, .int .i64 0, .int .u64 1, .string ⟨#[]⟩] := rfl
  rw [hc1] at hl1
  replace hl1 := Lib.hid hl1
  replace hc1 := Lib.hid hc1
  have hL0 := hl1.out (w.alloc (.cells #[.bool true, .string x1, .int .u64 0, .int .u64 0, .string x4, .string x5, .string x6, .string x7] 24))
  rw [show (w.alloc (.cells #[.bool true, .string x1, .int .u64 0, .int .u64 0, .string x4, .string x5, .string x6, .string x7] 24)).heap.size = w.heap.size + 1 by simp] at hL0
  replace hL0 := Lib.hid hL0
  go_enter Try.func17, Try.ntmps17
  go_wp2_with (first
    | (at_builtin; go_must ((refine wpList_append_fds _ rfl (.tmp 6) (.tmp 8) 39 rfl (w.heap.size + 1) 41 j0 _ Try.underlying39 hj.out hy0.out rfl hy1.out hy2.out _ ([] : List Fd) [(⟨1, 0, 1, ⟨#[]⟩⟩ : Fd)] rfl (mown_below own0.out (ext_alloc _ _)) hL0.out (by simp only [List.length_append, List.length_nil, List.length_singleton, List.length_cons]; omega) (Nat.le_trans z0 (ext_alloc (w.alloc (.cells #[.bool true, .string x1, .int .u64 0, .int .u64 0, .string x4, .string x5, .string x6, .string x7] 24)) (.cells #[.int .i64 1, .int .i64 0, .int .u64 1, .string ⟨#[]⟩] 41)).size) ?_); intro v1 w1 own1 g1; have D1 := Lib.hid ((D0.out.trans ((ext_alloc (w.alloc (.cells #[.bool true, .string x1, .int .u64 0, .int .u64 0, .string x4, .string x5, .string x6, .string x7] 24)) (.cells #[.int .i64 1, .int .i64 0, .int .u64 1, .string ⟨#[]⟩] 41)).mono D0.out.size)).trans ((fgrown_ext (mown_below own0.out (ext_alloc (w.alloc (.cells #[.bool true, .string x1, .int .u64 0, .int .u64 0, .string x4, .string x5, .string x6, .string x7] 24)) (.cells #[.int .i64 1, .int .i64 0, .int .u64 1, .string ⟨#[]⟩] 41))) g1 (Nat.le_trans z0 (ext_alloc (w.alloc (.cells #[.bool true, .string x1, .int .u64 0, .int .u64 0, .string x4, .string x5, .string x6, .string x7] 24)) (.cells #[.int .i64 1, .int .i64 0, .int .u64 1, .string ⟨#[]⟩] 41)).size)).mono (Nat.le_succ _))); have M1 := Lib.hid ((Blk.ext M0.out (ext_alloc (w.alloc (.cells #[.bool true, .string x1, .int .u64 0, .int .u64 0, .string x4, .string x5, .string x6, .string x7] 24)) (.cells #[.int .i64 1, .int .i64 0, .int .u64 1, .string ⟨#[]⟩] 41))).grown g1 (own_ne (mown_below own0.out (ext_alloc (w.alloc (.cells #[.bool true, .string x1, .int .u64 0, .int .u64 0, .string x4, .string x5, .string x6, .string x7] 24)) (.cells #[.int .i64 1, .int .i64 0, .int .u64 1, .string ⟨#[]⟩] 41))) (Nat.lt_succ_self _))); have z1 : w.heap.size + 1 ≤ w1.heap.size := Nat.succ_le_of_lt (Blk.lt M1.out); replace own1 := Lib.hid own1; clear g1 c0 c1 c2 c3 c4 c5 c6 c7; (obtain ⟨c0, c1, c2, c3, c4, c5, c6, c7⟩ := box8b M1.out))))
  refine (text38_any _ (w.heap.size + 1) (([] : List Fd) ++ [(⟨1, 0, 1, ⟨#[]⟩⟩ : Fd)]) 2 x1 _ own1.out z1 (by simp only [List.length_append, List.length_nil, List.length_singleton, List.length_cons]; omega)).mono ?_
  rintro e w2 ⟨v2, rfl, own2, b2⟩
  have D2 := Lib.hid (D1.out.trans (b2.mono D1.out.size))
  have M2 := Lib.hid (Blk.ext M1.out b2)
  have z2 : w.heap.size + 1 ≤ w2.heap.size := Nat.succ_le_of_lt (Blk.lt M2.out)
  replace own2 := Lib.hid own2
  clear b2 c0 c1 c2 c3 c4 c5 c6 c7
  obtain ⟨c0, c1, c2, c3, c4, c5, c6, c7⟩ := box8b M2.out
  go_wp2_with fail
  refine (text38_any _ (w.heap.size + 1) ((([] : List Fd) ++ [(⟨1, 0, 1, ⟨#[]⟩⟩ : Fd)]) ++ tx 2 x1) 5 x4 _ own2.out z2 (by simp only [List.length_append, List.length_nil, List.length_singleton, List.length_cons]; omega)).mono ?_
  rintro e w3 ⟨v3, rfl, own3, b3⟩
  have D3 := Lib.hid (D2.out.trans (b3.mono D2.out.size))
  have M3 := Lib.hid (Blk.ext M2.out b3)
  have z3 : w.heap.size + 1 ≤ w3.heap.size := Nat.succ_le_of_lt (Blk.lt M3.out)
  replace own3 := Lib.hid own3
  clear b3 c0 c1 c2 c3 c4 c5 c6 c7
  obtain ⟨c0, c1, c2, c3, c4, c5, c6, c7⟩ := box8b M3.out
  go_wp2_with fail
  refine (text38_any _ (w.heap.size + 1) (((([] : List Fd) ++ [(⟨1, 0, 1, ⟨#[]⟩⟩ : Fd)]) ++ tx 2 x1) ++ tx 5 x4) 6 x5 _ own3.out z3 (by simp only [List.length_append, List.length_nil, List.length_singleton, List.length_cons]; omega)).mono ?_
  rintro e w4 ⟨v4, rfl, own4, b4⟩
  have D4 := Lib.hid (D3.out.trans (b4.mono D3.out.size))
  have M4 := Lib.hid (Blk.ext M3.out b4)
  have z4 : w.heap.size + 1 ≤ w4.heap.size := Nat.succ_le_of_lt (Blk.lt M4.out)
  replace own4 := Lib.hid own4
  clear b4 c0 c1 c2 c3 c4 c5 c6 c7
  obtain ⟨c0, c1, c2, c3, c4, c5, c6, c7⟩ := box8b M4.out
  go_wp2_with fail
  refine (text38_any _ (w.heap.size + 1) ((((([] : List Fd) ++ [(⟨1, 0, 1, ⟨#[]⟩⟩ : Fd)]) ++ tx 2 x1) ++ tx 5 x4) ++ tx 6 x5) 7 x6 _ own4.out z4 (by simp only [List.length_append, List.length_nil, List.length_singleton, List.length_cons]; omega)).mono ?_
  rintro e w5 ⟨v5, rfl, own5, b5⟩
  have D5 := Lib.hid (D4.out.trans (b5.mono D4.out.size))
  have M5 := Lib.hid (Blk.ext M4.out b5)
  have z5 : w.heap.size + 1 ≤ w5.heap.size := Nat.succ_le_of_lt (Blk.lt M5.out)
  replace own5 := Lib.hid own5
  clear b5 c0 c1 c2 c3 c4 c5 c6 c7
  obtain ⟨c0, c1, c2, c3, c4, c5, c6, c7⟩ := box8b M5.out
  go_wp2_with fail
  refine (text38_any _ (w.heap.size + 1) (((((([] : List Fd) ++ [(⟨1, 0, 1, ⟨#[]⟩⟩ : Fd)]) ++ tx 2 x1) ++ tx 5 x4) ++ tx 6 x5) ++ tx 7 x6) 8 x7 _ own5.out z5 (by simp only [List.length_append, List.length_nil, List.length_singleton, List.length_cons]; omega)).mono ?_
  rintro e w6 ⟨v6, rfl, own6, b6⟩
  have D6 := Lib.hid (D5.out.trans (b6.mono D5.out.size))
  have M6 := Lib.hid (Blk.ext M5.out b6)
  have z6 : w.heap.size + 1 ≤ w6.heap.size := Nat.succ_le_of_lt (Blk.lt M6.out)
  replace own6 := Lib.hid own6
  clear b6 c0 c1 c2 c3 c4 c5 c6 c7
  obtain ⟨c0, c1, c2, c3, c4, c5, c6, c7⟩ := box8b M6.out
  go_wp2_with fail
  go_ret
  have hF := FdsAt.of_own own6.out (by simp only [List.length_append, List.length_nil, List.length_singleton, List.length_cons]; omega)
  simp only [List.nil_append, List.append_nil] at hF ⊢
  exact ⟨_, rfl, hF, D6.out⟩
set_option maxHeartbeats 4000000 in
set_option maxRecDepth 100000 in
theorem fields_101 (m : Me) (w : World) (hm : m.ok) (h0 : m.multi = true) (h2 : m.size = 0) (h3 : m.seq ≠ 0) : Calls Try.prog 17 #[m.val] w (FldP m w) := by
  unfold FldP
  rw [fieldsK_8, fieldP_0, fieldP_n2, fieldP_n3, if_pos h0, if_pos h2, if_neg h3]
  obtain ⟨j0, hj, hy0, hy1, hy2⟩ := info_parts Try.info41
  replace hj := Lib.hid hj
  replace hy0 := Lib.hid hy0
  replace hy1 := Lib.hid hy1
  replace hy2 := Lib.hid hy2
  obtain ⟨x0, x1, x2, x3, x4, x5, x6, x7⟩ := m
  obtain ⟨-, hsz, hsq, -⟩ := hm
  simp only at h0 h2 h3 hsz hsq ⊢
  subst h0
  subst h2
  have d3 : ((x3 : Int) != 0) = true := by simpa using h3
  replace h3 := Lib.hid h3
  simp only [Me.val, Me.cells, Int.natCast_zero]
  have t2 := tx_le 2 x1
  have t5 := tx_le 5 x4
  have t6 := tx_le 6 x5
  have t7 := tx_le 7 x6
  have t8 := tx_le 8 x7
  have D0 := Lib.hid (ext_alloc w (.cells #[.bool true, .string x1, .int .u64 0, .int .u64 (x3 : Nat), .string x4, .string x5, .string x6, .string x7] 24))
  have M0 := Lib.hid (Blk.new w 24 #[.bool true, .string x1, .int .u64 0, .int .u64 (x3 : Nat), .string x4, .string x5, .string x6, .string x7])
  obtain ⟨c0, c1, c2, c3, c4, c5, c6, c7⟩ := box8b M0.out
  have own0 : (w.alloc (.cells #[.bool true, .string x1, .int .u64 0, .int .u64 (x3 : Nat), .string x4, .string x5, .string x6, .string x7] 24)).ownsRow (w.heap.size + 1) 41 4 (.slice none 0 0) ([] : List Fd).length (fcs []) := World.ownsRow_nil _ _ _ _
  have z0 : w.heap.size + 1 ≤ (w.alloc (.cells #[.bool true, .string x1, .int .u64 0, .int .u64 (x3 : Nat), .string x4, .string x5, .string x6, .string x7] 24)).heap.size := by simp
  replace own0 := Lib.hid own0
  have hl1 := fun w => fds_lit w ⟨1, 0, 1, ⟨#[]⟩⟩
  have hc1 : (Fd.mk 1 0 1 ⟨#[]⟩).cells.toArray = #[.int .i64 1, .int .i64 0, .int .u64 1, .string ⟨#[]⟩] := rfl
  rw [hc1] at hl1
  replace hl1 := Lib.hid hl1
  replace hc1 := Lib.hid hc1
  have hl4 := fun w => fds_lit w ⟨4, 0, x3, ⟨#[]⟩⟩
  have hc4 : (Fd.mk 4 0 x3 ⟨#[]⟩).cells.toArray = #[.int .i64 4, .int .i64 0, .int .u64 (x3 : Nat), .string ⟨#[]⟩] := rfl
  rw [hc4] at hl4
  replace hl4 := Lib.hid hl4
  replace hc4 := Lib.hid hc4
  have hL0 := hl1.out (w.alloc (.cells #[.bool true, .string x1, .int .u64 0, .int .u64 (x3 : Nat), .string x4, .string x5, .string x6, .string x7] 24))
  rw [show (w.alloc (.cells #[.bool true, .string x1, .int .u64 0, .int .u64 (x3 : Nat), .string x4, .string x5, .string x6, .string x7] 24)).heap.size = w.heap.size + 1 by simp] at hL0
  replace hL0 := Lib.hid hL0
  go_enter Try.func17, Try.ntmps17
  go_wp2_with (first
    | (at_builtin; go_must ((refine wpList_append_fds _ rfl (.tmp 6) (.tmp 8) 39 rfl (w.heap.size + 1) 41 j0 _ Try.underlying39 hj.out hy0.out rfl hy1.out hy2.out _ ([] : List Fd) [(⟨1, 0, 1, ⟨#[]⟩⟩ : Fd)] rfl (mown_below own0.out (ext_alloc _ _)) hL0.out (by simp only [List.length_append, List.length_nil, List.length_singleton, List.length_cons]; omega) (Nat.le_trans z0 (ext_alloc (w.alloc (.cells #[.bool true, .string x1, .int .u64 0, .int .u64 (x3 : Nat), .string x4, .string x5, .string x6, .string x7] 24)) (.cells #[.int .i64 1, .int .i64 0, .int .u64 1, .string ⟨#[]⟩] 41)).size) ?_); intro v1 w1 own1 g1; have D1 := Lib.hid ((D0.out.trans ((ext_alloc (w.alloc (.cells #[.bool true, .string x1, .int .u64 0, .int .u64 (x3 : Nat), .string x4, .string x5, .string x6, .string x7] 24)) (.cells #[.int .i64 1, .int .i64 0, .int .u64 1, .string ⟨#[]⟩] 41)).mono D0.out.size)).trans ((fgrown_ext (mown_below own0.out (ext_alloc (w.alloc (.cells #[.bool true, .string x1, .int .u64 0, .int .u64 (x3 : Nat), .string x4, .string x5, .string x6, .string x7] 24)) (.cells #[.int .i64 1, .int .i64 0, .int .u64 1, .string ⟨#[]⟩] 41))) g1 (Nat.le_trans z0 (ext_alloc (w.alloc (.cells #[.bool true, .string x1, .int .u64 0, .int .u64 (x3 : Nat), .string x4, .string x5, .string x6, .string x7] 24)) (.cells #[.int .i64 1, .int .i64 0, .int .u64 1, .string ⟨#[]⟩] 41)).size)).mono (Nat.le_succ _))); have M1 := Lib.hid ((Blk.ext M0.out (ext_alloc (w.alloc (.cells #[.bool true, .string x1, .int .u64 0, .int .u64 (x3 : Nat), .string x4, .string x5, .string x6, .string x7] 24)) (.cells #[.int .i64 1, .int .i64 0, .int .u64 1, .string ⟨#[]⟩] 41))).grown g1 (own_ne (mown_below own0.out (ext_alloc (w.alloc (.cells #[.bool true, .string x1, .int .u64 0, .int .u64 (x3 : Nat), .string x4, .string x5, .string x6, .string x7] 24)) (.cells #[.int .i64 1, .int .i64 0, .int .u64 1, .string ⟨#[]⟩] 41))) (Nat.lt_succ_self _))); have z1 : w.heap.size + 1 ≤ w1.heap.size := Nat.succ_le_of_lt (Blk.lt M1.out); replace own1 := Lib.hid own1; clear g1 c0 c1 c2 c3 c4 c5 c6 c7; (obtain ⟨c0, c1, c2, c3, c4, c5, c6, c7⟩ := box8b M1.out))))
  refine (text38_any _ (w.heap.size + 1) (([] : List Fd) ++ [(⟨1, 0, 1, ⟨#[]⟩⟩ : Fd)]) 2 x1 _ own1.out z1 (by simp only [List.length_append, List.length_nil, List.length_singleton, List.length_cons]; omega)).mono ?_
  rintro e w2 ⟨v2, rfl, own2, b2⟩
  have D2 := Lib.hid (D1.out.trans (b2.mono D1.out.size))
  have M2 := Lib.hid (Blk.ext M1.out b2)
  have z2 : w.heap.size + 1 ≤ w2.heap.size := Nat.succ_le_of_lt (Blk.lt M2.out)
  replace own2 := Lib.hid own2
  clear b2 c0 c1 c2 c3 c4 c5 c6 c7
  obtain ⟨c0, c1, c2, c3, c4, c5, c6, c7⟩ := box8b M2.out
  go_wp2_with (first
    | (at_builtin; go_must ((refine wpList_append_fds _ rfl (.tmp 26) (.tmp 30) 39 rfl (w.heap.size + 1) 41 j0 _ Try.underlying39 hj.out hy0.out rfl hy1.out hy2.out _ ((([] : List Fd) ++ [(⟨1, 0, 1, ⟨#[]⟩⟩ : Fd)]) ++ tx 2 x1) [(⟨4, 0, x3, ⟨#[]⟩⟩ : Fd)] rfl (mown_below own2.out (ext_alloc _ _)) (hl4.out _) (by simp only [List.length_append, List.length_nil, List.length_singleton, List.length_cons]; omega) (Nat.le_trans z2 (ext_alloc w2 (.cells #[.int .i64 4, .int .i64 0, .int .u64 (x3 : Nat), .string ⟨#[]⟩] 41)).size) ?_); intro v3 w3 own3 g3; have D3 := Lib.hid ((D2.out.trans ((ext_alloc w2 (.cells #[.int .i64 4, .int .i64 0, .int .u64 (x3 : Nat), .string ⟨#[]⟩] 41)).mono D2.out.size)).trans ((fgrown_ext (mown_below own2.out (ext_alloc w2 (.cells #[.int .i64 4, .int .i64 0, .int .u64 (x3 : Nat), .string ⟨#[]⟩] 41))) g3 (Nat.le_trans z2 (ext_alloc w2 (.cells #[.int .i64 4, .int .i64 0, .int .u64 (x3 : Nat), .string ⟨#[]⟩] 41)).size)).mono (Nat.le_succ _))); have M3 := Lib.hid ((Blk.ext M2.out (ext_alloc w2 (.cells #[.int .i64 4, .int .i64 0, .int .u64 (x3 : Nat), .string ⟨#[]⟩] 41))).grown g3 (own_ne (mown_below own2.out (ext_alloc w2 (.cells #[.int .i64 4, .int .i64 0, .int .u64 (x3 : Nat), .string ⟨#[]⟩] 41))) (Nat.lt_succ_self _))); have z3 : w.heap.size + 1 ≤ w3.heap.size := Nat.succ_le_of_lt (Blk.lt M3.out); replace own3 := Lib.hid own3; clear g3 c0 c1 c2 c3 c4 c5 c6 c7; (obtain ⟨c0, c1, c2, c3, c4, c5, c6, c7⟩ := box8b M3.out))))
  refine (text38_any _ (w.heap.size + 1) (((([] : List Fd) ++ [(⟨1, 0, 1, ⟨#[]⟩⟩ : Fd)]) ++ tx 2 x1) ++ [(⟨4, 0, x3, ⟨#[]⟩⟩ : Fd)]) 5 x4 _ own3.out z3 (by simp only [List.length_append, List.length_nil, List.length_singleton, List.length_cons]; omega)).mono ?_
  rintro e w4 ⟨v4, rfl, own4, b4⟩
  have D4 := Lib.hid (D3.out.trans (b4.mono D3.out.size))
  have M4 := Lib.hid (Blk.ext M3.out b4)
  have z4 : w.heap.size + 1 ≤ w4.heap.size := Nat.succ_le_of_lt (Blk.lt M4.out)
  replace own4 := Lib.hid own4
  clear b4 c0 c1 c2 c3 c4 c5 c6 c7
  obtain ⟨c0, c1, c2, c3, c4, c5, c6, c7⟩ := box8b M4.out
  go_wp2_with fail
  refine (text38_any _ (w.heap.size + 1) ((((([] : List Fd) ++ [(⟨1, 0, 1, ⟨#[]⟩⟩ : Fd)]) ++ tx 2 x1) ++ [(⟨4, 0, x3, ⟨#[]⟩⟩ : Fd)]) ++ tx 5 x4) 6 x5 _ own4.out z4 (by simp only [List.length_append, List.length_nil, List.length_singleton, List.length_cons]; omega)).mono ?_
  rintro e w5 ⟨v5, rfl, own5, b5⟩
  have D5 := Lib.hid (D4.out.trans (b5.mono D4.out.size))
  have M5 := Lib.hid (Blk.ext M4.out b5)
  have z5 : w.heap.size + 1 ≤ w5.heap.size := Nat.succ_le_of_lt (Blk.lt M5.out)
  replace own5 := Lib.hid own5
  clear b5 c0 c1 c2 c3 c4 c5 c6 c7
  obtain ⟨c0, c1, c2, c3, c4, c5, c6, c7⟩ := box8b M5.out
  go_wp2_with fail
  refine (text38_any _ (w.heap.size + 1) (((((([] : List Fd) ++ [(⟨1, 0, 1, ⟨#[]⟩⟩ : Fd)]) ++ tx 2 x1) ++ [(⟨4, 0, x3, ⟨#[]⟩⟩ : Fd)]) ++ tx 5 x4) ++ tx 6 x5) 7 x6 _ own5.out z5 (by simp only [List.length_append, List.length_nil, List.length_singleton, List.length_cons]; omega)).mono ?_
  rintro e w6 ⟨v6, rfl, own6, b6⟩
  have D6 := Lib.hid (D5.out.trans (b6.mono D5.out.size))
  have M6 := Lib.hid (Blk.ext M5.out b6)
  have z6 : w.heap.size + 1 ≤ w6.heap.size := Nat.succ_le_of_lt (Blk.lt M6.out)
  replace own6 := Lib.hid own6
  clear b6 c0 c1 c2 c3 c4 c5 c6 c7
  obtain ⟨c0, c1, c2, c3, c4, c5, c6, c7⟩ := box8b M6.out
  go_wp2_with fail
  refine (text38_any _ (w.heap.size + 1) ((((((([] : List Fd) ++ [(⟨1, 0, 1, ⟨#[]⟩⟩ : Fd)]) ++ tx 2 x1) ++ [(⟨4, 0, x3, ⟨#[]⟩⟩ : Fd)]) ++ tx 5 x4) ++ tx 6 x5) ++ tx 7 x6) 8 x7 _ own6.out z6 (by simp only [List.length_append, List.length_nil, List.length_singleton, List.length_cons]; omega)).mono ?_
  rintro e w7 ⟨v7, rfl, own7, b7⟩
  have D7 := Lib.hid (D6.out.trans (b7.mono D6.out.size))
  have M7 := Lib.hid (Blk.ext M6.out b7)
  have z7 : w.heap.size + 1 ≤ w7.heap.size := Nat.succ_le_of_lt (Blk.lt M7.out)
  replace own7 := Lib.hid own7
  clear b7 c0 c1 c2 c3 c4 c5 c6 c7
  obtain ⟨c0, c1, c2, c3, c4, c5, c6, c7⟩ := box8b M7.out
  go_wp2_with fail
  go_ret
  have hF := FdsAt.of_own own7.out (by simp only [List.length_append, List.length_nil, List.length_singleton, List.length_cons]; omega)
  simp only [List.nil_append, List.append_nil] at hF ⊢
  exact ⟨_, rfl, hF, D7.out⟩
set_option maxHeartbeats 4000000 in
set_option maxRecDepth 100000 in
theorem fields_110 (m : Me) (w : World) (hm : m.ok) (h0 : m.multi = true) (h2 : m.size ≠ 0) (h3 : m.seq = 0) : Calls Try.prog 17 #[m.val] w (FldP m w) := by
  unfold FldP
  rw [fieldsK_8, fieldP_0, fieldP_n2, fieldP_n3, if_pos h0, if_neg h2, if_pos h3]
  obtain ⟨j0, hj, hy0, hy1, hy2⟩ := info_parts Try.info41
  replace hj := Lib.hid hj
  replace hy0 := Lib.hid hy0
  replace hy1 := Lib.hid hy1
  replace hy2 := Lib.hid hy2
  obtain ⟨x0, x1, x2, x3, x4, x5, x6, x7⟩ := m
  obtain ⟨-, hsz, hsq, -⟩ := hm
  simp only at h0 h2 h3 hsz hsq ⊢
  subst h0
  have d2 : ((x2 : Int) != 0) = true := by simpa using h2
  replace h2 := Lib.hid h2
  subst h3
  simp only [Me.val, Me.cells, Int.natCast_zero]
  have t2 := tx_le 2 x1
  have t5 := tx_le 5 x4
  have t6 := tx_le 6 x5
  have t7 := tx_le 7 x6
  have t8 := tx_le 8 x7
  have D0 := Lib.hid (ext_alloc w (.cells #[.bool true, .string x1, .int .u64 (x2 : Nat), .int .u64 0, .string x4, .string x5, .string x6, .string x7] 24))
  have M0 := Lib.hid (Blk.new w 24 #[.bool true, .string x1, .int .u64 (x2 : Nat), .int .u64 0, .string x4, .string x5, .string x6, .string x7])
  obtain ⟨c0, c1, c2, c3, c4, c5, c6, c7⟩ := box8b M0.out
  have own0 : (w.alloc (.cells #[.bool true, .string x1, .int .u64 (x2 : Nat), .int .u64 0, .string x4, .string x5, .string x6, .string x7] 24)).ownsRow (w.heap.size + 1) 41 4 (.slice none 0 0) ([] : List Fd).length (fcs []) := World.ownsRow_nil _ _ _ _
  have z0 : w.heap.size + 1 ≤ (w.alloc (.cells #[.bool true, .string x1, .int .u64 (x2 : Nat), .int .u64 0, .string x4, .string x5, .string x6, .string x7] 24)).heap.size := by simp
  replace own0 := Lib.hid own0
  have hl1 := fun w => fds_lit w ⟨1, 0, 1, ⟨#[]⟩⟩
  have hc1 : (Fd.mk 1 0 1 ⟨#[]⟩).cells.toArray = #[.int .i64 1, .int .i64 0, .int .u64 1, .string ⟨#[]⟩] := rfl
  rw [hc1] at hl1
  replace hl1 := Lib.hid hl1
  replace hc1 := Lib.hid hc1
  have hl3 := fun w => fds_lit w ⟨3, 0, x2, ⟨#[]⟩⟩
  have hc3 : (Fd.mk 3 0 x2 ⟨#[]⟩).cells.toArray = #[.int .i64 3, .int .i64 0, .int .u64 (x2 : Nat), .string ⟨#[]⟩] := rfl
  rw [hc3] at hl3
  replace hl3 := Lib.hid hl3
  replace hc3 := Lib.hid hc3
  have hL0 := hl1.out (w.alloc (.cells #[.bool true, .string x1, .int .u64 (x2 : Nat), .int .u64 0, .string x4, .string x5, .string x6, .string x7] 24))
  rw [show (w.alloc (.cells #[.bool true, .string x1, .int .u64 (x2 : Nat), .int .u64 0, .string x4, .string x5, .string x6, .string x7] 24)).heap.size = w.heap.size + 1 by simp] at hL0
  replace hL0 := Lib.hid hL0
  go_enter Try.func17, Try.ntmps17
  go_wp2_with (first
    | (at_builtin; go_must ((refine wpList_append_fds _ rfl (.tmp 6) (.tmp 8) 39 rfl (w.heap.size + 1) 41 j0 _ Try.underlying39 hj.out hy0.out rfl hy1.out hy2.out _ ([] : List Fd) [(⟨1, 0, 1, ⟨#[]⟩⟩ : Fd)] rfl (mown_below own0.out (ext_alloc _ _)) hL0.out (by simp only [List.length_append, List.length_nil, List.length_singleton, List.length_cons]; omega) (Nat.le_trans z0 (ext_alloc (w.alloc (.cells #[.bool true, .string x1, .int .u64 (x2 : Nat), .int .u64 0, .string x4, .string x5, .string x6, .string x7] 24)) (.cells #[.int .i64 1, .int .i64 0, .int .u64 1, .string ⟨#[]⟩] 41)).size) ?_); intro v1 w1 own1 g1; have D1 := Lib.hid ((D0.out.trans ((ext_alloc (w.alloc (.cells #[.bool true, .string x1, .int .u64 (x2 : Nat), .int .u64 0, .string x4, .string x5, .string x6, .string x7] 24)) (.cells #[.int .i64 1, .int .i64 0, .int .u64 1, .string ⟨#[]⟩] 41)).mono D0.out.size)).trans ((fgrown_ext (mown_below own0.out (ext_alloc (w.alloc (.cells #[.bool true, .string x1, .int .u64 (x2 : Nat), .int .u64 0, .string x4, .string x5, .string x6, .string x7] 24)) (.cells #[.int .i64 1, .int .i64 0, .int .u64 1, .string ⟨#[]⟩] 41))) g1 (Nat.le_trans z0 (ext_alloc (w.alloc (.cells #[.bool true, .string x1, .int .u64 (x2 : Nat), .int .u64 0, .string x4, .string x5, .string x6, .string x7] 24)) (.cells #[.int .i64 1, .int .i64 0, .int .u64 1, .string ⟨#[]⟩] 41)).size)).mono (Nat.le_succ _))); have M1 := Lib.hid ((Blk.ext M0.out (ext_alloc (w.alloc (.cells #[.bool true, .string x1, .int .u64 (x2 : Nat), .int .u64 0, .string x4, .string x5, .string x6, .string x7] 24)) (.cells #[.int .i64 1, .int .i64 0, .int .u64 1, .string ⟨#[]⟩] 41))).grown g1 (own_ne (mown_below own0.out (ext_alloc (w.alloc (.cells #[.bool true, .string x1, .int .u64 (x2 : Nat), .int .u64 0, .string x4, .string x5, .string x6, .string x7] 24)) (.cells #[.int .i64 1, .int .i64 0, .int .u64 1, .string ⟨#[]⟩] 41))) (Nat.lt_succ_self _))); have z1 : w.heap.size + 1 ≤ w1.heap.size := Nat.succ_le_of_lt (Blk.lt M1.out); replace own1 := Lib.hid own1; clear g1 c0 c1 c2 c3 c4 c5 c6 c7; (obtain ⟨c0, c1, c2, c3, c4, c5, c6, c7⟩ := box8b M1.out))))
  refine (text38_any _ (w.heap.size + 1) (([] : List Fd) ++ [(⟨1, 0, 1, ⟨#[]⟩⟩ : Fd)]) 2 x1 _ own1.out z1 (by simp only [List.length_append, List.length_nil, List.length_singleton, List.length_cons]; omega)).mono ?_
  rintro e w2 ⟨v2, rfl, own2, b2⟩
  have D2 := Lib.hid (D1.out.trans (b2.mono D1.out.size))
  have M2 := Lib.hid (Blk.ext M1.out b2)
  have z2 : w.heap.size + 1 ≤ w2.heap.size := Nat.succ_le_of_lt (Blk.lt M2.out)
  replace own2 := Lib.hid own2
  clear b2 c0 c1 c2 c3 c4 c5 c6 c7
  obtain ⟨c0, c1, c2, c3, c4, c5, c6, c7⟩ := box8b M2.out
  go_wp2_with (first
    | (at_builtin; go_must ((refine wpList_append_fds _ rfl (.tmp 17) (.tmp 21) 39 rfl (w.heap.size + 1) 41 j0 _ Try.underlying39 hj.out hy0.out rfl hy1.out hy2.out _ ((([] : List Fd) ++ [(⟨1, 0, 1, ⟨#[]⟩⟩ : Fd)]) ++ tx 2 x1) [(⟨3, 0, x2, ⟨#[]⟩⟩ : Fd)] rfl (mown_below own2.out (ext_alloc _ _)) (hl3.out _) (by simp only [List.length_append, List.length_nil, List.length_singleton, List.length_cons]; omega) (Nat.le_trans z2 (ext_alloc w2 (.cells #[.int .i64 3, .int .i64 0, .int .u64 (x2 : Nat), .string ⟨#[]⟩] 41)).size) ?_); intro v3 w3 own3 g3; have D3 := Lib.hid ((D2.out.trans ((ext_alloc w2 (.cells #[.int .i64 3, .int .i64 0, .int .u64 (x2 : Nat), .string ⟨#[]⟩] 41)).mono D2.out.size)).trans ((fgrown_ext (mown_below own2.out (ext_alloc w2 (.cells #[.int .i64 3, .int .i64 0, .int .u64 (x2 : Nat), .string ⟨#[]⟩] 41))) g3 (Nat.le_trans z2 (ext_alloc w2 (.cells #[.int .i64 3, .int .i64 0, .int .u64 (x2 : Nat), .string ⟨#[]⟩] 41)).size)).mono (Nat.le_succ _))); have M3 := Lib.hid ((Blk.ext M2.out (ext_alloc w2 (.cells #[.int .i64 3, .int .i64 0, .int .u64 (x2 : Nat), .string ⟨#[]⟩] 41))).grown g3 (own_ne (mown_below own2.out (ext_alloc w2 (.cells #[.int .i64 3, .int .i64 0, .int .u64 (x2 : Nat), .string ⟨#[]⟩] 41))) (Nat.lt_succ_self _))); have z3 : w.heap.size + 1 ≤ w3.heap.size := Nat.succ_le_of_lt (Blk.lt M3.out); replace own3 := Lib.hid own3; clear g3 c0 c1 c2 c3 c4 c5 c6 c7; (obtain ⟨c0, c1, c2, c3, c4, c5, c6, c7⟩ := box8b M3.out))))
  refine (text38_any _ (w.heap.size + 1) (((([] : List Fd) ++ [(⟨1, 0, 1, ⟨#[]⟩⟩ : Fd)]) ++ tx 2 x1) ++ [(⟨3, 0, x2, ⟨#[]⟩⟩ : Fd)]) 5 x4 _ own3.out z3 (by simp only [List.length_append, List.length_nil, List.length_singleton, List.length_cons]; omega)).mono ?_
  rintro e w4 ⟨v4, rfl, own4, b4⟩
  have D4 := Lib.hid (D3.out.trans (b4.mono D3.out.size))
  have M4 := Lib.hid (Blk.ext M3.out b4)
  have z4 : w.heap.size + 1 ≤ w4.heap.size := Nat.succ_le_of_lt (Blk.lt M4.out)
  replace own4 := Lib.hid own4
  clear b4 c0 c1 c2 c3 c4 c5 c6 c7
  obtain ⟨c0, c1, c2, c3, c4, c5, c6, c7⟩ := box8b M4.out
  go_wp2_with fail
  refine (text38_any _ (w.heap.size + 1) ((((([] : List Fd) ++ [(⟨1, 0, 1, ⟨#[]⟩⟩ : Fd)]) ++ tx 2 x1) ++ [(⟨3, 0, x2, ⟨#[]⟩⟩ : Fd)]) ++ tx 5 x4) 6 x5 _ own4.out z4 (by simp only [List.length_append, List.length_nil, List.length_singleton, List.length_cons]; omega)).mono ?_
  rintro e w5 ⟨v5, rfl, own5, b5⟩
  have D5 := Lib.hid (D4.out.trans (b5.mono D4.out.size))
  have M5 := Lib.hid (Blk.ext M4.out b5)
  have z5 : w.heap.size + 1 ≤ w5.heap.size := Nat.succ_le_of_lt (Blk.lt M5.out)
  replace own5 := Lib.hid own5
  clear b5 c0 c1 c2 c3 c4 c5 c6 c7
  obtain ⟨c0, c1, c2, c3, c4, c5, c6, c7⟩ := box8b M5.out
  go_wp2_with fail
  refine (text38_any _ (w.heap.size + 1) (((((([] : List Fd) ++ [(⟨1, 0, 1, ⟨#[]⟩⟩ : Fd)]) ++ tx 2 x1) ++ [(⟨3, 0, x2, ⟨#[]⟩⟩ : Fd)]) ++ tx 5 x4) ++ tx 6 x5) 7 x6 _ own5.out z5 (by simp only [List.length_append, List.length_nil, List.length_singleton, List.length_cons]; omega)).mono ?_
  rintro e w6 ⟨v6, rfl, own6, b6⟩
  have D6 := Lib.hid (D5.out.trans (b6.mono D5.out.size))
  have M6 := Lib.hid (Blk.ext M5.out b6)
  have z6 : w.heap.size + 1 ≤ w6.heap.size := Nat.succ_le_of_lt (Blk.lt M6.out)
  replace own6 := Lib.hid own6
  clear b6 c0 c1 c2 c3 c4 c5 c6 c7
  obtain ⟨c0, c1, c2, c3, c4, c5, c6, c7⟩ := box8b M6.out
  go_wp2_with fail
  refine (text38_any _ (w.heap.size + 1) ((((((([] : List Fd) ++ [(⟨1, 0, 1, ⟨#[]⟩⟩ : Fd)]) ++ tx 2 x1) ++ [(⟨3, 0, x2, ⟨#[]⟩⟩ : Fd)]) ++ tx 5 x4) ++ tx 6 x5) ++ tx 7 x6) 8 x7 _ own6.out z6 (by simp only [List.length_append, List.length_nil, List.length_singleton, List.length_cons]; omega)).mono ?_
  rintro e w7 ⟨v7, rfl, own7, b7⟩
  have D7 := Lib.hid (D6.out.trans (b7.mono D6.out.size))
  have M7 := Lib.hid (Blk.ext M6.out b7)
  have z7 : w.heap.size + 1 ≤ w7.heap.size := Nat.succ_le_of_lt (Blk.lt M7.out)
  replace own7 := Lib.hid own7
  clear b7 c0 c1 c2 c3 c4 c5 c6 c7
  obtain ⟨c0, c1, c2, c3, c4, c5, c6, c7⟩ := box8b M7.out
  go_wp2_with fail
  go_ret
  have hF := FdsAt.of_own own7.out (by simp only [List.length_append, List.length_nil, List.length_singleton, List.length_cons]; omega)
  simp only [List.nil_append, List.append_nil] at hF ⊢
  exact ⟨_, rfl, hF, D7.out⟩
set_option maxHeartbeats 4000000 in
set_option maxRecDepth 100000 in
theorem fields_111 (m : Me) (w : World) (hm : m.ok) (h0 : m.multi = true) (h2 : m.size ≠ 0) (h3 : m.seq ≠ 0) : Calls Try.prog 17 #[m.val] w (FldP m w) := by
  unfold FldP
  rw [fieldsK_8, fieldP_0, fieldP_n2, fieldP_n3, if_pos h0, if_neg h2, if_neg h3]
  obtain ⟨j0, hj, hy0, hy1, hy2⟩ := info_parts Try.info41
  replace hj := Lib.hid hj
  replace hy0 := Lib.hid hy0
  replace hy1 := Lib.hid hy1
  replace hy2 := Lib.hid hy2
  obtain ⟨x0, x1, x2, x3, x4, x5, x6, x7⟩ := m
  obtain ⟨-, hsz, hsq, -⟩ := hm
  simp only at h0 h2 h3 hsz hsq ⊢
  subst h0
  have d2 : ((x2 : Int) != 0) = true := by simpa using h2
  replace h2 := Lib.hid h2
  have d3 : ((x3 : Int) != 0) = true := by simpa using h3
  replace h3 := Lib.hid h3
  simp only [Me.val, Me.cells]
  have t2 := tx_le 2 x1
  have t5 := tx_le 5 x4
  have t6 := tx_le 6 x5
  have t7 := tx_le 7 x6
  have t8 := tx_le 8 x7
  have D0 := Lib.hid (ext_alloc w (.cells #[.bool true, .string x1, .int .u64 (x2 : Nat), .int .u64 (x3 : Nat), .string x4, .string x5, .string x6, .string x7] 24))
  have M0 := Lib.hid (Blk.new w 24 #[.bool true, .string x1, .int .u64 (x2 : Nat), .int .u64 (x3 : Nat), .string x4, .string x5, .string x6, .string x7])
  obtain ⟨c0, c1, c2, c3, c4, c5, c6, c7⟩ := box8b M0.out
  have own0 : (w.alloc (.cells #[.bool true, .string x1, .int .u64 (x2 : Nat), .int .u64 (x3 : Nat), .string x4, .string x5, .string x6, .string x7] 24)).ownsRow (w.heap.size + 1) 41 4 (.slice none 0 0) ([] : List Fd).length (fcs []) := World.ownsRow_nil _ _ _ _
  have z0 : w.heap.size + 1 ≤ (w.alloc (.cells #[.bool true, .string x1, .int .u64 (x2 : Nat), .int .u64 (x3 : Nat), .string x4, .string x5, .string x6, .string x7] 24)).heap.size := by simp
  replace own0 := Lib.hid own0
  have hl1 := fun w => fds_lit w ⟨1, 0, 1, ⟨#[]⟩⟩
  have hc1 : (Fd.mk 1 0 1 ⟨#[]⟩).cells.toArray = #[.int .i64 1, .int .i64 0, .int .u64 1, .string ⟨#[]⟩] := rfl
  rw [hc1] at hl1
  replace hl1 := Lib.hid hl1
  replace hc1 := Lib.hid hc1
  have hl3 := fun w => fds_lit w ⟨3, 0, x2, ⟨#[]⟩⟩
  have hc3 : (Fd.mk 3 0 x2 ⟨#[]⟩).cells.toArray = #[.int .i64 3, .int .i64 0, .int .u64 (x2 : Nat), .string ⟨#[]⟩] := rfl
  rw [hc3] at hl3
  replace hl3 := Lib.hid hl3
  replace hc3 := Lib.hid hc3
  have hl4 := fun w => fds_lit w ⟨4, 0, x3, ⟨#[]⟩⟩
  have hc4 : (Fd.mk 4 0 x3 ⟨#[]⟩).cells.toArray = #[.int .i64 4, .int .i64 0, .int .u64 (x3 : Nat), .string ⟨#[]⟩] := rfl
  rw [hc4] at hl4
  replace hl4 := Lib.hid hl4
  replace hc4 := Lib.hid hc4
  have hL0 := hl1.out (w.alloc (.cells #[.bool true, .string x1, .int .u64 (x2 : Nat), .int .u64 (x3 : Nat), .string x4, .string x5, .string x6, .string x7] 24))
  rw [show (w.alloc (.cells #[.bool true, .string x1, .int .u64 (x2 : Nat), .int .u64 (x3 : Nat), .string x4, .string x5, .string x6, .string x7] 24)).heap.size = w.heap.size + 1 by simp] at hL0
  replace hL0 := Lib.hid hL0
  go_enter Try.func17, Try.ntmps17
  go_wp2_with (first
    | (at_builtin; go_must ((refine wpList_append_fds _ rfl (.tmp 6) (.tmp 8) 39 rfl (w.heap.size + 1) 41 j0 _ Try.underlying39 hj.out hy0.out rfl hy1.out hy2.out _ ([] : List Fd) [(⟨1, 0, 1, ⟨#[]⟩⟩ : Fd)] rfl (mown_below own0.out (ext_alloc _ _)) hL0.out (by simp only [List.length_append, List.length_nil, List.length_singleton, List.length_cons]; omega) (Nat.le_trans z0 (ext_alloc (w.alloc (.cells #[.bool true, .string x1, .int .u64 (x2 : Nat), .int .u64 (x3 : Nat), .string x4, .string x5, .string x6, .string x7] 24)) (.cells #[.int .i64 1, .int .i64 0, .int .u64 1, .string ⟨#[]⟩] 41)).size) ?_); intro v1 w1 own1 g1; have D1 := Lib.hid ((D0.out.trans ((ext_alloc (w.alloc (.cells #[.bool true, .string x1, .int .u64 (x2 : Nat), .int .u64 (x3 : Nat), .string x4, .string x5, .string x6, .string x7] 24)) (.cells #[.int .i64 1, .int .i64 0, .int .u64 1, .string ⟨#[]⟩] 41)).mono D0.out.size)).trans ((fgrown_ext (mown_below own0.out (ext_alloc (w.alloc (.cells #[.bool true, .string x1, .int .u64 (x2 : Nat), .int .u64 (x3 : Nat), .string x4, .string x5, .string x6, .string x7] 24)) (.cells #[.int .i64 1, .int .i64 0, .int .u64 1, .string ⟨#[]⟩] 41))) g1 (Nat.le_trans z0 (ext_alloc (w.alloc (.cells #[.bool true, .string x1, .int .u64 (x2 : Nat), .int .u64 (x3 : Nat), .string x4, .string x5, .string x6, .string x7] 24)) (.cells #[.int .i64 1, .int .i64 0, .int .u64 1, .string ⟨#[]⟩] 41)).size)).mono (Nat.le_succ _))); have M1 := Lib.hid ((Blk.ext M0.out (ext_alloc (w.alloc (.cells #[.bool true, .string x1, .int .u64 (x2 : Nat), .int .u64 (x3 : Nat), .string x4, .string x5, .string x6, .string x7] 24)) (.cells #[.int .i64 1, .int .i64 0, .int .u64 1, .string ⟨#[]⟩] 41))).grown g1 (own_ne (mown_below own0.out (ext_alloc (w.alloc (.cells #[.bool true, .string x1, .int .u64 (x2 : Nat), .int .u64 (x3 : Nat), .string x4, .string x5, .string x6, .string x7] 24)) (.cells #[.int .i64 1, .int .i64 0, .int .u64 1, .string ⟨#[]⟩] 41))) (Nat.lt_succ_self _))); have z1 : w.heap.size + 1 ≤ w1.heap.size := Nat.succ_le_of_lt (Blk.lt M1.out); replace own1 := Lib.hid own1; clear g1 c0 c1 c2 c3 c4 c5 c6 c7; (obtain ⟨c0, c1, c2, c3, c4, c5, c6, c7⟩ := box8b M1.out))))
  refine (text38_any _ (w.heap.size + 1) (([] : List Fd) ++ [(⟨1, 0, 1, ⟨#[]⟩⟩ : Fd)]) 2 x1 _ own1.out z1 (by simp only [List.length_append, List.length_nil, List.length_singleton, List.length_cons]; omega)).mono ?_
  rintro e w2 ⟨v2, rfl, own2, b2⟩
  have D2 := Lib.hid (D1.out.trans (b2.mono D1.out.size))
  have M2 := Lib.hid (Blk.ext M1.out b2)
  have z2 : w.heap.size + 1 ≤ w2.heap.size := Nat.succ_le_of_lt (Blk.lt M2.out)
  replace own2 := Lib.hid own2
  clear b2 c0 c1 c2 c3 c4 c5 c6 c7
  obtain ⟨c0, c1, c2, c3, c4, c5, c6, c7⟩ := box8b M2.out
  go_wp2_with (first
    | (at_builtin; ((refine wpList_append_fds _ rfl (.tmp 17) (.tmp 21) 39 rfl (w.heap.size + 1) 41 j0 _ Try.underlying39 hj.out hy0.out rfl hy1.out hy2.out _ ((([] : List Fd) ++ [(⟨1, 0, 1, ⟨#[]⟩⟩ : Fd)]) ++ tx 2 x1) [(⟨3, 0, x2, ⟨#[]⟩⟩ : Fd)] rfl (mown_below own2.out (ext_alloc _ _)) (hl3.out _) (by simp only [List.length_append, List.length_nil, List.length_singleton, List.length_cons]; omega) (Nat.le_trans z2 (ext_alloc w2 (.cells #[.int .i64 3, .int .i64 0, .int .u64 (x2 : Nat), .string ⟨#[]⟩] 41)).size) ?_); intro v3 w3 own3 g3; have D3 := Lib.hid ((D2.out.trans ((ext_alloc w2 (.cells #[.int .i64 3, .int .i64 0, .int .u64 (x2 : Nat), .string ⟨#[]⟩] 41)).mono D2.out.size)).trans ((fgrown_ext (mown_below own2.out (ext_alloc w2 (.cells #[.int .i64 3, .int .i64 0, .int .u64 (x2 : Nat), .string ⟨#[]⟩] 41))) g3 (Nat.le_trans z2 (ext_alloc w2 (.cells #[.int .i64 3, .int .i64 0, .int .u64 (x2 : Nat), .string ⟨#[]⟩] 41)).size)).mono (Nat.le_succ _))); have M3 := Lib.hid ((Blk.ext M2.out (ext_alloc w2 (.cells #[.int .i64 3, .int .i64 0, .int .u64 (x2 : Nat), .string ⟨#[]⟩] 41))).grown g3 (own_ne (mown_below own2.out (ext_alloc w2 (.cells #[.int .i64 3, .int .i64 0, .int .u64 (x2 : Nat), .string ⟨#[]⟩] 41))) (Nat.lt_succ_self _))); have z3 : w.heap.size + 1 ≤ w3.heap.size := Nat.succ_le_of_lt (Blk.lt M3.out); replace own3 := Lib.hid own3; clear g3 c0 c1 c2 c3 c4 c5 c6 c7; (obtain ⟨c0, c1, c2, c3, c4, c5, c6, c7⟩ := box8b M3.out)))
    | (at_builtin; go_must ((refine wpList_append_fds _ rfl (.tmp 26) (.tmp 30) 39 rfl (w.heap.size + 1) 41 j0 _ Try.underlying39 hj.out hy0.out rfl hy1.out hy2.out _ (((([] : List Fd) ++ [(⟨1, 0, 1, ⟨#[]⟩⟩ : Fd)]) ++ tx 2 x1) ++ [(⟨3, 0, x2, ⟨#[]⟩⟩ : Fd)]) [(⟨4, 0, x3, ⟨#[]⟩⟩ : Fd)] rfl (mown_below own3.out (ext_alloc _ _)) (hl4.out _) (by simp only [List.length_append, List.length_nil, List.length_singleton, List.length_cons]; omega) (Nat.le_trans z3 (ext_alloc w3 (.cells #[.int .i64 4, .int .i64 0, .int .u64 (x3 : Nat), .string ⟨#[]⟩] 41)).size) ?_); intro v4 w4 own4 g4; have D4 := Lib.hid ((D3.out.trans ((ext_alloc w3 (.cells #[.int .i64 4, .int .i64 0, .int .u64 (x3 : Nat), .string ⟨#[]⟩] 41)).mono D3.out.size)).trans ((fgrown_ext (mown_below own3.out (ext_alloc w3 (.cells #[.int .i64 4, .int .i64 0, .int .u64 (x3 : Nat), .string ⟨#[]⟩] 41))) g4 (Nat.le_trans z3 (ext_alloc w3 (.cells #[.int .i64 4, .int .i64 0, .int .u64 (x3 : Nat), .string ⟨#[]⟩] 41)).size)).mono (Nat.le_succ _))); have M4 := Lib.hid ((Blk.ext M3.out (ext_alloc w3 (.cells #[.int .i64 4, .int .i64 0, .int .u64 (x3 : Nat), .string ⟨#[]⟩] 41))).grown g4 (own_ne (mown_below own3.out (ext_alloc w3 (.cells #[.int .i64 4, .int .i64 0, .int .u64 (x3 : Nat), .string ⟨#[]⟩] 41))) (Nat.lt_succ_self _))); have z4 : w.heap.size + 1 ≤ w4.heap.size := Nat.succ_le_of_lt (Blk.lt M4.out); replace own4 := Lib.hid own4; clear g4 c0 c1 c2 c3 c4 c5 c6 c7; (obtain ⟨c0, c1, c2, c3, c4, c5, c6, c7⟩ := box8b M4.out))))
  refine (text38_any _ (w.heap.size + 1) ((((([] : List Fd) ++ [(⟨1, 0, 1, ⟨#[]⟩⟩ : Fd)]) ++ tx 2 x1) ++ [(⟨3, 0, x2, ⟨#[]⟩⟩ : Fd)]) ++ [(⟨4, 0, x3, ⟨#[]⟩⟩ : Fd)]) 5 x4 _ own4.out z4 (by simp only [List.length_append, List.length_nil, List.length_singleton, List.length_cons]; omega)).mono ?_
  rintro e w5 ⟨v5, rfl, own5, b5⟩
  have D5 := Lib.hid (D4.out.trans (b5.mono D4.out.size))
  have M5 := Lib.hid (Blk.ext M4.out b5)
  have z5 : w.heap.size + 1 ≤ w5.heap.size := Nat.succ_le_of_lt (Blk.lt M5.out)
  replace own5 := Lib.hid own5
  clear b5 c0 c1 c2 c3 c4 c5 c6 c7
  obtain ⟨c0, c1, c2, c3, c4, c5, c6, c7⟩ := box8b M5.out
  go_wp2_with fail
  refine (text38_any _ (w.heap.size + 1) (((((([] : List Fd) ++ [(⟨1, 0, 1, ⟨#[]⟩⟩ : Fd)]) ++ tx 2 x1) ++ [(⟨3, 0, x2, ⟨#[]⟩⟩ : Fd)]) ++ [(⟨4, 0, x3, ⟨#[]⟩⟩ : Fd)]) ++ tx 5 x4) 6 x5 _ own5.out z5 (by simp only [List.length_append, List.length_nil, List.length_singleton, List.length_cons]; omega)).mono ?_
  rintro e w6 ⟨v6, rfl, own6, b6⟩
  have D6 := Lib.hid (D5.out.trans (b6.mono D5.out.size))
  have M6 := Lib.hid (Blk.ext M5.out b6)
  have z6 : w.heap.size + 1 ≤ w6.heap.size := Nat.succ_le_of_lt (Blk.lt M6.out)
  replace own6 := Lib.hid own6
  clear b6 c0 c1 c2 c3 c4 c5 c6 c7
  obtain ⟨c0, c1, c2, c3, c4, c5, c6, c7⟩ := box8b M6.out
  go_wp2_with fail
  refine (text38_any _ (w.heap.size + 1) ((((((([] : List Fd) ++ [(⟨1, 0, 1, ⟨#[]⟩⟩ : Fd)]) ++ tx 2 x1) ++ [(⟨3, 0, x2, ⟨#[]⟩⟩ : Fd)]) ++ [(⟨4, 0, x3, ⟨#[]⟩⟩ : Fd)]) ++ tx 5 x4) ++ tx 6 x5) 7 x6 _ own6.out z6 (by simp only [List.length_append, List.length_nil, List.length_singleton, List.length_cons]; omega)).mono ?_
  rintro e w7 ⟨v7, rfl, own7, b7⟩
  have D7 := Lib.hid (D6.out.trans (b7.mono D6.out.size))
  have M7 := Lib.hid (Blk.ext M6.out b7)
  have z7 : w.heap.size + 1 ≤ w7.heap.size := Nat.succ_le_of_lt (Blk.lt M7.out)
  replace own7 := Lib.hid own7
  clear b7 c0 c1 c2 c3 c4 c5 c6 c7
  obtain ⟨c0, c1, c2, c3, c4, c5, c6, c7⟩ := box8b M7.out
  go_wp2_with fail
  refine (text38_any _ (w.heap.size + 1) (((((((([] : List Fd) ++ [(⟨1, 0, 1, ⟨#[]⟩⟩ : Fd)]) ++ tx 2 x1) ++ [(⟨3, 0, x2, ⟨#[]⟩⟩ : Fd)]) ++ [(⟨4, 0, x3, ⟨#[]⟩⟩ : Fd)]) ++ tx 5 x4) ++ tx 6 x5) ++ tx 7 x6) 8 x7 _ own7.out z7 (by simp only [List.length_append, List.length_nil, List.length_singleton, List.length_cons]; omega)).mono ?_
  rintro e w8 ⟨v8, rfl, own8, b8⟩
  have D8 := Lib.hid (D7.out.trans (b8.mono D7.out.size))
  have M8 := Lib.hid (Blk.ext M7.out b8)
  have z8 : w.heap.size + 1 ≤ w8.heap.size := Nat.succ_le_of_lt (Blk.lt M8.out)
  replace own8 := Lib.hid own8
  clear b8 c0 c1 c2 c3 c4 c5 c6 c7
  obtain ⟨c0, c1, c2, c3, c4, c5, c6, c7⟩ := box8b M8.out
  go_wp2_with fail
  go_ret
  have hF := FdsAt.of_own own8.out (by simp only [List.length_append, List.length_nil, List.length_singleton, List.length_cons]; omega)
  simp only [List.nil_append, List.append_nil] at hF ⊢
  exact ⟨_, rfl, hF, D8.out⟩
theorem fields_any (m : Me) (w : World) (hm : m.ok) : Calls Try.prog 17 #[m.val] w (FldP m w) := by
  cases h0 : m.multi <;> by_cases h2 : m.size = 0 <;> by_cases h3 : m.seq = 0
  · exact fields_000 m w hm h0 h2 h3
  · exact fields_001 m w hm h0 h2 h3
  · exact fields_010 m w hm h0 h2 h3
  · exact fields_011 m w hm h0 h2 h3
  · exact fields_100 m w hm h0 h2 h3
  · exact fields_101 m w hm h0 h2 h3
  · exact fields_110 m w hm h0 h2 h3
  · exact fields_111 m w hm h0 h2 h3
end Go.Proofs.Ytoglgdkeknojkaa
