/-
  LAYER 14: Put, the document's, of any message.
-/
import Derived.Test.YtkihhnndidaloaaPh
namespace Go.Proofs.Ytkihhnndidaloaa
open Go.RowKit

theorem rput_qos (t x : ByteArray) (q id : Int) (r : Bool) (w : World) (h : q < 0 ∨ 2 < q) : Calls Try.prog 15 #[.agg #[.string t, .string x, .int .i64 q, .bool r], .int .i64 id] w (Numb [] 10 w) := by
  refine nil_numb ?_
  rcases (show q < 0 ∨ (0 ≤ q ∧ 2 < q) by omega) with h | ⟨h, h'⟩
  all_goals
    go_enter Try.func15, Try.ntmps15
    go_wp2
    go_ret2
    exact ⟨rfl, ext_alloc _ _⟩
set_option maxHeartbeats 1000000 in
theorem rput_topic (t x : ByteArray) (q id : Int) (r : Bool) (w : World) (h0 : 0 ≤ q) (h2 : q ≤ 2) (ht : t.size ≤ 140737488355328) (htp : topicB t = false) : Calls Try.prog 15 #[.agg #[.string t, .string x, .int .i64 q, .bool r], .int .i64 id] w (Numb [] 13 w) := by
  refine nil_numb ?_
  have T := fun w => named_any t w ht
  rw [htp] at T
  replace T := Lib.hid T
  clear htp
  have b0 := Lib.hid (ext_alloc w (.cells #[.string t, .string x, .int .i64 q, .bool r] 23))
  go_enter Try.func15, Try.ntmps15
  go_wp2_with fail
  refine (T.out _).mono ?_
  rintro e w1 ⟨rfl, rfl⟩
  go_wp2_with fail
  go_ret2
  exact ⟨rfl, b0.out⟩
set_option maxHeartbeats 1000000 in
theorem rput_text (t x : ByteArray) (q id E : Int) (r : Bool) (w : World) (h0 : 0 ≤ q) (h2 : q ≤ 2) (ht : t.size ≤ 140737488355328) (htp : topicB t = true) (hE : E ≠ 0)
    (P : ∀ w, Calls Try.prog 48 #[.string t] w fun e w' => e = .returned (.tuple #[.slice none 0 0, .int .i64 E]) ∧ Below w.heap.size w w') : Calls Try.prog 15 #[.agg #[.string t, .string x, .int .i64 q, .bool r], .int .i64 id] w (Numb [] E w) := by
  refine nil_numb ?_
  have T := fun w => named_any t w ht
  rw [htp] at T
  replace T := Lib.hid T
  replace P := Lib.hid P
  have hb : (E != 0) = true := by simpa using hE
  clear htp hE
  have b0 := Lib.hid (ext_alloc w (.cells #[.string t, .string x, .int .i64 q, .bool r] 23))
  go_enter Try.func15, Try.ntmps15
  go_wp2_with fail
  refine (T.out _).mono ?_
  rintro e w1 ⟨rfl, rfl⟩
  go_wp2_with fail
  refine (P.out _).mono ?_
  rintro e w2 ⟨rfl, b2⟩
  replace b2 := Lib.hid b2
  go_wp2_with fail
  go_ret2
  exact ⟨rfl, ext_trans b0.out b2.out⟩
theorem rput_row (t : ByteArray) (rt : List Nat) (h : t.size ≤ 65535) (hr : rightB t = true) (hrt : rt = rawL t) (w : World) : Calls Try.prog 48 #[.string t] w fun e w' => ∃ v, e = .returned (.tuple #[v, .int .i64 0]) ∧ w'.ownsRow w.heap.size 5 1 v rt.length (bl rt) ∧ Below w.heap.size w w' := by
  subst hrt
  exact (rput_ok t w h hr).mono fun e w' h => h
set_option maxHeartbeats 2000000 in
set_option maxRecDepth 100000 in
theorem rput_num0 (t x : ByteArray) (id : Int) (r : Bool) (rt : List Nat) (w : World) (ht : t.size ≤ 65535) (htp : topicB t = true) (hid : id ≠ 0)
    (P : ∀ w, Calls Try.prog 48 #[.string t] w fun e w' => ∃ v, e = .returned (.tuple #[v, .int .i64 0]) ∧ w'.ownsRow w.heap.size 5 1 v rt.length (bl rt) ∧ Below w.heap.size w w') : Calls Try.prog 15 #[.agg #[.string t, .string x, .int .i64 0, .bool r], .int .i64 id] w (Numb [] 1 w) := by
  have T := fun w => named_any t w (by omega)
  rw [htp] at T
  replace T := Lib.hid T
  replace P := Lib.hid P
  have hb : (id != 0) = true := by simpa using hid
  clear htp hid
  have b0 := Lib.hid (ext_alloc w (.cells #[.string t, .string x, .int .i64 0, .bool r] 23))
  go_enter Try.func15, Try.ntmps15
  go_wp2_with fail
  refine (T.out _).mono ?_
  rintro e w0 ⟨rfl, rfl⟩
  go_wp2_with fail
  refine (P.out _).mono ?_
  rintro e w2 ⟨v2, rfl, o2, b2⟩
  have d01 : w2.cell? ⟨w.heap.size, 1, none⟩ = some (.string x) := by rw [b2.cell (by simp), World.cell?_alloc_at _ _ _ _ rfl]; rfl
  have d02 : w2.cell? ⟨w.heap.size, 2, none⟩ = some (.int .i64 0) := by rw [b2.cell (by simp), World.cell?_alloc_at _ _ _ _ rfl]; rfl
  have hs2 : w.heap.size + 1 ≤ w2.heap.size := by have := b2.size; simpa using this
  have hs2' : w.heap.size < w2.heap.size := by omega
  replace o2 := Joins.ownsRow_le o2 (show w.heap.size + 1 ≤ _ by simp)
  replace b2 := Lib.hid (ext_trans b0.out b2)
  clear o2
  go_wp2_with fail
  go_ret2
  exact ⟨_, rfl, ⟨none, 0, rfl, ⟨by simp, fun _ => rfl⟩, .inl rfl⟩, b2.out⟩
set_option maxHeartbeats 2000000 in
set_option maxRecDepth 100000 in
theorem rput_numP (t x : ByteArray) (q id : Int) (r : Bool) (rt : List Nat) (w : World) (hq0 : 0 < q) (hq2 : q ≤ 2) (ht : t.size ≤ 65535) (htp : topicB t = true)
    (P : ∀ w, Calls Try.prog 48 #[.string t] w fun e w' => ∃ v, e = .returned (.tuple #[v, .int .i64 0]) ∧ w'.ownsRow w.heap.size 5 1 v rt.length (bl rt) ∧ Below w.heap.size w w')
    (ID : ∀ w, Calls Try.prog 20 #[.int .i64 id] w (Numb [] 1 w)) : Calls Try.prog 15 #[.agg #[.string t, .string x, .int .i64 q, .bool r], .int .i64 id] w (Numb [] 1 w) := by
  have T := fun w => named_any t w (by omega)
  rw [htp] at T
  replace T := Lib.hid T
  replace P := Lib.hid P
  replace ID := Lib.hid ID
  have hqb : (q == 0) = false := beq_eq_false_iff_ne.2 (by omega)
  clear htp
  have b0 := Lib.hid (ext_alloc w (.cells #[.string t, .string x, .int .i64 q, .bool r] 23))
  go_enter Try.func15, Try.ntmps15
  go_wp2_with fail
  refine (T.out _).mono ?_
  rintro e w0 ⟨rfl, rfl⟩
  go_wp2_with fail
  refine (P.out _).mono ?_
  rintro e w2 ⟨v2, rfl, o2, b2⟩
  have d01 : w2.cell? ⟨w.heap.size, 1, none⟩ = some (.string x) := by rw [b2.cell (by simp), World.cell?_alloc_at _ _ _ _ rfl]; rfl
  have d02 : w2.cell? ⟨w.heap.size, 2, none⟩ = some (.int .i64 q) := by rw [b2.cell (by simp), World.cell?_alloc_at _ _ _ _ rfl]; rfl
  have hs2 : w.heap.size + 1 ≤ w2.heap.size := by have := b2.size; simpa using this
  have hs2' : w.heap.size < w2.heap.size := by omega
  replace o2 := Joins.ownsRow_le o2 (show w.heap.size + 1 ≤ _ by simp)
  replace b2 := Lib.hid (ext_trans b0.out b2)
  clear o2
  go_wp2_with fail
  refine (ID.out _).mono ?_
  rintro e w4 ⟨v4, rfl, a4, b4⟩
  replace b4 := Lib.hid b4
  clear a4
  go_wp2_with fail
  go_ret2
  exact ⟨_, rfl, ⟨none, 0, rfl, ⟨by simp, fun _ => rfl⟩, .inl rfl⟩, ext_trans b2.out b4.out⟩
set_option maxHeartbeats 2000000 in
set_option maxRecDepth 100000 in
theorem rput_long0 (t x : ByteArray) (r : Bool) (rt : List Nat) (w : World) (hx : x.size ≤ 140737488351232) (ht : t.size ≤ 65535) (htp : topicB t = true)
    (P : ∀ w, Calls Try.prog 48 #[.string t] w fun e w' => ∃ v, e = .returned (.tuple #[v, .int .i64 0]) ∧ w'.ownsRow w.heap.size 5 1 v rt.length (bl rt) ∧ Below w.heap.size w w')
    (hrt : rt.length ≤ 65537) (hp0 : rt ≠ []) (hL : 4096 < rt.length + x.size) : Calls Try.prog 15 #[.agg #[.string t, .string x, .int .i64 0, .bool r], .int .i64 0] w (Numb [] 3 w) := by
  obtain ⟨i0, hi, hz0, hz1, hz2⟩ := info_parts info5
  have T := fun w => named_any t w (by omega)
  rw [htp] at T
  replace T := Lib.hid T
  replace P := Lib.hid P
  replace hp0 := Lib.hid hp0
  have hx' : (x.size : Int) ≤ 140737488351232 := by omega
  have hpl' : (rt.length : Int) ≤ 65537 := by omega
  have hL' : (4096 : Int) < rt.length + x.size := by omega
  clear htp
  have b0 := Lib.hid (ext_alloc w (.cells #[.string t, .string x, .int .i64 0, .bool r] 23))
  go_enter Try.func15, Try.ntmps15
  go_wp2_with fail
  refine (T.out _).mono ?_
  rintro e w0 ⟨rfl, rfl⟩
  go_wp2_with fail
  refine (P.out _).mono ?_
  rintro e w2 ⟨v2, rfl, o2, b2⟩
  have d01 : w2.cell? ⟨w.heap.size, 1, none⟩ = some (.string x) := by rw [b2.cell (by simp), World.cell?_alloc_at _ _ _ _ rfl]; rfl
  have d02 : w2.cell? ⟨w.heap.size, 2, none⟩ = some (.int .i64 0) := by rw [b2.cell (by simp), World.cell?_alloc_at _ _ _ _ rfl]; rfl
  have hs2 : w.heap.size + 1 ≤ w2.heap.size := by have := b2.size; simpa using this
  have hs2' : w.heap.size < w2.heap.size := by omega
  replace o2 := Joins.ownsRow_le o2 (show w.heap.size + 1 ≤ _ by simp)
  replace b2 := Lib.hid (ext_trans b0.out b2)
  obtain ⟨q2, r2, rfl⟩ := form_of o2 hp0.out
  clear o2
  go_wp2_with fail
  go_ret2
  exact ⟨_, rfl, ⟨none, 0, rfl, ⟨by simp, fun _ => rfl⟩, .inl rfl⟩, b2.out⟩
set_option maxHeartbeats 2000000 in
set_option maxRecDepth 100000 in
theorem rput_fit0 (t x : ByteArray) (r : Bool) (rt : List Nat) (w : World) (hx : x.size ≤ 140737488351232) (ht : t.size ≤ 65535) (htp : topicB t = true)
    (P : ∀ w, Calls Try.prog 48 #[.string t] w fun e w' => ∃ v, e = .returned (.tuple #[v, .int .i64 0]) ∧ w'.ownsRow w.heap.size 5 1 v rt.length (bl rt) ∧ Below w.heap.size w w')
    (hrt : rt.length ≤ 65537) (hp0 : rt ≠ []) (hL : rt.length + x.size ≤ 4096) : Calls Try.prog 15 #[.agg #[.string t, .string x, .int .i64 0, .bool r], .int .i64 0] w (Numb (rt ++ txtL x) 0 w) := by
  obtain ⟨i0, hi, hz0, hz1, hz2⟩ := info_parts info5
  have T := fun w => named_any t w (by omega)
  rw [htp] at T
  replace T := Lib.hid T
  replace P := Lib.hid P
  replace hp0 := Lib.hid hp0
  have hx' : (x.size : Int) ≤ 140737488351232 := by omega
  have hpl' : (rt.length : Int) ≤ 65537 := by omega
  have hL' : (rt.length : Int) + x.size ≤ 4096 := by omega
  clear htp
  have b0 := Lib.hid (ext_alloc w (.cells #[.string t, .string x, .int .i64 0, .bool r] 23))
  go_enter Try.func15, Try.ntmps15
  go_wp2_with fail
  refine (T.out _).mono ?_
  rintro e w0 ⟨rfl, rfl⟩
  go_wp2_with fail
  refine (P.out _).mono ?_
  rintro e w2 ⟨v2, rfl, o2, b2⟩
  have d01 : w2.cell? ⟨w.heap.size, 1, none⟩ = some (.string x) := by rw [b2.cell (by simp), World.cell?_alloc_at _ _ _ _ rfl]; rfl
  have d02 : w2.cell? ⟨w.heap.size, 2, none⟩ = some (.int .i64 0) := by rw [b2.cell (by simp), World.cell?_alloc_at _ _ _ _ rfl]; rfl
  have hs2 : w.heap.size + 1 ≤ w2.heap.size := by have := b2.size; simpa using this
  have hs2' : w.heap.size < w2.heap.size := by omega
  replace o2 := Joins.ownsRow_le o2 (show w.heap.size + 1 ≤ _ by simp)
  replace b2 := Lib.hid (ext_trans b0.out b2)
  obtain ⟨q2, r2, rfl⟩ := form_of o2 hp0.out
  go_wp2_with (at_builtin; refine Lib.wpList_append_own_string _ rfl (.tmp 59) (.tmp 61) 24 9 rfl (w.heap.size + 1) 5 i0 Try.underlying24 Try.underlying9 hi hz0 hz1 hz2 (.slice (some ⟨q2, 0, none⟩) rt.length r2) rt.length (bl rt) rfl o2 x rfl (by unfold maxLen; omega) (by omega) hs2 ?_; intro v6 w6 o6 g6 n6; have b6 := Lib.hid (grown_ext o2 g6 hs2); clear o2 g6 n6)
  go_ret2
  refine ⟨_, rfl, BytesAt.of_own (l := rt ++ txtL x) (e := 5) (B := w.heap.size + 1) ?_, b2.out.trans (b6.out.mono (by omega))⟩
  rw [bl_append, bl_txt, List.length_append, txtL_length]
  exact o6
set_option maxHeartbeats 2000000 in
set_option maxRecDepth 100000 in
theorem rput_longP (t x : ByteArray) (q id : Int) (r : Bool) (nl rt p : List Nat) (w : World) (hq0 : 0 < q) (hq2 : q ≤ 2) (hx : x.size ≤ 140737488351232) (ht : t.size ≤ 65535) (htp : topicB t = true)
    (P : ∀ w, Calls Try.prog 48 #[.string t] w fun e w' => ∃ v, e = .returned (.tuple #[v, .int .i64 0]) ∧ w'.ownsRow w.heap.size 5 1 v rt.length (bl rt) ∧ Below w.heap.size w w')
    (ID : ∀ w, Calls Try.prog 20 #[.int .i64 id] w (Numb nl 0 w)) (hnl : nl.length ≤ 2) (hrt : rt.length ≤ 65537) (hp : p = rt ++ nl) (hp0 : p ≠ []) (hpl : p.length ≤ 65539) (hL : 4096 < p.length + x.size) : Calls Try.prog 15 #[.agg #[.string t, .string x, .int .i64 q, .bool r], .int .i64 id] w (Numb [] 3 w) := by
  obtain ⟨i0, hi, hz0, hz1, hz2⟩ := info_parts info5
  have T := fun w => named_any t w (by omega)
  rw [htp] at T
  replace T := Lib.hid T
  replace P := Lib.hid P
  replace hp0 := Lib.hid hp0
  replace hp := Lib.hid hp
  replace ID := Lib.hid ID
  have hqb : (q == 0) = false := beq_eq_false_iff_ne.2 (by omega)
  have hx' : (x.size : Int) ≤ 140737488351232 := by omega
  have hpl' : (p.length : Int) ≤ 65539 := by omega
  have hL' : (4096 : Int) < p.length + x.size := by omega
  clear htp
  have b0 := Lib.hid (ext_alloc w (.cells #[.string t, .string x, .int .i64 q, .bool r] 23))
  go_enter Try.func15, Try.ntmps15
  go_wp2_with fail
  refine (T.out _).mono ?_
  rintro e w0 ⟨rfl, rfl⟩
  go_wp2_with fail
  refine (P.out _).mono ?_
  rintro e w2 ⟨v2, rfl, o2, b2⟩
  have d01 : w2.cell? ⟨w.heap.size, 1, none⟩ = some (.string x) := by rw [b2.cell (by simp), World.cell?_alloc_at _ _ _ _ rfl]; rfl
  have d02 : w2.cell? ⟨w.heap.size, 2, none⟩ = some (.int .i64 q) := by rw [b2.cell (by simp), World.cell?_alloc_at _ _ _ _ rfl]; rfl
  have hs2 : w.heap.size + 1 ≤ w2.heap.size := by have := b2.size; simpa using this
  have hs2' : w.heap.size < w2.heap.size := by omega
  replace o2 := Joins.ownsRow_le o2 (show w.heap.size + 1 ≤ _ by simp)
  replace b2 := Lib.hid (ext_trans b0.out b2)
  go_wp2_with fail
  refine (ID.out _).mono ?_
  rintro e w4 ⟨v4, rfl, a4, b4⟩
  have f01 : w4.cell? ⟨w.heap.size, 1, none⟩ = some (.string x) := by rw [b4.cell hs2']; exact d01
  have o4 := own_below o2 b4
  have hs4 : w2.heap.size ≤ w4.heap.size := b4.size
  have hw1 : w.heap.size + 1 ≤ w4.heap.size := by omega
  have B4 := Lib.hid (ext_trans b2.out b4)
  clear o2 b4 d01 d02
  go_wp2_with (at_builtin; refine wpList_append_bytes _ rfl (.tmp 49) (.tmp 50) 24 rfl (w.heap.size + 1) 5 i0 Try.underlying24 hi hz0 hz1 hz2 v2 rt nl rfl o4 a4 (by omega) hw1 ?_; intro v5 w5 o5 g5 n5; have b5 := Lib.hid (grown_ext o4 g5 hw1); have g01 : w5.cell? ⟨w.heap.size, 1, none⟩ = some (.string x) := (by rw [b5.out.cell (Nat.lt_succ_self _)]; exact f01); rw [← hp.out] at o5; obtain ⟨q5, r5, rfl⟩ := form_of o5 hp0.out; have hw5 : w.heap.size + 1 ≤ w5.heap.size := (by have := b5.out.size; omega); clear o4 a4 g5 n5 f01; clear o5)
  go_ret2
  exact ⟨_, rfl, ⟨none, 0, rfl, ⟨by simp, fun _ => rfl⟩, .inl rfl⟩, B4.out.trans (b5.out.mono (by omega))⟩
set_option maxHeartbeats 2000000 in
set_option maxRecDepth 100000 in
theorem rput_fitP (t x : ByteArray) (q id : Int) (r : Bool) (nl rt p : List Nat) (w : World) (hq0 : 0 < q) (hq2 : q ≤ 2) (hx : x.size ≤ 140737488351232) (ht : t.size ≤ 65535) (htp : topicB t = true)
    (P : ∀ w, Calls Try.prog 48 #[.string t] w fun e w' => ∃ v, e = .returned (.tuple #[v, .int .i64 0]) ∧ w'.ownsRow w.heap.size 5 1 v rt.length (bl rt) ∧ Below w.heap.size w w')
    (ID : ∀ w, Calls Try.prog 20 #[.int .i64 id] w (Numb nl 0 w)) (hnl : nl.length ≤ 2) (hrt : rt.length ≤ 65537) (hp : p = rt ++ nl) (hp0 : p ≠ []) (hpl : p.length ≤ 65539) (hL : p.length + x.size ≤ 4096) : Calls Try.prog 15 #[.agg #[.string t, .string x, .int .i64 q, .bool r], .int .i64 id] w (Numb (p ++ txtL x) 0 w) := by
  obtain ⟨i0, hi, hz0, hz1, hz2⟩ := info_parts info5
  have T := fun w => named_any t w (by omega)
  rw [htp] at T
  replace T := Lib.hid T
  replace P := Lib.hid P
  replace hp0 := Lib.hid hp0
  replace hp := Lib.hid hp
  replace ID := Lib.hid ID
  have hqb : (q == 0) = false := beq_eq_false_iff_ne.2 (by omega)
  have hx' : (x.size : Int) ≤ 140737488351232 := by omega
  have hpl' : (p.length : Int) ≤ 65539 := by omega
  have hL' : (p.length : Int) + x.size ≤ 4096 := by omega
  clear htp
  have b0 := Lib.hid (ext_alloc w (.cells #[.string t, .string x, .int .i64 q, .bool r] 23))
  go_enter Try.func15, Try.ntmps15
  go_wp2_with fail
  refine (T.out _).mono ?_
  rintro e w0 ⟨rfl, rfl⟩
  go_wp2_with fail
  refine (P.out _).mono ?_
  rintro e w2 ⟨v2, rfl, o2, b2⟩
  have d01 : w2.cell? ⟨w.heap.size, 1, none⟩ = some (.string x) := by rw [b2.cell (by simp), World.cell?_alloc_at _ _ _ _ rfl]; rfl
  have d02 : w2.cell? ⟨w.heap.size, 2, none⟩ = some (.int .i64 q) := by rw [b2.cell (by simp), World.cell?_alloc_at _ _ _ _ rfl]; rfl
  have hs2 : w.heap.size + 1 ≤ w2.heap.size := by have := b2.size; simpa using this
  have hs2' : w.heap.size < w2.heap.size := by omega
  replace o2 := Joins.ownsRow_le o2 (show w.heap.size + 1 ≤ _ by simp)
  replace b2 := Lib.hid (ext_trans b0.out b2)
  go_wp2_with fail
  refine (ID.out _).mono ?_
  rintro e w4 ⟨v4, rfl, a4, b4⟩
  have f01 : w4.cell? ⟨w.heap.size, 1, none⟩ = some (.string x) := by rw [b4.cell hs2']; exact d01
  have o4 := own_below o2 b4
  have hs4 : w2.heap.size ≤ w4.heap.size := b4.size
  have hw1 : w.heap.size + 1 ≤ w4.heap.size := by omega
  have B4 := Lib.hid (ext_trans b2.out b4)
  clear o2 b4 d01 d02
  go_wp2_with (first
    | (at_builtin; refine wpList_append_bytes _ rfl (.tmp 49) (.tmp 50) 24 rfl (w.heap.size + 1) 5 i0 Try.underlying24 hi hz0 hz1 hz2 v2 rt nl rfl o4 a4 (by omega) hw1 ?_; intro v5 w5 o5 g5 n5; have b5 := Lib.hid (grown_ext o4 g5 hw1); have g01 : w5.cell? ⟨w.heap.size, 1, none⟩ = some (.string x) := (by rw [b5.out.cell (Nat.lt_succ_self _)]; exact f01); rw [← hp.out] at o5; obtain ⟨q5, r5, rfl⟩ := form_of o5 hp0.out; have hw5 : w.heap.size + 1 ≤ w5.heap.size := (by have := b5.out.size; omega); clear o4 a4 g5 n5 f01)
    | (at_builtin; refine Lib.wpList_append_own_string _ rfl (.tmp 59) (.tmp 61) 24 9 rfl (w.heap.size + 1) 5 i0 Try.underlying24 Try.underlying9 hi hz0 hz1 hz2 (.slice (some ⟨q5, 0, none⟩) p.length r5) p.length (bl p) rfl o5 x rfl (by unfold maxLen; omega) (by omega) hw5 ?_; intro v6 w6 o6 g6 n6; have b6 := Lib.hid (grown_ext o5 g6 hw5); clear o5 g6 n6))
  go_ret2
  refine ⟨_, rfl, BytesAt.of_own (l := p ++ txtL x) (e := 5) (B := w.heap.size + 1) ?_, B4.out.trans ((b5.out.mono (by omega)).trans (b6.out.mono (by omega)))⟩
  rw [bl_append, bl_txt, List.length_append, txtL_length]
  exact o6
end Go.Proofs.Ytkihhnndidaloaa
