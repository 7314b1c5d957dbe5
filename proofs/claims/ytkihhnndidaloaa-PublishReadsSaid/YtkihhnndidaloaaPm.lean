/-
  LAYER 14: there and back.
-/
import Derived.Test.YtkihhnndidaloaaPl
import Derived.Laws.StructEq
namespace Go.Proofs.Ytkihhnndidaloaa
open Go.RowKit

theorem all_lt (t x : ByteArray) (nl : List Nat) (ht : t.size ≤ 65535) (hn : ∀ y ∈ nl, y < 256) : ∀ y ∈ rawL t ++ nl ++ txtL x, y < 256 := by
  intro y hy
  rcases List.mem_append.1 hy with h | h
  · rcases List.mem_append.1 h with h | h
    · exact rawL_lt t ht y h
    · exact hn y h
  · exact txt_lt x y h
theorem of14_back (t x : ByteArray) (q id : Int) (nl : List Nat) (hq0 : 0 ≤ q) (hq2 : q ≤ 2) (htp : topicB t = true) (ht : t.size ≤ 65535) (hr : rightB t = true) (hn : NumOk q id nl) (hl : (rawL t ++ nl ++ txtL x).length ≤ 4096) (w : World) :
    Calls Try.prog 17 #[.string (strB (rawL t ++ nl ++ txtL x)), .int .i64 q] w fun e w' => e = .returned (.tuple #[.agg #[.string t, .string x, .int .i64 q, .bool false], .int .i64 id, .int .i64 0]) ∧ Below w.heap.size w w' := by
  have hlen := rawL_length t
  have hnl : ∀ y ∈ nl, y < 256 := by
    rcases hn with ⟨_, _, rfl⟩ | ⟨_, k, _, _, _, rfl⟩
    · simp
    · intro y hy; simp at hy; omega
  have h256 := all_lt t x nl ht hnl
  have hS := txt_strB _ h256
  have hl2 : (rawL t ++ nl ++ txtL x).length ≤ 140737488355328 := by omega
  have GET : ∀ W v, BytesAt W v (rawL t ++ nl ++ txtL x) → Calls Try.prog 49 #[v, .int .i64 0] W fun e w' => e = .returned (.tuple #[.string t, .int .i64 ((2 + t.size : Nat) : Int), .int .i64 0]) ∧ Below W.heap.size W w' := by
    intro W v hb
    have G := get_any v _ 0 W hb h256 hl2 (by decide)
    have e := get_mid [] (nl ++ txtL x) t ht
    rw [hr, if_pos rfl] at e
    simp only [List.nil_append, List.length_nil, Nat.zero_add] at e
    rw [← List.append_assoc] at e
    have e' : getV (rawL t ++ nl ++ txtL x) 0 = (t, ((2 + t.size : Nat) : Int), 0) := e
    rw [e'] at G
    exact G
  have hsz : (strB (rawL t ++ nl ++ txtL x)).size = (rawL t ++ nl ++ txtL x).length := strB_size _
  have hlx : (rawL t ++ nl ++ txtL x).length = 2 + t.size + nl.length + x.size := by rw [List.length_append, List.length_append, hlen, txtL_length]
  have hdr := strB_drop (rawL t ++ nl) x
  rw [List.length_append, hlen] at hdr
  rcases hn with ⟨rfl, rfl, rfl⟩ | ⟨qp, k, rfl, k1, k2, rfl⟩
  · exact of14_0 _ t x 0 0 (2 + t.size) (2 + t.size) _ w hq0 hq2 hS ht htp GET number_0 field_10 (fun W v _ => none_at v _ W) (by rw [hsz, hlx]; omega) (by rw [hsz]; exact hl) hdr
  · refine of14_P _ t x q k (2 + t.size) (2 + t.size + 2) _ w hq0 hq2 hS ht htp GET (fun w => number_pos q w qp) field_1P (fun W v hb => ?_) (by rw [hsz, hlx]; simp) (by rw [hsz]; exact hl) hdr
    have g := get2_at (rawL t) k (txtL x) k2
    rw [hlen] at g
    exact getid_at v _ _ k _ W hb hl2 h256 (by omega) k1 g
set_option maxHeartbeats 2000000 in
set_option maxRecDepth 100000 in
theorem back14_err (t x : ByteArray) (q id E : Int) (r : Bool) (w : World) (hE : E ≠ 0)
    (P : ∀ w, Calls Try.prog 14 #[.agg #[.string t, .string x, .int .i64 q, .bool r], .int .i64 id] w (Numb [] E w)) :
    Calls Try.prog 5 #[.agg #[.string t, .string x, .int .i64 q, .bool r], .int .i64 id] w (Yes w) := by
  unfold Numb at P
  replace P := Lib.hid P
  have hb : (E != 0) = true := by simpa using hE
  have b0 := Lib.hid (ext_alloc w (.cells #[.string t, .string x, .int .i64 q, .bool r] 23))
  clear hE
  go_enter Try.func5, Try.ntmps5
  go_wp2_with fail
  refine (P.out _).mono ?_
  rintro e w1 ⟨v1, rfl, a1, b1⟩
  obtain ⟨x1, n1, rfl, -, -⟩ := a1
  replace b1 := Lib.hid (ext_trans b0.out b1)
  go_wp2_with fail
  refine (awake14_any _).mono ?_
  rintro e w3 ⟨rfl, b3⟩
  go_wp2_with fail
  go_ret
  exact ⟨rfl, ext_trans b1.out b3⟩
set_option maxHeartbeats 4000000 in
set_option maxRecDepth 100000 in
theorem back14_ok (t x : ByteArray) (q id : Int) (r : Bool) (l : List Nat) (S : ByteArray) (w : World) (hl : l.length ≤ 4096) (hS : strB l = S)
    (P : ∀ w, Calls Try.prog 14 #[.agg #[.string t, .string x, .int .i64 q, .bool r], .int .i64 id] w (Numb l 0 w))
    (Q : ∀ w, Calls Try.prog 17 #[.string S, .int .i64 q] w fun e w' => e = .returned (.tuple #[.agg #[.string t, .string x, .int .i64 q, .bool false], .int .i64 id, .int .i64 0]) ∧ Below w.heap.size w w') :
    Calls Try.prog 5 #[.agg #[.string t, .string x, .int .i64 q, .bool r], .int .i64 id] w (Yes w) := by
  unfold Numb at P
  replace P := Lib.hid P
  replace Q := Lib.hid Q
  have hl' : (l.length : Int) ≤ 4096 := by omega
  have b0 := Lib.hid (ext_alloc w (.cells #[.string t, .string x, .int .i64 q, .bool r] 23))
  go_enter Try.func5, Try.ntmps5
  go_wp2_with fail
  refine (P.out _).mono ?_
  rintro e w1 ⟨v1, rfl, a1, b1⟩
  have row1 : w1.heap[w.heap.size]? = some (.cells #[.string t, .string x, .int .i64 q, .bool r] 23 (0, 0)) := by rw [b1.block _ (by simp)]; exact heap_alloc_new w _
  have hg1 : w.heap.size < w1.heap.size := by have := b1.size; simp at this; omega
  have c02 := cell_of_row w1 w.heap.size 2 _ 23 (0, 0) row1
  simp at c02
  have k1 := a1.conv (P := Try.prog) Try.underlying24 Try.underlying5 Try.underlying9
  rw [hS] at k1
  obtain ⟨x1, n1, rfl, -, -⟩ := a1
  replace b1 := Lib.hid (ext_trans b0.out b1)
  replace row1 := Lib.hid row1
  replace hS := Lib.hid hS
  go_wp2_with fail
  refine (Q.out _).mono ?_
  rintro e w2 ⟨rfl, b2⟩
  have row2 : w2.heap[w.heap.size]? = some (.cells #[.string t, .string x, .int .i64 q, .bool r] 23 (0, 0)) := by rw [b2.block _ hg1]; exact row1.out
  have hg2 : w.heap.size < w2.heap.size := by have := b2.size; omega
  have d0 := cell_of_row w2 w.heap.size 0 _ 23 (0, 0) row2
  have d1 := cell_of_row w2 w.heap.size 1 _ 23 (0, 0) row2
  have d2 := cell_of_row w2 w.heap.size 2 _ 23 (0, 0) row2
  have d3 := cell_of_row w2 w.heap.size 3 _ 23 (0, 0) row2
  simp at d0 d1 d2 d3
  replace b2 := Lib.hid (ext_trans b1.out b2)
  replace row2 := Lib.hid row2
  clear c02 k1
  go_wp2_with fail
  refine (awake14_any _).mono ?_
  rintro e w3 ⟨rfl, b3⟩
  go_wp2_with fail
  go_ret
  refine ⟨rfl, ext_trans ?_ b3⟩
  repeat (first | exact b2.out | refine Below.setCell ?_ (by first | exact Below.size b2.out | exact Nat.le_refl _) _ | refine Below.alloc ?_ (Below.size b2.out) _)
theorem back14_any (t x : ByteArray) (q id : Int) (r : Bool) (w : World) (ht : t.size ≤ 140737488351232) (hx : x.size ≤ 140737488351232) :
    Calls Try.prog 5 #[.agg #[.string t, .string x, .int .i64 q, .bool r], .int .i64 id] w (Yes w) := by
  rcases put14_cases t x q id r ht hx with ⟨E, hE, P⟩ | ⟨nl, q0, q2, htp, hts, hr, hn, hl, P⟩
  · exact back14_err t x q id E r w hE P
  · exact back14_ok t x q id r _ _ w hl rfl P (of14_back t x q id nl q0 q2 htp hts hr hn hl)
end Go.Proofs.Ytkihhnndidaloaa
