/-
  LAYER 14: Put, the document's, of any message.
-/
import Derived.Test.YtmpklaokgogigaaDoorPh
import Derived.Laws.StructEq
namespace Go.Proofs.YtmpklaokgogigaaDoor.Pub
set_option linter.unusedSimpArgs false
set_option linter.unusedVariables false
open Go.RowKit

end Go.Proofs.YtmpklaokgogigaaDoor.Pub

/-
  LAYER 14: any message as bytes: both sides alike, and the law's walk.
-/
namespace Go.Proofs.YtmpklaokgogigaaDoor.Pub
set_option linter.unusedSimpArgs false
set_option linter.unusedVariables false
open Go.RowKit

theorem below_of {f : FuncId} {args : Array Value} {w : World} {v : Value} (h : Calls Tryd.prog f args w fun e w' => e = .returned v ∧ w = w') : Calls Tryd.prog f args w fun e w' => e = .returned v ∧ Below w.heap.size w w' :=
  h.mono fun _ _ ⟨a, b⟩ => ⟨a, by subst b; exact Below.refl _ _⟩
end Go.Proofs.YtmpklaokgogigaaDoor.Pub

/-
  LAYER 14: what was put, told again.
-/
namespace Go.Proofs.YtmpklaokgogigaaDoor.Pub
set_option linter.unusedSimpArgs false
set_option linter.unusedVariables false
open Go.RowKit

/-- What of a number stands in a message. -/
def NumOk (q id : Int) (nl : List Nat) : Prop := (q = 0 ∧ id = 0 ∧ nl = []) ∨ (0 < q ∧ ∃ k : Nat, id = k ∧ 1 ≤ k ∧ k ≤ 65535 ∧ nl = [k / 256, k % 256])
theorem txt_strB (l : List Nat) (h : ∀ x ∈ l, x < 256) : txtL (strB l) = l := by
  unfold txtL strB
  simp only [List.map_map]
  conv => rhs; rw [← List.map_id l]
  apply List.map_congr_left
  intro y hy
  have := h y hy
  simp; omega
theorem strB_drop (p : List Nat) (x : ByteArray) : (strB (p ++ txtL x)).extract p.length (strB (p ++ txtL x)).size = x := by
  apply ByteArray.ext
  rw [ByteArray.data_extract]
  apply Array.toList_inj.1
  rw [Array.toList_extract, strB_size]
  have e : (strB (p ++ txtL x)).data.toList = p.map UInt8.ofNat ++ x.data.toList := by
    unfold strB txtL
    simp [List.map_append, List.map_map, Function.comp_def]
  rw [e]
  have hl : (p ++ txtL x).length = p.length + x.data.toList.length := by rw [List.length_append, txtL_length]; rfl
  rw [hl, List.extract_eq_take_drop, List.drop_append, List.drop_eq_nil_of_le (by simp), List.nil_append]
  simp
  exact List.take_of_length_le (by rw [Array.length_toList]; exact Nat.le_refl _)
/-- A number read behind a text. -/
theorem get2_at (p : List Nat) (k : Nat) (l : List Nat) (hk : k ≤ 65535) : get2V (p ++ [k / 256, k % 256] ++ l) p.length = ((k : Int), ((p.length + 2 : Nat) : Int), 0) := by
  have g0 : (p ++ [k / 256, k % 256] ++ l).getD p.length 0 = k / 256 := by rw [List.append_assoc]; simp [List.getD, List.getElem?_append]
  have g1 : (p ++ [k / 256, k % 256] ++ l).getD (p.length + 1) 0 = k % 256 := by rw [List.append_assoc]; simp [List.getD, List.getElem?_append]
  have hl : (p ++ [k / 256, k % 256] ++ l).length = p.length + 2 + l.length := by simp; omega
  unfold get2V
  rw [hl, if_neg (by omega), if_neg (by omega), Int.toNat_natCast, g0, g1, show 256 * (k / 256) + k % 256 = k from by omega]
  simp
set_option maxRecDepth 100000 in
theorem getid_at (v : Value) (l : List Nat) (a : Int) (k : Nat) (to : Int) (w : World) (hb : BytesAt w v l) (hl : l.length ≤ 140737488355328) (h256 : ∀ x ∈ l, x < 256) (ha : -9223372036854775808 ≤ a ∧ a ≤ 9223372036854775807) (hk : 1 ≤ k) (hg : get2V l a = ((k : Int), to, 0)) :
    Calls Tryd.prog 64 #[v, .int .i64 a] w fun e w' => e = .returned (.tuple #[.int .i64 k, .int .i64 to, .int .i64 0]) ∧ Below w.heap.size w w' := by
  have G := get2_any v l a w hb h256 hl ha
  rw [hg] at G
  simp only at G
  obtain ⟨x, cap, rfl, -, -⟩ := hb
  replace G := Lib.hid G
  have hz : ((k : Int) == 0) = false := beq_eq_false_iff_ne.2 (by omega)
  clear hg h256
  go_enter Tryd.func64, Tryd.ntmps64
  go_wp2_with fail
  refine (G.out).mono ?_
  rintro e w' ⟨rfl, n, rfl⟩
  go_wp2_with fail
  go_ret3
  exact ⟨rfl, below_drewN (Below.refl _ _) n⟩
theorem none_at (v : Value) (a : Int) (w : World) : Calls Tryd.prog 88 #[v, .int .i64 a] w fun e w' => e = .returned (.tuple #[.int .i64 0, .int .i64 a, .int .i64 0]) ∧ Below w.heap.size w w' := by
  go_enter Tryd.func88, Tryd.ntmps88
  go_wp2
  go_ret3
  exact ⟨rfl, Below.refl _ _⟩
theorem field_1P (w : World) : (Instr.field 114 (.agg #[.func (.func 78) #[] #[], .func (.func 64) #[] #[]]) 1).run Tryd.prog w = .ok (.func (.func 64) #[] #[]) w := by kernel_rfl
theorem field_10 (w : World) : (Instr.field 114 (.agg #[.func (.func 87) #[] #[], .func (.func 88) #[] #[]]) 1).run Tryd.prog w = .ok (.func (.func 88) #[] #[]) w := by kernel_rfl
end Go.Proofs.YtmpklaokgogigaaDoor.Pub

/-
  LAYER 14: Of, the program's, of what was put.
-/
namespace Go.Proofs.YtmpklaokgogigaaDoor.Pub
set_option linter.unusedSimpArgs false
set_option linter.unusedVariables false
open Go.RowKit

set_option maxHeartbeats 2000000 in
set_option maxRecDepth 100000 in
theorem of14_0 (S t x : ByteArray) (q k : Int) (A C : Nat) (l : List Nat) (w : World) (hq0 : 0 ≤ q) (hq2 : q ≤ 2) (hS : txtL S = l) (ht : t.size ≤ 65535) (htp : topicB t = true)
    (GET : ∀ W v, BytesAt W v l → Calls Tryd.prog 61 #[v, .int .i64 0] W fun e w' => e = .returned (.tuple #[.string t, .int .i64 A, .int .i64 0]) ∧ Below W.heap.size W w')
    (NB : ∀ w, Calls Tryd.prog 63 #[.int .i64 q] w fun e w' => e = .returned (.agg #[.func (.func 87) #[] #[], .func (.func 88) #[] #[]]) ∧ Below w.heap.size w w')
    (KF : ∀ w, (Instr.field 114 (.agg #[.func (.func 87) #[] #[], .func (.func 88) #[] #[]]) 1).run Tryd.prog w = .ok (.func (.func 88) #[] #[]) w)
    (IDG : ∀ W v, BytesAt W v l → Calls Tryd.prog 88 #[v, .int .i64 A] W fun e w' => e = .returned (.tuple #[.int .i64 k, .int .i64 C, .int .i64 0]) ∧ Below W.heap.size W w')
    (hC : C ≤ S.size) (hSz : S.size ≤ 4096) (hx : S.extract C S.size = x) :
    Calls Tryd.prog 33 #[.string S, .int .i64 q] w fun e w' => e = .returned (.tuple #[.agg #[.string t, .string x, .int .i64 q, .bool false], .int .i64 k, .int .i64 0]) ∧ Below w.heap.size w w' := by
  have T := fun w => topic_any t w (by omega)
  rw [htp] at T
  obtain ⟨v, w1, hconv, a1, b1⟩ := bytes_of S (w.alloc (.cells #[.string ⟨#[]⟩, .string ⟨#[]⟩, .int .i64 0, .bool false] 27))
  rw [hS] at a1
  have hg : w.heap.size < w1.heap.size := by have := b1.size; simp at this; omega
  have row1 : w1.heap[w.heap.size]? = some (.cells #[.string ⟨#[]⟩, .string ⟨#[]⟩, .int .i64 0, .bool false] 27 (0, 0)) := by rw [b1.block _ (by simp)]; exact heap_alloc_new w _
  replace b1 := ext_trans (ext_alloc w _) b1
  replace T := Lib.hid T
  replace GET := Lib.hid GET
  replace NB := Lib.hid NB
  replace IDG := Lib.hid IDG
  replace hx := Lib.hid hx
  replace hS := Lib.hid hS
  replace row1 := Lib.hid row1
  replace b1 := Lib.hid b1
  have hC' : (C : Int) ≤ S.size := by omega
  have hC2 : (C : Int) ≤ 4096 := by omega
  have hS2 : (S.size : Int) ≤ 4096 := by omega
  have HA := Lib.hid a1
  obtain ⟨x1, n1, rfl, -, -⟩ := a1
  clear htp
  go_enter Tryd.func33, Tryd.ntmps33
  go_wp2_with fail
  refine (GET.out _ _ HA.out).mono ?_
  rintro e w2 ⟨rfl, b2⟩
  have A2 := Lib.hid (HA.out.keep b2 (Nat.le_refl _))
  have b3 := Lib.hid b2
  clear b2
  go_wp2_with fail
  refine (T.out _).mono ?_
  rintro e w3 ⟨rfl, b4⟩
  have b5 := Lib.hid (ext_trans b3.out b4)
  clear b4
  go_wp2_with fail
  refine (NB.out _).mono ?_
  rintro e w4 ⟨rfl, b6⟩
  have b7 := Lib.hid (ext_trans b5.out b6)
  clear b6
  go_wp2_with fail
  refine (IDG.out _ _ (HA.out.keep b7.out (Nat.le_refl _))).mono ?_
  rintro e w5 ⟨rfl, b8⟩
  have b9 := ext_trans b7.out b8
  have row5 : w5.heap[w.heap.size]? = some (.cells #[.string ⟨#[]⟩, .string ⟨#[]⟩, .int .i64 0, .bool false] 27 (0, 0)) := by rw [b9.block _ hg]; exact row1.out
  have hg5 : w.heap.size < w5.heap.size := by have := b9.size; omega
  have c0 := cell_of_row w5 w.heap.size 0 _ 27 (0, 0) row5
  have c1 := cell_of_row w5 w.heap.size 1 _ 27 (0, 0) row5
  have c2 := cell_of_row w5 w.heap.size 2 _ 27 (0, 0) row5
  have c3 := cell_of_row w5 w.heap.size 3 _ 27 (0, 0) row5
  have z := fun j => frozen_of_row w5 w.heap.size j _ 27 row5
  have z0 := z 0
  have z1 := z 1
  have z2 := z 2
  have z3 := z 3
  simp at c0 c1 c2 c3
  replace b9 := Lib.hid b9
  replace row5 := Lib.hid row5
  clear b8 z
  go_wp2_with fail
  exact bodyPost_ret (v := .tuple #[.agg #[.string t, .string (S.extract C S.size), .int .i64 q, .bool false], .int .i64 k, .int .i64 0]) (by simp [results, Tryd.results33, go_sem, c0, c1, c2, c3]) rfl ⟨by rw [hx.out], ((((ext_trans b1.out b9.out).setCell (Nat.le_refl _) _).setCell (Nat.le_refl _) _).setCell (Nat.le_refl _) _).setCell (Nat.le_refl _) _⟩
set_option maxHeartbeats 2000000 in
set_option maxRecDepth 100000 in
theorem of14_P (S t x : ByteArray) (q k : Int) (A C : Nat) (l : List Nat) (w : World) (hq0 : 0 ≤ q) (hq2 : q ≤ 2) (hS : txtL S = l) (ht : t.size ≤ 65535) (htp : topicB t = true)
    (GET : ∀ W v, BytesAt W v l → Calls Tryd.prog 61 #[v, .int .i64 0] W fun e w' => e = .returned (.tuple #[.string t, .int .i64 A, .int .i64 0]) ∧ Below W.heap.size W w')
    (NB : ∀ w, Calls Tryd.prog 63 #[.int .i64 q] w fun e w' => e = .returned (.agg #[.func (.func 78) #[] #[], .func (.func 64) #[] #[]]) ∧ Below w.heap.size w w')
    (KF : ∀ w, (Instr.field 114 (.agg #[.func (.func 78) #[] #[], .func (.func 64) #[] #[]]) 1).run Tryd.prog w = .ok (.func (.func 64) #[] #[]) w)
    (IDG : ∀ W v, BytesAt W v l → Calls Tryd.prog 64 #[v, .int .i64 A] W fun e w' => e = .returned (.tuple #[.int .i64 k, .int .i64 C, .int .i64 0]) ∧ Below W.heap.size W w')
    (hC : C ≤ S.size) (hSz : S.size ≤ 4096) (hx : S.extract C S.size = x) :
    Calls Tryd.prog 33 #[.string S, .int .i64 q] w fun e w' => e = .returned (.tuple #[.agg #[.string t, .string x, .int .i64 q, .bool false], .int .i64 k, .int .i64 0]) ∧ Below w.heap.size w w' := by
  have T := fun w => topic_any t w (by omega)
  rw [htp] at T
  obtain ⟨v, w1, hconv, a1, b1⟩ := bytes_of S (w.alloc (.cells #[.string ⟨#[]⟩, .string ⟨#[]⟩, .int .i64 0, .bool false] 27))
  rw [hS] at a1
  have hg : w.heap.size < w1.heap.size := by have := b1.size; simp at this; omega
  have row1 : w1.heap[w.heap.size]? = some (.cells #[.string ⟨#[]⟩, .string ⟨#[]⟩, .int .i64 0, .bool false] 27 (0, 0)) := by rw [b1.block _ (by simp)]; exact heap_alloc_new w _
  replace b1 := ext_trans (ext_alloc w _) b1
  replace T := Lib.hid T
  replace GET := Lib.hid GET
  replace NB := Lib.hid NB
  replace IDG := Lib.hid IDG
  replace hx := Lib.hid hx
  replace hS := Lib.hid hS
  replace row1 := Lib.hid row1
  replace b1 := Lib.hid b1
  have hC' : (C : Int) ≤ S.size := by omega
  have hC2 : (C : Int) ≤ 4096 := by omega
  have hS2 : (S.size : Int) ≤ 4096 := by omega
  have HA := Lib.hid a1
  obtain ⟨x1, n1, rfl, -, -⟩ := a1
  clear htp
  go_enter Tryd.func33, Tryd.ntmps33
  go_wp2_with fail
  refine (GET.out _ _ HA.out).mono ?_
  rintro e w2 ⟨rfl, b2⟩
  have A2 := Lib.hid (HA.out.keep b2 (Nat.le_refl _))
  have b3 := Lib.hid b2
  clear b2
  go_wp2_with fail
  refine (T.out _).mono ?_
  rintro e w3 ⟨rfl, b4⟩
  have b5 := Lib.hid (ext_trans b3.out b4)
  clear b4
  go_wp2_with fail
  refine (NB.out _).mono ?_
  rintro e w4 ⟨rfl, b6⟩
  have b7 := Lib.hid (ext_trans b5.out b6)
  clear b6
  go_wp2_with fail
  refine (IDG.out _ _ (HA.out.keep b7.out (Nat.le_refl _))).mono ?_
  rintro e w5 ⟨rfl, b8⟩
  have b9 := ext_trans b7.out b8
  have row5 : w5.heap[w.heap.size]? = some (.cells #[.string ⟨#[]⟩, .string ⟨#[]⟩, .int .i64 0, .bool false] 27 (0, 0)) := by rw [b9.block _ hg]; exact row1.out
  have hg5 : w.heap.size < w5.heap.size := by have := b9.size; omega
  have c0 := cell_of_row w5 w.heap.size 0 _ 27 (0, 0) row5
  have c1 := cell_of_row w5 w.heap.size 1 _ 27 (0, 0) row5
  have c2 := cell_of_row w5 w.heap.size 2 _ 27 (0, 0) row5
  have c3 := cell_of_row w5 w.heap.size 3 _ 27 (0, 0) row5
  have z := fun j => frozen_of_row w5 w.heap.size j _ 27 row5
  have z0 := z 0
  have z1 := z 1
  have z2 := z 2
  have z3 := z 3
  simp at c0 c1 c2 c3
  replace b9 := Lib.hid b9
  replace row5 := Lib.hid row5
  clear b8 z
  go_wp2_with fail
  exact bodyPost_ret (v := .tuple #[.agg #[.string t, .string (S.extract C S.size), .int .i64 q, .bool false], .int .i64 k, .int .i64 0]) (by simp [results, Tryd.results33, go_sem, c0, c1, c2, c3]) rfl ⟨by rw [hx.out], ((((ext_trans b1.out b9.out).setCell (Nat.le_refl _) _).setCell (Nat.le_refl _) _).setCell (Nat.le_refl _) _).setCell (Nat.le_refl _) _⟩
end Go.Proofs.YtmpklaokgogigaaDoor.Pub

/-
  LAYER 14: there and back.
-/
namespace Go.Proofs.YtmpklaokgogigaaDoor.Pub
set_option linter.unusedSimpArgs false
set_option linter.unusedVariables false
open Go.RowKit

theorem all_lt (t x : ByteArray) (nl : List Nat) (ht : t.size ≤ 65535) (hn : ∀ y ∈ nl, y < 256) : ∀ y ∈ rawL t ++ nl ++ txtL x, y < 256 := by
  intro y hy
  rcases List.mem_append.1 hy with h | h
  · rcases List.mem_append.1 h with h | h
    · exact rawL_lt t ht y h
    · exact hn y h
  · exact txt_lt x y h
theorem of14_back (t x : ByteArray) (q id : Int) (nl : List Nat) (hq0 : 0 ≤ q) (hq2 : q ≤ 2) (htp : topicB t = true) (ht : t.size ≤ 65535) (hr : rightB t = true) (hn : NumOk q id nl) (hl : (rawL t ++ nl ++ txtL x).length ≤ 4096) (w : World) :
    Calls Tryd.prog 33 #[.string (strB (rawL t ++ nl ++ txtL x)), .int .i64 q] w fun e w' => e = .returned (.tuple #[.agg #[.string t, .string x, .int .i64 q, .bool false], .int .i64 id, .int .i64 0]) ∧ Below w.heap.size w w' := by
  have hlen := rawL_length t
  have hnl : ∀ y ∈ nl, y < 256 := by
    rcases hn with ⟨_, _, rfl⟩ | ⟨_, k, _, _, _, rfl⟩
    · simp
    · intro y hy; simp at hy; omega
  have h256 := all_lt t x nl ht hnl
  have hS := txt_strB _ h256
  have hl2 : (rawL t ++ nl ++ txtL x).length ≤ 140737488355328 := by omega
  have GET : ∀ W v, BytesAt W v (rawL t ++ nl ++ txtL x) → Calls Tryd.prog 61 #[v, .int .i64 0] W fun e w' => e = .returned (.tuple #[.string t, .int .i64 ((2 + t.size : Nat) : Int), .int .i64 0]) ∧ Below W.heap.size W w' := by
    intro W v hb
    have G := get_any v _ 0 W hb h256 hl2 (by decide)
    have e := get_mid [] (nl ++ txtL x) t ht
    rw [hr, if_pos rfl] at e
    simp only [List.nil_append, List.length_nil, Nat.zero_add] at e
    rw [← List.append_assoc] at e
    have e' : getV (rawL t ++ nl ++ txtL x) 0 = (t, ((2 + t.size : Nat) : Int), 0) := e
    rw [e'] at G
    exact G
  have hsz : (strB (rawL t ++ nl ++ txtL x)).size = (rawL t ++ nl ++ txtL x).length := strB_size _
  have hlx : (rawL t ++ nl ++ txtL x).length = 2 + t.size + nl.length + x.size := by rw [List.length_append, List.length_append, hlen, txtL_length]
  have hdr := strB_drop (rawL t ++ nl) x
  rw [List.length_append, hlen] at hdr
  rcases hn with ⟨rfl, rfl, rfl⟩ | ⟨qp, k, rfl, k1, k2, rfl⟩
  · exact of14_0 _ t x 0 0 (2 + t.size) (2 + t.size) _ w hq0 hq2 hS ht htp GET number_0 field_10 (fun W v _ => none_at v _ W) (by rw [hsz, hlx]; omega) (by rw [hsz]; exact hl) hdr
  · refine of14_P _ t x q k (2 + t.size) (2 + t.size + 2) _ w hq0 hq2 hS ht htp GET (fun w => number_pos q w qp) field_1P (fun W v hb => ?_) (by rw [hsz, hlx]; simp) (by rw [hsz]; exact hl) hdr
    have g := get2_at (rawL t) k (txtL x) k2
    rw [hlen] at g
    exact getid_at v _ _ k _ W hb hl2 h256 (by omega) k1 g
end Go.Proofs.YtmpklaokgogigaaDoor.Pub
