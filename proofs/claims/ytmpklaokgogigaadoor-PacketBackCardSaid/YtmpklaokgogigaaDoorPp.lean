/-
  LAYER 14: Put, the document's, of any message.
-/
import Derived.Test.YtmpklaokgogigaaDoorPh
import Derived.Laws.StructEq
namespace Go.Proofs.YtmpklaokgogigaaDoor.Pub
set_option linter.unusedSimpArgs false
set_option linter.unusedVariables false
open Go.RowKit

end Go.Proofs.YtmpklaokgogigaaDoor.Pub

/-
  LAYER 14: any message as bytes: both sides alike, and the law's walk.
-/
namespace Go.Proofs.YtmpklaokgogigaaDoor.Pub
set_option linter.unusedSimpArgs false
set_option linter.unusedVariables false
open Go.RowKit

theorem below_of {f : FuncId} {args : Array Value} {w : World} {v : Value} (h : Calls Tryd.prog f args w fun e w' => e = .returned v ∧ w = w') : Calls Tryd.prog f args w fun e w' => e = .returned v ∧ Below w.heap.size w w' :=
  h.mono fun _ _ ⟨a, b⟩ => ⟨a, by subst b; exact Below.refl _ _⟩
end Go.Proofs.YtmpklaokgogigaaDoor.Pub

/-
  LAYER 14: what was put, told again.
-/
namespace Go.Proofs.YtmpklaokgogigaaDoor.Pub
set_option linter.unusedSimpArgs false
set_option linter.unusedVariables false
open Go.RowKit

/-- What of a number stands in a message. -/
def NumOk (q id : Int) (nl : List Nat) : Prop := (q = 0 ∧ id = 0 ∧ nl = []) ∨ (0 < q ∧ ∃ k : Nat, id = k ∧ 1 ≤ k ∧ k ≤ 65535 ∧ nl = [k / 256, k % 256])
theorem txt_strB (l : List Nat) (h : ∀ x ∈ l, x < 256) : txtL (strB l) = l := by
  unfold txtL strB
  simp only [List.map_map]
  conv => rhs; rw [← List.map_id l]
  apply List.map_congr_left
  intro y hy
  have := h y hy
  simp; omega
theorem strB_drop (p : List Nat) (x : ByteArray) : (strB (p ++ txtL x)).extract p.length (strB (p ++ txtL x)).size = x := by
  apply ByteArray.ext
  rw [ByteArray.data_extract]
  apply Array.toList_inj.1
  rw [Array.toList_extract, strB_size]
  have e : (strB (p ++ txtL x)).data.toList = p.map UInt8.ofNat ++ x.data.toList := by
    unfold strB txtL
    simp [List.map_append, List.map_map, Function.comp_def]
  rw [e]
  have hl : (p ++ txtL x).length = p.length + x.data.toList.length := by rw [List.length_append, txtL_length]; rfl
  rw [hl, List.extract_eq_take_drop, List.drop_append, List.drop_eq_nil_of_le (by simp), List.nil_append]
  simp
  exact List.take_of_length_le (by rw [Array.length_toList]; exact Nat.le_refl _)
/-- A number read behind a text. -/
theorem get2_at (p : List Nat) (k : Nat) (l : List Nat) (hk : k ≤ 65535) : get2V (p ++ [k / 256, k % 256] ++ l) p.length = ((k : Int), ((p.length + 2 : Nat) : Int), 0) := by
  have g0 : (p ++ [k / 256, k % 256] ++ l).getD p.length 0 = k / 256 := by rw [List.append_assoc]; simp [List.getD, List.getElem?_append]
  have g1 : (p ++ [k / 256, k % 256] ++ l).getD (p.length + 1) 0 = k % 256 := by rw [List.append_assoc]; simp [List.getD, List.getElem?_append]
  have hl : (p ++ [k / 256, k % 256] ++ l).length = p.length + 2 + l.length := by simp; omega
  unfold get2V
  rw [hl, if_neg (by omega), if_neg (by omega), Int.toNat_natCast, g0, g1, show 256 * (k / 256) + k % 256 = k from by omega]
  simp
set_option maxRecDepth 100000 in
theorem getid_at (v : Value) (l : List Nat) (a : Int) (k : Nat) (to : Int) (w : World) (hb : BytesAt w v l) (hl : l.length ≤ 140737488355328) (h256 : ∀ x ∈ l, x < 256) (ha : -9223372036854775808 ≤ a ∧ a ≤ 9223372036854775807) (hk : 1 ≤ k) (hg : get2V l a = ((k : Int), to, 0)) :
    Calls Tryd.prog 64 #[v, .int .i64 a] w fun e w' => e = .returned (.tuple #[.int .i64 k, .int .i64 to, .int .i64 0]) ∧ Below w.heap.size w w' := by
  have G := get2_any v l a w hb h256 hl ha
  rw [hg] at G
  simp only at G
  obtain ⟨x, cap, rfl, -, -⟩ := hb
  replace G := Lib.hid G
  have hz : ((k : Int) == 0) = false := beq_eq_false_iff_ne.2 (by omega)
  clear hg h256
  go_enter Tryd.func64, Tryd.ntmps64
  go_wp2_with fail
  refine (G.out).mono ?_
  rintro e w' ⟨rfl, n, rfl⟩
  go_wp2_with fail
  go_ret3
  exact ⟨rfl, below_drewN (Below.refl _ _) n⟩
theorem none_at (v : Value) (a : Int) (w : World) : Calls Tryd.prog 88 #[v, .int .i64 a] w fun e w' => e = .returned (.tuple #[.int .i64 0, .int .i64 a, .int .i64 0]) ∧ Below w.heap.size w w' := by
  go_enter Tryd.func88, Tryd.ntmps88
  go_wp2
  go_ret3
  exact ⟨rfl, Below.refl _ _⟩
theorem field_1P (w : World) : (Instr.field 114 (.agg #[.func (.func 78) #[] #[], .func (.func 64) #[] #[]]) 1).run Tryd.prog w = .ok (.func (.func 64) #[] #[]) w := by kernel_rfl
theorem field_10 (w : World) : (Instr.field 114 (.agg #[.func (.func 87) #[] #[], .func (.func 88) #[] #[]]) 1).run Tryd.prog w = .ok (.func (.func 88) #[] #[]) w := by kernel_rfl
end Go.Proofs.YtmpklaokgogigaaDoor.Pub

/-
  LAYER 14: Of, the program's, of what was put.
-/
namespace Go.Proofs.YtmpklaokgogigaaDoor.Pub
set_option linter.unusedSimpArgs false
set_option linter.unusedVariables false
open Go.RowKit

set_option maxHeartbeats 2000000 in
set_option maxRecDepth 100000 in
theorem of14_0 (S t x : ByteArray) (q k : Int) (A C : Nat) (l : List Nat) (w : World) (hq0 : 0 ≤ q) (hq2 : q ≤ 2) (hS : txtL S = l) (ht : t.size ≤ 65535) (htp : topicB t = true)
    (GET : ∀ W v, BytesAt W v l → Calls Tryd.prog 61 #[v, .int .i64 0] W fun e w' => e = .returned (.tuple #[.string t, .int .i64 A, .int .i64 0]) ∧ Below W.heap.size W w')
    (NB : ∀ w, Calls Tryd.prog 63 #[.int .i64 q] w fun e w' => e = .returned (.agg #[.func (.func 87) #[] #[], .func (.func 88) #[] #[]]) ∧ Below w.heap.size w w')
    (KF : ∀ w, (Instr.field 114 (.agg #[.func (.func 87) #[] #[], .func (.func 88) #[] #[]]) 1).run Tryd.prog w = .ok (.func (.func 88) #[] #[]) w)
    (IDG : ∀ W v, BytesAt W v l → Calls Tryd.prog 88 #[v, .int .i64 A] W fun e w' => e = .returned (.tuple #[.int .i64 k, .int .i64 C, .int .i64 0]) ∧ Below W.heap.size W w')
    (hC : C ≤ S.size) (hSz : S.size ≤ 4096) (hx : S.extract C S.size = x) :
    Calls Tryd.prog 33 #[.string S, .int .i64 q] w fun e w' => e = .returned (.tuple #[.agg #[.string t, .string x, .int .i64 q, .bool false], .int .i64 k, .int .i64 0]) ∧ Below w.heap.size w w' := by
  have T := fun w => topic_any t w (by omega)
  rw [htp] at T
  obtain ⟨v, w1, hconv, a1, b1⟩ := bytes_of S (w.alloc (.cells #[.string ⟨#[]⟩, .string ⟨#[]⟩, .int .i64 0, .bool false] 27))
  rw [hS] at a1
  have hg : w.heap.size < w1.heap.size := by have := b1.size; simp at this; omega
  have row1 : w1.heap[w.heap.size]? = some (.cells #[.string ⟨#[]⟩, .string ⟨#[]⟩, .int .i64 0, .bool false] 27 (0, 0)) := by rw [b1.block _ (by simp)]; exact heap_alloc_new w _
  replace b1 := ext_trans (ext_alloc w _) b1
  replace T := Lib.hid T
  replace GET := Lib.hid GET
  replace NB := Lib.hid NB
  replace IDG := Lib.hid IDG
  replace hx := Lib.hid hx
  replace hS := Lib.hid hS
  replace row1 := Lib.hid row1
  replace b1 := Lib.hid b1
  have hC' : (C : Int) ≤ S.size := by omega
  have hC2 : (C : Int) ≤ 4096 := by omega
  have hS2 : (S.size : Int) ≤ 4096 := by omega
  have HA := Lib.hid a1
  obtain ⟨x1, n1, rfl, -, -⟩ := a1
  clear htp
  go_enter Tryd.func33, Tryd.ntmps33
  go_wp2_with fail
  refine (GET.out _ _ HA.out).mono ?_
  rintro e w2 ⟨rfl, b2⟩
  have A2 := Lib.hid (HA.out.keep b2 (Nat.le_refl _))
  have b3 := Lib.hid b2
  clear b2
  go_wp2_with fail
  refine (T.out _).mono ?_
  rintro e w3 ⟨rfl, b4⟩
  have b5 := Lib.hid (ext_trans b3.out b4)
  clear b4
  go_wp2_with fail
  refine (NB.out _).mono ?_
  rintro e w4 ⟨rfl, b6⟩
  have b7 := Lib.hid (ext_trans b5.out b6)
  clear b6
  go_wp2_with fail
  refine (IDG.out _ _ (HA.out.keep b7.out (Nat.le_refl _))).mono ?_
  rintro e w5 ⟨rfl, b8⟩
  have b9 := ext_trans b7.out b8
  have row5 : w5.heap[w.heap.size]? = some (.cells #[.string ⟨#[]⟩, .string ⟨#[]⟩, .int .i64 0, .bool false] 27 (0, 0)) := by rw [b9.block _ hg]; exact row1.out
  have hg5 : w.heap.size < w5.heap.size := by have := b9.size; omega
  have c0 := cell_of_row w5 w.heap.size 0 _ 27 (0, 0) row5
  have c1 := cell_of_row w5 w.heap.size 1 _ 27 (0, 0) row5
  have c2 := cell_of_row w5 w.heap.size 2 _ 27 (0, 0) row5
  have c3 := cell_of_row w5 w.heap.size 3 _ 27 (0, 0) row5
  have z := fun j => frozen_of_row w5 w.heap.size j _ 27 row5
  have z0 := z 0
  have z1 := z 1
  have z2 := z 2
  have z3 := z 3
  simp at c0 c1 c2 c3
  replace b9 := Lib.hid b9
  replace row5 := Lib.hid row5
  clear b8 z
  go_wp2_with fail
  exact bodyPost_ret (v := .tuple #[.agg #[.string t, .string (S.extract C S.size), .int .i64 q, .bool false], .int .i64 k, .int .i64 0]) (by simp [results, Tryd.results33, go_sem, c0, c1, c2, c3]) rfl ⟨by rw [hx.out], ((((ext_trans b1.out b9.out).setCell (Nat.le_refl _) _).setCell (Nat.le_refl _) _).setCell (Nat.le_refl _) _).setCell (Nat.le_refl _) _⟩
set_option maxHeartbeats 2000000 in
set_option maxRecDepth 100000 in
theorem of14_P (S t x : ByteArray) (q k : Int) (A C : Nat) (l : List Nat) (w : World) (hq0 : 0 ≤ q) (hq2 : q ≤ 2) (hS : txtL S = l) (ht : t.size ≤ 65535) (htp : topicB t = true)
    (GET : ∀ W v, BytesAt W v l → Calls Tryd.prog 61 #[v, .int .i64 0] W fun e w' => e = .returned (.tuple #[.string t, .int .i64 A, .int .i64 0]) ∧ Below W.heap.size W w')
    (NB : ∀ w, Calls Tryd.prog 63 #[.int .i64 q] w fun e w' => e = .returned (.agg #[.func (.func 78) #[] #[], .func (.func 64) #[] #[]]) ∧ Below w.heap.size w w')
    (KF : ∀ w, (Instr.field 114 (.agg #[.func (.func 78) #[] #[], .func (.func 64) #[] #[]]) 1).run Tryd.prog w = .ok (.func (.func 64) #[] #[]) w)
    (IDG : ∀ W v, BytesAt W v l → Calls Tryd.prog 64 #[v, .int .i64 A] W fun e w' => e = .returned (.tuple #[.int .i64 k, .int .i64 C, .int .i64 0]) ∧ Below W.heap.size W w')
    (hC : C ≤ S.size) (hSz : S.size ≤ 4096) (hx : S.extract C S.size = x) :
    Calls Tryd.prog 33 #[.string S, .int .i64 q] w fun e w' => e = .returned (.tuple #[.agg #[.string t, .string x, .int .i64 q, .bool false], .int .i64 k, .int .i64 0]) ∧ Below w.heap.size w w' := by
  have T := fun w => topic_any t w (by omega)
  rw [htp] at T
  obtain ⟨v, w1, hconv, a1, b1⟩ := bytes_of S (w.alloc (.cells #[.string ⟨#[]⟩, .string ⟨#[]⟩, .int .i64 0, .bool false] 27))
  rw [hS] at a1
  have hg : w.heap.size < w1.heap.size := by have := b1.size; simp at this; omega
  have row1 : w1.heap[w.heap.size]? = some (.cells #[.string ⟨#[]⟩, .string ⟨#[]⟩, .int .i64 0, .bool false] 27 (0, 0)) := by rw [b1.block _ (by simp)]; exact heap_alloc_new w _
  replace b1 := ext_trans (ext_alloc w _) b1
  replace T := Lib.hid T
  replace GET := Lib.hid GET
  replace NB := Lib.hid NB
  replace IDG := Lib.hid IDG
  replace hx := Lib.hid hx
  replace hS := Lib.hid hS
  replace row1 := Lib.hid row1
  replace b1 := Lib.hid b1
  have hC' : (C : Int) ≤ S.size := by omega
  have hC2 : (C : Int) ≤ 4096 := by omega
  have hS2 : (S.size : Int) ≤ 4096 := by omega
  have HA := Lib.hid a1
  obtain ⟨x1, n1, rfl, -, -⟩ := a1
  clear htp
  go_enter Tryd.func33, Tryd.ntmps33
  go_wp2_with fail
  refine (GET.out _ _ HA.out).mono ?_
  rintro e w2 ⟨rfl, b2⟩
  have A2 := Lib.hid (HA.out.keep b2 (Nat.le_refl _))
  have b3 := Lib.hid b2
  clear b2
  go_wp2_with fail
  refine (T.out _).mono ?_
  rintro e w3 ⟨rfl, b4⟩
  have b5 := Lib.hid (ext_trans b3.out b4)
  clear b4
  go_wp2_with fail
  refine (NB.out _).mono ?_
  rintro e w4 ⟨rfl, b6⟩
  have b7 := Lib.hid (ext_trans b5.out b6)
  clear b6
  go_wp2_with fail
  refine (IDG.out _ _ (HA.out.keep b7.out (Nat.le_refl _))).mono ?_
  rintro e w5 ⟨rfl, b8⟩
  have b9 := ext_trans b7.out b8
  have row5 : w5.heap[w.heap.size]? = some (.cells #[.string ⟨#[]⟩, .string ⟨#[]⟩, .int .i64 0, .bool false] 27 (0, 0)) := by rw [b9.block _ hg]; exact row1.out
  have hg5 : w.heap.size < w5.heap.size := by have := b9.size; omega
  have c0 := cell_of_row w5 w.heap.size 0 _ 27 (0, 0) row5
  have c1 := cell_of_row w5 w.heap.size 1 _ 27 (0, 0) row5
  have c2 := cell_of_row w5 w.heap.size 2 _ 27 (0, 0) row5
  have c3 := cell_of_row w5 w.heap.size 3 _ 27 (0, 0) row5
  have z := fun j => frozen_of_row w5 w.heap.size j _ 27 row5
  have z0 := z 0
  have z1 := z 1
  have z2 := z 2
  have z3 := z 3
  simp at c0 c1 c2 c3
  replace b9 := Lib.hid b9
  replace row5 := Lib.hid row5
  clear b8 z
  go_wp2_with fail
  exact bodyPost_ret (v := .tuple #[.agg #[.string t, .string (S.extract C S.size), .int .i64 q, .bool false], .int .i64 k, .int .i64 0]) (by simp [results, Tryd.results33, go_sem, c0, c1, c2, c3]) rfl ⟨by rw [hx.out], ((((ext_trans b1.out b9.out).setCell (Nat.le_refl _) _).setCell (Nat.le_refl _) _).setCell (Nat.le_refl _) _).setCell (Nat.le_refl _) _⟩
end Go.Proofs.YtmpklaokgogigaaDoor.Pub

/-
  LAYER 14: there and back.
-/
namespace Go.Proofs.YtmpklaokgogigaaDoor.Pub
set_option linter.unusedSimpArgs false
set_option linter.unusedVariables false
open Go.RowKit

theorem all_lt (t x : ByteArray) (nl : List Nat) (ht : t.size ≤ 65535) (hn : ∀ y ∈ nl, y < 256) : ∀ y ∈ rawL t ++ nl ++ txtL x, y < 256 := by
  intro y hy
  rcases List.mem_append.1 hy with h | h
  · rcases List.mem_append.1 h with h | h
    · exact rawL_lt t ht y h
    · exact hn y h
  · exact txt_lt x y h
theorem of14_back (t x : ByteArray) (q id : Int) (nl : List Nat) (hq0 : 0 ≤ q) (hq2 : q ≤ 2) (htp : topicB t = true) (ht : t.size ≤ 65535) (hr : rightB t = true) (hn : NumOk q id nl) (hl : (rawL t ++ nl ++ txtL x).length ≤ 4096) (w : World) :
    Calls Tryd.prog 33 #[.string (strB (rawL t ++ nl ++ txtL x)), .int .i64 q] w fun e w' => e = .returned (.tuple #[.agg #[.string t, .string x, .int .i64 q, .bool false], .int .i64 id, .int .i64 0]) ∧ Below w.heap.size w w' := by
  have hlen := rawL_length t
  have hnl : ∀ y ∈ nl, y < 256 := by
    rcases hn with ⟨_, _, rfl⟩ | ⟨_, k, _, _, _, rfl⟩
    · simp
    · intro y hy; simp at hy; omega
  have h256 := all_lt t x nl ht hnl
  have hS := txt_strB _ h256
  have hl2 : (rawL t ++ nl ++ txtL x).length ≤ 140737488355328 := by omega
  have GET : ∀ W v, BytesAt W v (rawL t ++ nl ++ txtL x) → Calls Tryd.prog 61 #[v, .int .i64 0] W fun e w' => e = .returned (.tuple #[.string t, .int .i64 ((2 + t.size : Nat) : Int), .int .i64 0]) ∧ Below W.heap.size W w' := by
    intro W v hb
    have G := get_any v _ 0 W hb h256 hl2 (by decide)
    have e := get_mid [] (nl ++ txtL x) t ht
    rw [hr, if_pos rfl] at e
    simp only [List.nil_append, List.length_nil, Nat.zero_add] at e
    rw [← List.append_assoc] at e
    have e' : getV (rawL t ++ nl ++ txtL x) 0 = (t, ((2 + t.size : Nat) : Int), 0) := e
    rw [e'] at G
    exact G
  have hsz : (strB (rawL t ++ nl ++ txtL x)).size = (rawL t ++ nl ++ txtL x).length := strB_size _
  have hlx : (rawL t ++ nl ++ txtL x).length = 2 + t.size + nl.length + x.size := by rw [List.length_append, List.length_append, hlen, txtL_length]
  have hdr := strB_drop (rawL t ++ nl) x
  rw [List.length_append, hlen] at hdr
  rcases hn with ⟨rfl, rfl, rfl⟩ | ⟨qp, k, rfl, k1, k2, rfl⟩
  · exact of14_0 _ t x 0 0 (2 + t.size) (2 + t.size) _ w hq0 hq2 hS ht htp GET number_0 field_10 (fun W v _ => none_at v _ W) (by rw [hsz, hlx]; omega) (by rw [hsz]; exact hl) hdr
  · refine of14_P _ t x q k (2 + t.size) (2 + t.size + 2) _ w hq0 hq2 hS ht htp GET (fun w => number_pos q w qp) field_1P (fun W v hb => ?_) (by rw [hsz, hlx]; simp) (by rw [hsz]; exact hl) hdr
    have g := get2_at (rawL t) k (txtL x) k2
    rw [hlen] at g
    exact getid_at v _ _ k _ W hb hl2 h256 (by omega) k1 g
end Go.Proofs.YtmpklaokgogigaaDoor.Pub

/-
  LAYER 14: Of, of any bytes: both sides' errors, the program's success.
-/
namespace Go.Proofs.YtmpklaokgogigaaDoor.Pub
set_option linter.unusedSimpArgs false
set_option linter.unusedVariables false
open Go.RowKit

def OfPost (m : Value) (id err : Int) (w : World) (e : Ending) (w' : World) : Prop := e = .returned (.tuple #[m, .int .i64 id, .int .i64 err]) ∧ Below w.heap.size w w'
theorem of_qos (S : ByteArray) (q : Int) (w : World) (h : q < 0 ∨ 2 < q) : Calls Tryd.prog 33 #[.string S, .int .i64 q] w (OfPost (.agg #[.string ⟨#[]⟩, .string ⟨#[]⟩, .int .i64 0, .bool false]) 0 10 w) := by
  rcases (show q < 0 ∨ (0 ≤ q ∧ 2 < q) by omega) with h | ⟨h, h'⟩
  all_goals
    go_enter Tryd.func33, Tryd.ntmps33
    go_wp2
    exact bodyPost_ret (v := .tuple #[.agg #[.string ⟨#[]⟩, .string ⟨#[]⟩, .int .i64 0, .bool false], .int .i64 0, .int .i64 10]) (by simp [results, Tryd.results33, go_sem]) rfl ⟨rfl, by repeat (first | exact ext_alloc _ _ | refine Below.setCell ?_ (Nat.le_refl _) _)⟩
theorem rof_qos (S : ByteArray) (q : Int) (w : World) (h : q < 0 ∨ 2 < q) : Calls Tryd.prog 40 #[.string S, .int .i64 q] w (OfPost (.agg #[.string ⟨#[]⟩, .string ⟨#[]⟩, .int .i64 0, .bool false]) 0 10 w) := by
  rcases (show q < 0 ∨ (0 ≤ q ∧ 2 < q) by omega) with h | ⟨h, h'⟩
  all_goals
    go_enter Tryd.func40, Tryd.ntmps40
    go_wp2
    exact bodyPost_ret (v := .tuple #[.agg #[.string ⟨#[]⟩, .string ⟨#[]⟩, .int .i64 0, .bool false], .int .i64 0, .int .i64 10]) (by simp [results, Tryd.results40, go_sem]) rfl ⟨rfl, by repeat (first | exact ext_alloc _ _ | refine Below.setCell ?_ (Nat.le_refl _) _)⟩
set_option maxHeartbeats 2000000 in
set_option maxRecDepth 100000 in
theorem of_get (S : ByteArray) (q : Int) (l : List Nat) (w : World) (hq0 : 0 ≤ q) (hq2 : q ≤ 2) (hS : txtL S = l) (hSz : S.size ≤ 140737488351232) (t : ByteArray) (A E0 : Int) (hE : E0 ≠ 0) (GET : ∀ W v, BytesAt W v l → Calls Tryd.prog 61 #[v, .int .i64 0] W fun e w' => e = .returned (.tuple #[.string t, .int .i64 A, .int .i64 E0]) ∧ Below W.heap.size W w') :
    Calls Tryd.prog 33 #[.string S, .int .i64 q] w (OfPost (.agg #[.string ⟨#[]⟩, .string ⟨#[]⟩, .int .i64 0, .bool false]) 0 E0 w) := by
  obtain ⟨v, w1, hconv, a1, b1⟩ := bytes_of S (w.alloc (.cells #[.string ⟨#[]⟩, .string ⟨#[]⟩, .int .i64 0, .bool false] 27))
  rw [hS] at a1
  have hg : w.heap.size < w1.heap.size := by have := b1.size; simp at this; omega
  have row1 : w1.heap[w.heap.size]? = some (.cells #[.string ⟨#[]⟩, .string ⟨#[]⟩, .int .i64 0, .bool false] 27 (0, 0)) := by rw [b1.block _ (by simp)]; exact heap_alloc_new w _
  replace b1 := ext_trans (ext_alloc w _) b1
  replace GET := Lib.hid GET
  replace hS := Lib.hid hS
  replace row1 := Lib.hid row1
  replace b1 := Lib.hid b1
  have hS2 : (S.size : Int) ≤ 140737488351232 := by omega
  have HA := Lib.hid a1
  obtain ⟨x1, n1, rfl, -, -⟩ := a1
  have hb : (E0 != 0) = true := by simpa using hE
  clear hE
  go_enter Tryd.func33, Tryd.ntmps33
  go_wp2_with fail
  refine (GET.out _ _ HA.out).mono ?_
  rintro e w2 ⟨rfl, bb⟩
  have row2 : w2.heap[w.heap.size]? = some (.cells #[.string ⟨#[]⟩, .string ⟨#[]⟩, .int .i64 0, .bool false] 27 (0, 0)) := by rw [bb.block _ hg]; exact row1.out
  have hg2 : w.heap.size < w2.heap.size := by have := bb.size; omega
  have c0 := cell_of_row w2 w.heap.size 0 _ 27 (0, 0) row2
  have c1 := cell_of_row w2 w.heap.size 1 _ 27 (0, 0) row2
  have c2 := cell_of_row w2 w.heap.size 2 _ 27 (0, 0) row2
  have c3 := cell_of_row w2 w.heap.size 3 _ 27 (0, 0) row2
  have z := fun j => frozen_of_row w2 w.heap.size j _ 27 row2
  have z0 := z 0
  have z1 := z 1
  have z2 := z 2
  have z3 := z 3
  simp at c0 c1 c2 c3
  have B := Lib.hid (ext_trans b1.out bb)
  replace row2 := Lib.hid row2
  clear bb z
  go_wp2_with fail
  exact bodyPost_ret (v := .tuple #[.agg #[.string ⟨#[]⟩, .string ⟨#[]⟩, .int .i64 0, .bool false], .int .i64 0, .int .i64 E0]) (by simp [results, Tryd.results33, go_sem, c0, c1, c2, c3]) rfl ⟨rfl, (((B.out.setCell (Nat.le_refl _) _).setCell (Nat.le_refl _) _).setCell (Nat.le_refl _) _).setCell (Nat.le_refl _) _⟩
set_option maxHeartbeats 2000000 in
set_option maxRecDepth 100000 in
theorem of_topic (S : ByteArray) (q : Int) (l : List Nat) (w : World) (hq0 : 0 ≤ q) (hq2 : q ≤ 2) (hS : txtL S = l) (hSz : S.size ≤ 140737488351232) (t : ByteArray) (A : Int) (ht : t.size ≤ 140737488351232) (htp : topicB t = false) (GET : ∀ W v, BytesAt W v l → Calls Tryd.prog 61 #[v, .int .i64 0] W fun e w' => e = .returned (.tuple #[.string t, .int .i64 A, .int .i64 0]) ∧ Below W.heap.size W w') :
    Calls Tryd.prog 33 #[.string S, .int .i64 q] w (OfPost (.agg #[.string ⟨#[]⟩, .string ⟨#[]⟩, .int .i64 0, .bool false]) 0 13 w) := by
  have T := fun w => topic_any t w (by omega)
  rw [htp] at T
  replace T := Lib.hid T
  clear htp
  obtain ⟨v, w1, hconv, a1, b1⟩ := bytes_of S (w.alloc (.cells #[.string ⟨#[]⟩, .string ⟨#[]⟩, .int .i64 0, .bool false] 27))
  rw [hS] at a1
  have hg : w.heap.size < w1.heap.size := by have := b1.size; simp at this; omega
  have row1 : w1.heap[w.heap.size]? = some (.cells #[.string ⟨#[]⟩, .string ⟨#[]⟩, .int .i64 0, .bool false] 27 (0, 0)) := by rw [b1.block _ (by simp)]; exact heap_alloc_new w _
  replace b1 := ext_trans (ext_alloc w _) b1
  replace GET := Lib.hid GET
  replace hS := Lib.hid hS
  replace row1 := Lib.hid row1
  replace b1 := Lib.hid b1
  have hS2 : (S.size : Int) ≤ 140737488351232 := by omega
  have HA := Lib.hid a1
  obtain ⟨x1, n1, rfl, -, -⟩ := a1
  go_enter Tryd.func33, Tryd.ntmps33
  go_wp2_with fail
  refine (GET.out _ _ HA.out).mono ?_
  rintro e w2 ⟨rfl, b2⟩
  replace b2 := Lib.hid b2
  go_wp2_with fail
  refine (T.out _).mono ?_
  rintro e w3 ⟨rfl, b4⟩
  have bb := ext_trans b2.out b4
  clear b4
  have row3 : w3.heap[w.heap.size]? = some (.cells #[.string ⟨#[]⟩, .string ⟨#[]⟩, .int .i64 0, .bool false] 27 (0, 0)) := by rw [bb.block _ hg]; exact row1.out
  have hg3 : w.heap.size < w3.heap.size := by have := bb.size; omega
  have c0 := cell_of_row w3 w.heap.size 0 _ 27 (0, 0) row3
  have c1 := cell_of_row w3 w.heap.size 1 _ 27 (0, 0) row3
  have c2 := cell_of_row w3 w.heap.size 2 _ 27 (0, 0) row3
  have c3 := cell_of_row w3 w.heap.size 3 _ 27 (0, 0) row3
  have z := fun j => frozen_of_row w3 w.heap.size j _ 27 row3
  have z0 := z 0
  have z1 := z 1
  have z2 := z 2
  have z3 := z 3
  simp at c0 c1 c2 c3
  have B := Lib.hid (ext_trans b1.out bb)
  replace row3 := Lib.hid row3
  clear bb z
  go_wp2_with fail
  exact bodyPost_ret (v := .tuple #[.agg #[.string ⟨#[]⟩, .string ⟨#[]⟩, .int .i64 0, .bool false], .int .i64 0, .int .i64 13]) (by simp [results, Tryd.results33, go_sem, c0, c1, c2, c3]) rfl ⟨rfl, (((B.out.setCell (Nat.le_refl _) _).setCell (Nat.le_refl _) _).setCell (Nat.le_refl _) _).setCell (Nat.le_refl _) _⟩
set_option maxHeartbeats 2000000 in
set_option maxRecDepth 100000 in
theorem of_ok0 (S : ByteArray) (q : Int) (l : List Nat) (w : World) (hq0 : 0 ≤ q) (hq2 : q ≤ 2) (hS : txtL S = l) (hSz : S.size ≤ 140737488351232) (t : ByteArray) (A k : Int) (C : Nat) (ht : t.size ≤ 140737488351232) (htp : topicB t = true) (hC : C ≤ S.size) (GET : ∀ W v, BytesAt W v l → Calls Tryd.prog 61 #[v, .int .i64 0] W fun e w' => e = .returned (.tuple #[.string t, .int .i64 A, .int .i64 0]) ∧ Below W.heap.size W w') (NB : ∀ w, Calls Tryd.prog 63 #[.int .i64 q] w fun e w' => e = .returned (.agg #[.func (.func 87) #[] #[], .func (.func 88) #[] #[]]) ∧ Below w.heap.size w w') (KF : ∀ w, (Instr.field 114 (.agg #[.func (.func 87) #[] #[], .func (.func 88) #[] #[]]) 1).run Tryd.prog w = .ok (.func (.func 88) #[] #[]) w) (IDG : ∀ W v, BytesAt W v l → Calls Tryd.prog 88 #[v, .int .i64 A] W fun e w' => e = .returned (.tuple #[.int .i64 k, .int .i64 C, .int .i64 0]) ∧ Below W.heap.size W w') :
    Calls Tryd.prog 33 #[.string S, .int .i64 q] w (OfPost (.agg #[.string t, .string (S.extract C S.size), .int .i64 q, .bool false]) k 0 w) := by
  have T := fun w => topic_any t w (by omega)
  rw [htp] at T
  replace T := Lib.hid T
  clear htp
  obtain ⟨v, w1, hconv, a1, b1⟩ := bytes_of S (w.alloc (.cells #[.string ⟨#[]⟩, .string ⟨#[]⟩, .int .i64 0, .bool false] 27))
  rw [hS] at a1
  have hg : w.heap.size < w1.heap.size := by have := b1.size; simp at this; omega
  have row1 : w1.heap[w.heap.size]? = some (.cells #[.string ⟨#[]⟩, .string ⟨#[]⟩, .int .i64 0, .bool false] 27 (0, 0)) := by rw [b1.block _ (by simp)]; exact heap_alloc_new w _
  replace b1 := ext_trans (ext_alloc w _) b1
  replace GET := Lib.hid GET
  replace hS := Lib.hid hS
  replace row1 := Lib.hid row1
  replace b1 := Lib.hid b1
  have hS2 : (S.size : Int) ≤ 140737488351232 := by omega
  have HA := Lib.hid a1
  obtain ⟨x1, n1, rfl, -, -⟩ := a1
  replace NB := Lib.hid NB
  replace IDG := Lib.hid IDG
  have hC' : (C : Int) ≤ S.size := by omega
  go_enter Tryd.func33, Tryd.ntmps33
  go_wp2_with fail
  refine (GET.out _ _ HA.out).mono ?_
  rintro e w2 ⟨rfl, b2⟩
  have b3 := Lib.hid b2
  clear b2
  go_wp2_with fail
  refine (T.out _).mono ?_
  rintro e w3 ⟨rfl, b4⟩
  have b5 := Lib.hid (ext_trans b3.out b4)
  clear b4
  go_wp2_with fail
  refine (NB.out _).mono ?_
  rintro e w4 ⟨rfl, b6⟩
  have b7 := Lib.hid (ext_trans b5.out b6)
  clear b6
  go_wp2_with fail
  refine (IDG.out _ _ (HA.out.keep b7.out (Nat.le_refl _))).mono ?_
  rintro e w5 ⟨rfl, b8⟩
  have bb := ext_trans b7.out b8
  clear b8
  have row5 : w5.heap[w.heap.size]? = some (.cells #[.string ⟨#[]⟩, .string ⟨#[]⟩, .int .i64 0, .bool false] 27 (0, 0)) := by rw [bb.block _ hg]; exact row1.out
  have hg5 : w.heap.size < w5.heap.size := by have := bb.size; omega
  have c0 := cell_of_row w5 w.heap.size 0 _ 27 (0, 0) row5
  have c1 := cell_of_row w5 w.heap.size 1 _ 27 (0, 0) row5
  have c2 := cell_of_row w5 w.heap.size 2 _ 27 (0, 0) row5
  have c3 := cell_of_row w5 w.heap.size 3 _ 27 (0, 0) row5
  have z := fun j => frozen_of_row w5 w.heap.size j _ 27 row5
  have z0 := z 0
  have z1 := z 1
  have z2 := z 2
  have z3 := z 3
  simp at c0 c1 c2 c3
  have B := Lib.hid (ext_trans b1.out bb)
  replace row5 := Lib.hid row5
  clear bb z
  go_wp2_with fail
  exact bodyPost_ret (v := .tuple #[.agg #[.string t, .string (S.extract C S.size), .int .i64 q, .bool false], .int .i64 k, .int .i64 0]) (by simp [results, Tryd.results33, go_sem, c0, c1, c2, c3]) rfl ⟨rfl, (((B.out.setCell (Nat.le_refl _) _).setCell (Nat.le_refl _) _).setCell (Nat.le_refl _) _).setCell (Nat.le_refl _) _⟩
set_option maxHeartbeats 2000000 in
set_option maxRecDepth 100000 in
theorem of_num (S : ByteArray) (q : Int) (l : List Nat) (w : World) (hq0 : 0 ≤ q) (hq2 : q ≤ 2) (hS : txtL S = l) (hSz : S.size ≤ 140737488351232) (t : ByteArray) (A k C E1 : Int) (ht : t.size ≤ 140737488351232) (htp : topicB t = true) (hE : E1 ≠ 0) (GET : ∀ W v, BytesAt W v l → Calls Tryd.prog 61 #[v, .int .i64 0] W fun e w' => e = .returned (.tuple #[.string t, .int .i64 A, .int .i64 0]) ∧ Below W.heap.size W w') (NB : ∀ w, Calls Tryd.prog 63 #[.int .i64 q] w fun e w' => e = .returned (.agg #[.func (.func 78) #[] #[], .func (.func 64) #[] #[]]) ∧ Below w.heap.size w w') (KF : ∀ w, (Instr.field 114 (.agg #[.func (.func 78) #[] #[], .func (.func 64) #[] #[]]) 1).run Tryd.prog w = .ok (.func (.func 64) #[] #[]) w) (IDG : ∀ W v, BytesAt W v l → Calls Tryd.prog 64 #[v, .int .i64 A] W fun e w' => e = .returned (.tuple #[.int .i64 k, .int .i64 C, .int .i64 E1]) ∧ Below W.heap.size W w') :
    Calls Tryd.prog 33 #[.string S, .int .i64 q] w (OfPost (.agg #[.string ⟨#[]⟩, .string ⟨#[]⟩, .int .i64 0, .bool false]) 0 E1 w) := by
  have T := fun w => topic_any t w (by omega)
  rw [htp] at T
  replace T := Lib.hid T
  clear htp
  obtain ⟨v, w1, hconv, a1, b1⟩ := bytes_of S (w.alloc (.cells #[.string ⟨#[]⟩, .string ⟨#[]⟩, .int .i64 0, .bool false] 27))
  rw [hS] at a1
  have hg : w.heap.size < w1.heap.size := by have := b1.size; simp at this; omega
  have row1 : w1.heap[w.heap.size]? = some (.cells #[.string ⟨#[]⟩, .string ⟨#[]⟩, .int .i64 0, .bool false] 27 (0, 0)) := by rw [b1.block _ (by simp)]; exact heap_alloc_new w _
  replace b1 := ext_trans (ext_alloc w _) b1
  replace GET := Lib.hid GET
  replace hS := Lib.hid hS
  replace row1 := Lib.hid row1
  replace b1 := Lib.hid b1
  have hS2 : (S.size : Int) ≤ 140737488351232 := by omega
  have HA := Lib.hid a1
  obtain ⟨x1, n1, rfl, -, -⟩ := a1
  replace NB := Lib.hid NB
  replace IDG := Lib.hid IDG
  have hb : (E1 != 0) = true := by simpa using hE
  clear hE
  go_enter Tryd.func33, Tryd.ntmps33
  go_wp2_with fail
  refine (GET.out _ _ HA.out).mono ?_
  rintro e w2 ⟨rfl, b2⟩
  have b3 := Lib.hid b2
  clear b2
  go_wp2_with fail
  refine (T.out _).mono ?_
  rintro e w3 ⟨rfl, b4⟩
  have b5 := Lib.hid (ext_trans b3.out b4)
  clear b4
  go_wp2_with fail
  refine (NB.out _).mono ?_
  rintro e w4 ⟨rfl, b6⟩
  have b7 := Lib.hid (ext_trans b5.out b6)
  clear b6
  go_wp2_with fail
  refine (IDG.out _ _ (HA.out.keep b7.out (Nat.le_refl _))).mono ?_
  rintro e w5 ⟨rfl, b8⟩
  have bb := ext_trans b7.out b8
  clear b8
  have row5 : w5.heap[w.heap.size]? = some (.cells #[.string ⟨#[]⟩, .string ⟨#[]⟩, .int .i64 0, .bool false] 27 (0, 0)) := by rw [bb.block _ hg]; exact row1.out
  have hg5 : w.heap.size < w5.heap.size := by have := bb.size; omega
  have c0 := cell_of_row w5 w.heap.size 0 _ 27 (0, 0) row5
  have c1 := cell_of_row w5 w.heap.size 1 _ 27 (0, 0) row5
  have c2 := cell_of_row w5 w.heap.size 2 _ 27 (0, 0) row5
  have c3 := cell_of_row w5 w.heap.size 3 _ 27 (0, 0) row5
  have z := fun j => frozen_of_row w5 w.heap.size j _ 27 row5
  have z0 := z 0
  have z1 := z 1
  have z2 := z 2
  have z3 := z 3
  simp at c0 c1 c2 c3
  have B := Lib.hid (ext_trans b1.out bb)
  replace row5 := Lib.hid row5
  clear bb z
  go_wp2_with fail
  exact bodyPost_ret (v := .tuple #[.agg #[.string ⟨#[]⟩, .string ⟨#[]⟩, .int .i64 0, .bool false], .int .i64 0, .int .i64 E1]) (by simp [results, Tryd.results33, go_sem, c0, c1, c2, c3]) rfl ⟨rfl, (((B.out.setCell (Nat.le_refl _) _).setCell (Nat.le_refl _) _).setCell (Nat.le_refl _) _).setCell (Nat.le_refl _) _⟩
set_option maxHeartbeats 2000000 in
set_option maxRecDepth 100000 in
theorem of_okP (S : ByteArray) (q : Int) (l : List Nat) (w : World) (hq0 : 0 ≤ q) (hq2 : q ≤ 2) (hS : txtL S = l) (hSz : S.size ≤ 140737488351232) (t : ByteArray) (A k : Int) (C : Nat) (ht : t.size ≤ 140737488351232) (htp : topicB t = true) (hC : C ≤ S.size) (GET : ∀ W v, BytesAt W v l → Calls Tryd.prog 61 #[v, .int .i64 0] W fun e w' => e = .returned (.tuple #[.string t, .int .i64 A, .int .i64 0]) ∧ Below W.heap.size W w') (NB : ∀ w, Calls Tryd.prog 63 #[.int .i64 q] w fun e w' => e = .returned (.agg #[.func (.func 78) #[] #[], .func (.func 64) #[] #[]]) ∧ Below w.heap.size w w') (KF : ∀ w, (Instr.field 114 (.agg #[.func (.func 78) #[] #[], .func (.func 64) #[] #[]]) 1).run Tryd.prog w = .ok (.func (.func 64) #[] #[]) w) (IDG : ∀ W v, BytesAt W v l → Calls Tryd.prog 64 #[v, .int .i64 A] W fun e w' => e = .returned (.tuple #[.int .i64 k, .int .i64 C, .int .i64 0]) ∧ Below W.heap.size W w') :
    Calls Tryd.prog 33 #[.string S, .int .i64 q] w (OfPost (.agg #[.string t, .string (S.extract C S.size), .int .i64 q, .bool false]) k 0 w) := by
  have T := fun w => topic_any t w (by omega)
  rw [htp] at T
  replace T := Lib.hid T
  clear htp
  obtain ⟨v, w1, hconv, a1, b1⟩ := bytes_of S (w.alloc (.cells #[.string ⟨#[]⟩, .string ⟨#[]⟩, .int .i64 0, .bool false] 27))
  rw [hS] at a1
  have hg : w.heap.size < w1.heap.size := by have := b1.size; simp at this; omega
  have row1 : w1.heap[w.heap.size]? = some (.cells #[.string ⟨#[]⟩, .string ⟨#[]⟩, .int .i64 0, .bool false] 27 (0, 0)) := by rw [b1.block _ (by simp)]; exact heap_alloc_new w _
  replace b1 := ext_trans (ext_alloc w _) b1
  replace GET := Lib.hid GET
  replace hS := Lib.hid hS
  replace row1 := Lib.hid row1
  replace b1 := Lib.hid b1
  have hS2 : (S.size : Int) ≤ 140737488351232 := by omega
  have HA := Lib.hid a1
  obtain ⟨x1, n1, rfl, -, -⟩ := a1
  replace NB := Lib.hid NB
  replace IDG := Lib.hid IDG
  have hC' : (C : Int) ≤ S.size := by omega
  go_enter Tryd.func33, Tryd.ntmps33
  go_wp2_with fail
  refine (GET.out _ _ HA.out).mono ?_
  rintro e w2 ⟨rfl, b2⟩
  have b3 := Lib.hid b2
  clear b2
  go_wp2_with fail
  refine (T.out _).mono ?_
  rintro e w3 ⟨rfl, b4⟩
  have b5 := Lib.hid (ext_trans b3.out b4)
  clear b4
  go_wp2_with fail
  refine (NB.out _).mono ?_
  rintro e w4 ⟨rfl, b6⟩
  have b7 := Lib.hid (ext_trans b5.out b6)
  clear b6
  go_wp2_with fail
  refine (IDG.out _ _ (HA.out.keep b7.out (Nat.le_refl _))).mono ?_
  rintro e w5 ⟨rfl, b8⟩
  have bb := ext_trans b7.out b8
  clear b8
  have row5 : w5.heap[w.heap.size]? = some (.cells #[.string ⟨#[]⟩, .string ⟨#[]⟩, .int .i64 0, .bool false] 27 (0, 0)) := by rw [bb.block _ hg]; exact row1.out
  have hg5 : w.heap.size < w5.heap.size := by have := bb.size; omega
  have c0 := cell_of_row w5 w.heap.size 0 _ 27 (0, 0) row5
  have c1 := cell_of_row w5 w.heap.size 1 _ 27 (0, 0) row5
  have c2 := cell_of_row w5 w.heap.size 2 _ 27 (0, 0) row5
  have c3 := cell_of_row w5 w.heap.size 3 _ 27 (0, 0) row5
  have z := fun j => frozen_of_row w5 w.heap.size j _ 27 row5
  have z0 := z 0
  have z1 := z 1
  have z2 := z 2
  have z3 := z 3
  simp at c0 c1 c2 c3
  have B := Lib.hid (ext_trans b1.out bb)
  replace row5 := Lib.hid row5
  clear bb z
  go_wp2_with fail
  exact bodyPost_ret (v := .tuple #[.agg #[.string t, .string (S.extract C S.size), .int .i64 q, .bool false], .int .i64 k, .int .i64 0]) (by simp [results, Tryd.results33, go_sem, c0, c1, c2, c3]) rfl ⟨rfl, (((B.out.setCell (Nat.le_refl _) _).setCell (Nat.le_refl _) _).setCell (Nat.le_refl _) _).setCell (Nat.le_refl _) _⟩
set_option maxHeartbeats 2000000 in
set_option maxRecDepth 100000 in
theorem rof_get (S : ByteArray) (q : Int) (l : List Nat) (w : World) (hq0 : 0 ≤ q) (hq2 : q ≤ 2) (hS : txtL S = l) (hSz : S.size ≤ 140737488351232) (t : ByteArray) (A E0 : Int) (hE : E0 ≠ 0) (GET : ∀ W v, BytesAt W v l → Calls Tryd.prog 69 #[v, .int .i64 0] W fun e w' => e = .returned (.tuple #[.string t, .int .i64 A, .int .i64 E0]) ∧ Below W.heap.size W w') :
    Calls Tryd.prog 40 #[.string S, .int .i64 q] w (OfPost (.agg #[.string ⟨#[]⟩, .string ⟨#[]⟩, .int .i64 0, .bool false]) 0 E0 w) := by
  obtain ⟨v, w1, hconv, a1, b1⟩ := bytes_of S (w.alloc (.cells #[.string ⟨#[]⟩, .string ⟨#[]⟩, .int .i64 0, .bool false] 27))
  rw [hS] at a1
  have hg : w.heap.size < w1.heap.size := by have := b1.size; simp at this; omega
  have row1 : w1.heap[w.heap.size]? = some (.cells #[.string ⟨#[]⟩, .string ⟨#[]⟩, .int .i64 0, .bool false] 27 (0, 0)) := by rw [b1.block _ (by simp)]; exact heap_alloc_new w _
  replace b1 := ext_trans (ext_alloc w _) b1
  replace GET := Lib.hid GET
  replace hS := Lib.hid hS
  replace row1 := Lib.hid row1
  replace b1 := Lib.hid b1
  have hS2 : (S.size : Int) ≤ 140737488351232 := by omega
  have HA := Lib.hid a1
  obtain ⟨x1, n1, rfl, -, -⟩ := a1
  have hb : (E0 != 0) = true := by simpa using hE
  clear hE
  go_enter Tryd.func40, Tryd.ntmps40
  go_wp2_with fail
  refine (GET.out _ _ HA.out).mono ?_
  rintro e w2 ⟨rfl, bb⟩
  have row2 : w2.heap[w.heap.size]? = some (.cells #[.string ⟨#[]⟩, .string ⟨#[]⟩, .int .i64 0, .bool false] 27 (0, 0)) := by rw [bb.block _ hg]; exact row1.out
  have hg2 : w.heap.size < w2.heap.size := by have := bb.size; omega
  have c0 := cell_of_row w2 w.heap.size 0 _ 27 (0, 0) row2
  have c1 := cell_of_row w2 w.heap.size 1 _ 27 (0, 0) row2
  have c2 := cell_of_row w2 w.heap.size 2 _ 27 (0, 0) row2
  have c3 := cell_of_row w2 w.heap.size 3 _ 27 (0, 0) row2
  have z := fun j => frozen_of_row w2 w.heap.size j _ 27 row2
  have z0 := z 0
  have z1 := z 1
  have z2 := z 2
  have z3 := z 3
  simp at c0 c1 c2 c3
  have B := Lib.hid (ext_trans b1.out bb)
  replace row2 := Lib.hid row2
  clear bb z
  go_wp2_with fail
  exact bodyPost_ret (v := .tuple #[.agg #[.string ⟨#[]⟩, .string ⟨#[]⟩, .int .i64 0, .bool false], .int .i64 0, .int .i64 E0]) (by simp [results, Tryd.results40, go_sem, c0, c1, c2, c3]) rfl ⟨rfl, (((B.out.setCell (Nat.le_refl _) _).setCell (Nat.le_refl _) _).setCell (Nat.le_refl _) _).setCell (Nat.le_refl _) _⟩
set_option maxHeartbeats 2000000 in
set_option maxRecDepth 100000 in
theorem rof_topic (S : ByteArray) (q : Int) (l : List Nat) (w : World) (hq0 : 0 ≤ q) (hq2 : q ≤ 2) (hS : txtL S = l) (hSz : S.size ≤ 140737488351232) (t : ByteArray) (A : Int) (ht : t.size ≤ 140737488351232) (htp : topicB t = false) (GET : ∀ W v, BytesAt W v l → Calls Tryd.prog 69 #[v, .int .i64 0] W fun e w' => e = .returned (.tuple #[.string t, .int .i64 A, .int .i64 0]) ∧ Below W.heap.size W w') :
    Calls Tryd.prog 40 #[.string S, .int .i64 q] w (OfPost (.agg #[.string ⟨#[]⟩, .string ⟨#[]⟩, .int .i64 0, .bool false]) 0 13 w) := by
  have T := fun w => named_any t w (by omega)
  rw [htp] at T
  replace T := Lib.hid T
  clear htp
  obtain ⟨v, w1, hconv, a1, b1⟩ := bytes_of S (w.alloc (.cells #[.string ⟨#[]⟩, .string ⟨#[]⟩, .int .i64 0, .bool false] 27))
  rw [hS] at a1
  have hg : w.heap.size < w1.heap.size := by have := b1.size; simp at this; omega
  have row1 : w1.heap[w.heap.size]? = some (.cells #[.string ⟨#[]⟩, .string ⟨#[]⟩, .int .i64 0, .bool false] 27 (0, 0)) := by rw [b1.block _ (by simp)]; exact heap_alloc_new w _
  replace b1 := ext_trans (ext_alloc w _) b1
  replace GET := Lib.hid GET
  replace hS := Lib.hid hS
  replace row1 := Lib.hid row1
  replace b1 := Lib.hid b1
  have hS2 : (S.size : Int) ≤ 140737488351232 := by omega
  have HA := Lib.hid a1
  obtain ⟨x1, n1, rfl, -, -⟩ := a1
  go_enter Tryd.func40, Tryd.ntmps40
  go_wp2_with fail
  refine (GET.out _ _ HA.out).mono ?_
  rintro e w2 ⟨rfl, b2⟩
  replace b2 := Lib.hid b2
  go_wp2_with fail
  refine (T.out _).mono ?_
  rintro e w3 ⟨rfl, rfl⟩
  have bb := b2.out
  have row3 : w2.heap[w.heap.size]? = some (.cells #[.string ⟨#[]⟩, .string ⟨#[]⟩, .int .i64 0, .bool false] 27 (0, 0)) := by rw [bb.block _ hg]; exact row1.out
  have hg3 : w.heap.size < w2.heap.size := by have := bb.size; omega
  have c0 := cell_of_row w2 w.heap.size 0 _ 27 (0, 0) row3
  have c1 := cell_of_row w2 w.heap.size 1 _ 27 (0, 0) row3
  have c2 := cell_of_row w2 w.heap.size 2 _ 27 (0, 0) row3
  have c3 := cell_of_row w2 w.heap.size 3 _ 27 (0, 0) row3
  have z := fun j => frozen_of_row w2 w.heap.size j _ 27 row3
  have z0 := z 0
  have z1 := z 1
  have z2 := z 2
  have z3 := z 3
  simp at c0 c1 c2 c3
  have B := Lib.hid (ext_trans b1.out bb)
  replace row3 := Lib.hid row3
  clear bb z
  go_wp2_with fail
  exact bodyPost_ret (v := .tuple #[.agg #[.string ⟨#[]⟩, .string ⟨#[]⟩, .int .i64 0, .bool false], .int .i64 0, .int .i64 13]) (by simp [results, Tryd.results40, go_sem, c0, c1, c2, c3]) rfl ⟨rfl, (((B.out.setCell (Nat.le_refl _) _).setCell (Nat.le_refl _) _).setCell (Nat.le_refl _) _).setCell (Nat.le_refl _) _⟩
set_option maxHeartbeats 2000000 in
set_option maxRecDepth 100000 in
theorem rof_num (S : ByteArray) (q : Int) (l : List Nat) (w : World) (hq0 : 0 ≤ q) (hq2 : q ≤ 2) (hS : txtL S = l) (hSz : S.size ≤ 140737488351232) (hqp : 0 < q) (t : ByteArray) (A k C E1 : Int) (ht : t.size ≤ 140737488351232) (htp : topicB t = true) (hE : E1 ≠ 0) (GET : ∀ W v, BytesAt W v l → Calls Tryd.prog 69 #[v, .int .i64 0] W fun e w' => e = .returned (.tuple #[.string t, .int .i64 A, .int .i64 0]) ∧ Below W.heap.size W w') (G2 : ∀ W v, BytesAt W v l → Calls Tryd.prog 70 #[v, .int .i64 A] W fun e w' => e = .returned (.tuple #[.int .i64 k, .int .i64 C, .int .i64 E1]) ∧ Below W.heap.size W w') :
    Calls Tryd.prog 40 #[.string S, .int .i64 q] w (OfPost (.agg #[.string ⟨#[]⟩, .string ⟨#[]⟩, .int .i64 0, .bool false]) 0 E1 w) := by
  have T := fun w => named_any t w (by omega)
  rw [htp] at T
  replace T := Lib.hid T
  clear htp
  obtain ⟨v, w1, hconv, a1, b1⟩ := bytes_of S (w.alloc (.cells #[.string ⟨#[]⟩, .string ⟨#[]⟩, .int .i64 0, .bool false] 27))
  rw [hS] at a1
  have hg : w.heap.size < w1.heap.size := by have := b1.size; simp at this; omega
  have row1 : w1.heap[w.heap.size]? = some (.cells #[.string ⟨#[]⟩, .string ⟨#[]⟩, .int .i64 0, .bool false] 27 (0, 0)) := by rw [b1.block _ (by simp)]; exact heap_alloc_new w _
  replace b1 := ext_trans (ext_alloc w _) b1
  replace GET := Lib.hid GET
  replace hS := Lib.hid hS
  replace row1 := Lib.hid row1
  replace b1 := Lib.hid b1
  have hS2 : (S.size : Int) ≤ 140737488351232 := by omega
  have HA := Lib.hid a1
  obtain ⟨x1, n1, rfl, -, -⟩ := a1
  replace G2 := Lib.hid G2
  have hb : (E1 != 0) = true := by simpa using hE
  clear hE
  go_enter Tryd.func40, Tryd.ntmps40
  go_wp2_with fail
  refine (GET.out _ _ HA.out).mono ?_
  rintro e w2 ⟨rfl, b2⟩
  have A2 := Lib.hid (HA.out.keep b2 (Nat.le_refl _))
  replace b2 := Lib.hid b2
  go_wp2_with fail
  refine (T.out _).mono ?_
  rintro e w3 ⟨rfl, rfl⟩
  go_wp2_with fail
  refine (G2.out _ _ A2.out).mono ?_
  rintro e w5 ⟨rfl, b8⟩
  have A5 := Lib.hid (A2.out.keep b8 (Nat.le_refl _))
  have bb := ext_trans b2.out b8
  clear b8
  have row5 : w5.heap[w.heap.size]? = some (.cells #[.string ⟨#[]⟩, .string ⟨#[]⟩, .int .i64 0, .bool false] 27 (0, 0)) := by rw [bb.block _ hg]; exact row1.out
  have hg5 : w.heap.size < w5.heap.size := by have := bb.size; omega
  have c0 := cell_of_row w5 w.heap.size 0 _ 27 (0, 0) row5
  have c1 := cell_of_row w5 w.heap.size 1 _ 27 (0, 0) row5
  have c2 := cell_of_row w5 w.heap.size 2 _ 27 (0, 0) row5
  have c3 := cell_of_row w5 w.heap.size 3 _ 27 (0, 0) row5
  have z := fun j => frozen_of_row w5 w.heap.size j _ 27 row5
  have z0 := z 0
  have z1 := z 1
  have z2 := z 2
  have z3 := z 3
  simp at c0 c1 c2 c3
  have B := Lib.hid (ext_trans b1.out bb)
  replace row5 := Lib.hid row5
  clear bb z
  go_wp2_with fail
  exact bodyPost_ret (v := .tuple #[.agg #[.string ⟨#[]⟩, .string ⟨#[]⟩, .int .i64 0, .bool false], .int .i64 0, .int .i64 E1]) (by simp [results, Tryd.results40, go_sem, c0, c1, c2, c3]) rfl ⟨rfl, (((B.out.setCell (Nat.le_refl _) _).setCell (Nat.le_refl _) _).setCell (Nat.le_refl _) _).setCell (Nat.le_refl _) _⟩
set_option maxHeartbeats 2000000 in
set_option maxRecDepth 100000 in
theorem rof_nul (S : ByteArray) (q : Int) (l : List Nat) (w : World) (hq0 : 0 ≤ q) (hq2 : q ≤ 2) (hS : txtL S = l) (hSz : S.size ≤ 140737488351232) (hqp : 0 < q) (t : ByteArray) (A C : Int) (ht : t.size ≤ 140737488351232) (htp : topicB t = true) (GET : ∀ W v, BytesAt W v l → Calls Tryd.prog 69 #[v, .int .i64 0] W fun e w' => e = .returned (.tuple #[.string t, .int .i64 A, .int .i64 0]) ∧ Below W.heap.size W w') (G2 : ∀ W v, BytesAt W v l → Calls Tryd.prog 70 #[v, .int .i64 A] W fun e w' => e = .returned (.tuple #[.int .i64 0, .int .i64 C, .int .i64 0]) ∧ Below W.heap.size W w') :
    Calls Tryd.prog 40 #[.string S, .int .i64 q] w (OfPost (.agg #[.string ⟨#[]⟩, .string ⟨#[]⟩, .int .i64 0, .bool false]) 0 1 w) := by
  have T := fun w => named_any t w (by omega)
  rw [htp] at T
  replace T := Lib.hid T
  clear htp
  obtain ⟨v, w1, hconv, a1, b1⟩ := bytes_of S (w.alloc (.cells #[.string ⟨#[]⟩, .string ⟨#[]⟩, .int .i64 0, .bool false] 27))
  rw [hS] at a1
  have hg : w.heap.size < w1.heap.size := by have := b1.size; simp at this; omega
  have row1 : w1.heap[w.heap.size]? = some (.cells #[.string ⟨#[]⟩, .string ⟨#[]⟩, .int .i64 0, .bool false] 27 (0, 0)) := by rw [b1.block _ (by simp)]; exact heap_alloc_new w _
  replace b1 := ext_trans (ext_alloc w _) b1
  replace GET := Lib.hid GET
  replace hS := Lib.hid hS
  replace row1 := Lib.hid row1
  replace b1 := Lib.hid b1
  have hS2 : (S.size : Int) ≤ 140737488351232 := by omega
  have HA := Lib.hid a1
  obtain ⟨x1, n1, rfl, -, -⟩ := a1
  replace G2 := Lib.hid G2
  go_enter Tryd.func40, Tryd.ntmps40
  go_wp2_with fail
  refine (GET.out _ _ HA.out).mono ?_
  rintro e w2 ⟨rfl, b2⟩
  have A2 := Lib.hid (HA.out.keep b2 (Nat.le_refl _))
  replace b2 := Lib.hid b2
  go_wp2_with fail
  refine (T.out _).mono ?_
  rintro e w3 ⟨rfl, rfl⟩
  go_wp2_with fail
  refine (G2.out _ _ A2.out).mono ?_
  rintro e w5 ⟨rfl, b8⟩
  have A5 := Lib.hid (A2.out.keep b8 (Nat.le_refl _))
  have bb := ext_trans b2.out b8
  clear b8
  have row5 : w5.heap[w.heap.size]? = some (.cells #[.string ⟨#[]⟩, .string ⟨#[]⟩, .int .i64 0, .bool false] 27 (0, 0)) := by rw [bb.block _ hg]; exact row1.out
  have hg5 : w.heap.size < w5.heap.size := by have := bb.size; omega
  have c0 := cell_of_row w5 w.heap.size 0 _ 27 (0, 0) row5
  have c1 := cell_of_row w5 w.heap.size 1 _ 27 (0, 0) row5
  have c2 := cell_of_row w5 w.heap.size 2 _ 27 (0, 0) row5
  have c3 := cell_of_row w5 w.heap.size 3 _ 27 (0, 0) row5
  have z := fun j => frozen_of_row w5 w.heap.size j _ 27 row5
  have z0 := z 0
  have z1 := z 1
  have z2 := z 2
  have z3 := z 3
  simp at c0 c1 c2 c3
  have B := Lib.hid (ext_trans b1.out bb)
  replace row5 := Lib.hid row5
  clear bb z
  go_wp2_with fail
  exact bodyPost_ret (v := .tuple #[.agg #[.string ⟨#[]⟩, .string ⟨#[]⟩, .int .i64 0, .bool false], .int .i64 0, .int .i64 1]) (by simp [results, Tryd.results40, go_sem, c0, c1, c2, c3]) rfl ⟨rfl, (((B.out.setCell (Nat.le_refl _) _).setCell (Nat.le_refl _) _).setCell (Nat.le_refl _) _).setCell (Nat.le_refl _) _⟩
end Go.Proofs.YtmpklaokgogigaaDoor.Pub

/-
  LAYER 14: Of, the document's, of any bytes that are a message.
-/
namespace Go.Proofs.YtmpklaokgogigaaDoor.Pub
set_option linter.unusedSimpArgs false
set_option linter.unusedVariables false
open Go.RowKit

theorem bytes_of2 (s : ByteArray) (w : World) : ∃ g n cap w', (convert 9 48 (.string s)).run Tryd.prog w = .ok (.slice (some ⟨g, 0, none⟩) n cap) w' ∧ n = s.size ∧ BytesAt w' (.slice (some ⟨g, 0, none⟩) n cap) (txtL s) ∧ n ≤ cap ∧ Below w.heap.size w w' := by
  obtain ⟨v, w', h, a, b⟩ := bytes_of s w
  have h2 := run_bytes_of_string (P := Tryd.prog) w 9 48 5 s Tryd.underlying9 Tryd.underlying48 Tryd.underlying5
  rw [h] at h2
  simp only [Result.ok.injEq] at h2
  obtain ⟨rfl, rfl⟩ := h2
  exact ⟨_, _, _, _, h, rfl, a, grownCap_ge _ _ _ _, b⟩
theorem strB_cut (s : ByteArray) (C : Nat) (h : C ≤ s.size) : strB ((txtL s).drop C) = s.extract C s.size := by
  have e : s = strB ((txtL s).take C ++ txtL (s.extract C s.size)) := by
    have : (txtL s).take C ++ txtL (s.extract C s.size) = txtL s := by
      have hx : txtL (s.extract C s.size) = (txtL s).drop C := by
        unfold txtL
        rw [ByteArray.data_extract, Array.toList_extract, List.extract_eq_take_drop, List.map_take, List.map_drop]
        exact List.take_of_length_le (by rw [List.length_drop, List.length_map, Array.length_toList]; exact Nat.le_refl _)
      rw [hx, List.take_append_drop]
    rw [this, strB_txt]
  have hx : txtL (s.extract C s.size) = (txtL s).drop C := by
    unfold txtL
    rw [ByteArray.data_extract, Array.toList_extract, List.extract_eq_take_drop, List.map_take, List.map_drop]
    exact List.take_of_length_le (by rw [List.length_drop, List.length_map, Array.length_toList]; exact Nat.le_refl _)
  rw [← hx, strB_txt]
theorem cut_conv {W : World} {g n cap C : Nat} {l : List Nat} {X : ByteArray} (h : BytesAt W (.slice (some ⟨g, 0, none⟩) n cap) l) (hn : l.length = n) (hC : C < cap) (hCl : C ≤ n) (hX : strB (l.drop C) = X) :
    (convert 48 9 (.slice (some ⟨g, C, none⟩) (n - C) (cap - C))).run Tryd.prog W = .ok (.string X) W := by
  obtain ⟨_, cap', hv, ⟨h1, _⟩, _⟩ := id h
  simp only [Value.slice.injEq] at hv
  obtain ⟨_, _, rfl⟩ := hv
  have := (h.sub C (n - C) (cap - C) (by omega) (by omega)).conv (P := Tryd.prog) Tryd.underlying48 Tryd.underlying5 Tryd.underlying9
  rw [Nat.zero_add, List.take_of_length_le (by rw [List.length_drop]; omega), hX] at this
  exact this
theorem cut_same {W : World} {g C : Nat} {l : List Nat} {X : ByteArray} (h : BytesAt W (.slice (some ⟨g, 0, none⟩) C C) l) (hX : strB (l.drop C) = X) (hn : l.length = C) :
    (convert 48 9 (.slice (some ⟨g, 0, none⟩) 0 0)).run Tryd.prog W = .ok (.string X) W := by
  have e : l.drop C = [] := List.drop_eq_nil_of_le (by omega)
  rw [e] at hX
  have hB : BytesAt W (.slice (some ⟨g, 0, none⟩) 0 0) [] := ⟨some ⟨g, 0, none⟩, 0, rfl, ⟨by simp, fun h => by cases h⟩, .inl rfl⟩
  rw [← hX]
  exact hB.conv (P := Tryd.prog) Tryd.underlying48 Tryd.underlying5 Tryd.underlying9
set_option maxHeartbeats 2000000 in
set_option maxRecDepth 100000 in
theorem rof_ok0 (S : ByteArray) (l : List Nat) (w : World) (hS : txtL S = l) (hSz : S.size ≤ 140737488351232) (t : ByteArray) (C : Nat) (ht : t.size ≤ 140737488351232) (htp : topicB t = true) (hC : C ≤ S.size) (GET : ∀ W v, BytesAt W v l → Calls Tryd.prog 69 #[v, .int .i64 0] W fun e w' => e = .returned (.tuple #[.string t, .int .i64 C, .int .i64 0]) ∧ Below W.heap.size W w') :
    Calls Tryd.prog 40 #[.string S, .int .i64 0] w (OfPost (.agg #[.string t, .string (S.extract C S.size), .int .i64 0, .bool false]) 0 0 w) := by
  have T := fun w => named_any t w (by omega)
  rw [htp] at T
  replace T := Lib.hid T
  clear htp
  obtain ⟨g, n, cap, w1, hconv, hn, a1, hcp, b1⟩ := bytes_of2 S (w.alloc (.cells #[.string ⟨#[]⟩, .string ⟨#[]⟩, .int .i64 0, .bool false] 27))
  rw [hS] at a1
  have hg : w.heap.size < w1.heap.size := by have := b1.size; simp at this; omega
  have row1 : w1.heap[w.heap.size]? = some (.cells #[.string ⟨#[]⟩, .string ⟨#[]⟩, .int .i64 0, .bool false] 27 (0, 0)) := by rw [b1.block _ (by simp)]; exact heap_alloc_new w _
  replace b1 := ext_trans (ext_alloc w _) b1
  have hXd : strB (l.drop C) = S.extract C S.size := by rw [← hS]; exact strB_cut S C hC
  have hln : l.length = n := by rw [← hS, txtL_length, hn]
  obtain ⟨X, hX⟩ : ∃ X, S.extract C S.size = X := ⟨_, rfl⟩
  rw [hX] at hXd ⊢
  have hCn : C ≤ n := by omega
  have hn2 : n ≤ 140737488351232 := by omega
  have hn3 : (n : Int) ≤ 140737488351232 := by omega
  have hCn' : (C : Int) ≤ n := by omega
  have hcp' : (n : Int) ≤ cap := by omega
  replace GET := Lib.hid GET
  replace hS := Lib.hid hS
  replace row1 := Lib.hid row1
  replace b1 := Lib.hid b1
  replace hXd := Lib.hid hXd
  replace hX := Lib.hid hX
  replace hn := Lib.hid hn
  replace hln := Lib.hid hln
  have HA := Lib.hid a1
  clear a1
  by_cases hcc : cap = C
  · have hnC : n = C := by omega
    subst hnC
    subst hcc
    go_enter Tryd.func40, Tryd.ntmps40
    go_wp2_with fail
    refine (GET.out _ _ HA.out).mono ?_
    rintro e w2 ⟨rfl, b2⟩
    have A2 := Lib.hid (HA.out.keep b2 (Nat.le_refl _))
    have b2' := Lib.hid b2
    clear b2
    go_wp2_with fail
    refine (T.out _).mono ?_
    rintro e w3 ⟨rfl, rfl⟩
    have A5 := A2
    have bb := b2'.out
    have row5 : w2.heap[w.heap.size]? = some (.cells #[.string ⟨#[]⟩, .string ⟨#[]⟩, .int .i64 0, .bool false] 27 (0, 0)) := by rw [bb.block _ hg]; exact row1.out
    have hg5 : w.heap.size < w2.heap.size := by have := bb.size; omega
    have c0 := cell_of_row w2 w.heap.size 0 _ 27 (0, 0) row5
    have c1 := cell_of_row w2 w.heap.size 1 _ 27 (0, 0) row5
    have c2 := cell_of_row w2 w.heap.size 2 _ 27 (0, 0) row5
    have c3 := cell_of_row w2 w.heap.size 3 _ 27 (0, 0) row5
    have z := fun j => frozen_of_row w2 w.heap.size j _ 27 row5
    have z0 := z 0
    have z1 := z 1
    have z2 := z 2
    have z3 := z 3
    simp at c0 c1 c2 c3
    have B := Lib.hid (ext_trans b1.out bb)
    replace row5 := Lib.hid row5
    clear bb z
    have kc := cut_same A5.out hXd.out hln.out
    go_wp2_with fail
    exact bodyPost_ret (v := .tuple #[.agg #[.string t, .string X, .int .i64 0, .bool false], .int .i64 0, .int .i64 0]) (by simp [results, Tryd.results40, go_sem, c0, c1, c2, c3]) rfl ⟨rfl, (((B.out.setCell (Nat.le_refl _) _).setCell (Nat.le_refl _) _).setCell (Nat.le_refl _) _).setCell (Nat.le_refl _) _⟩

  · have hcc : C < cap := by omega
    have hcc' : (C : Int) < cap := by omega
    go_enter Tryd.func40, Tryd.ntmps40
    go_wp2_with fail
    refine (GET.out _ _ HA.out).mono ?_
    rintro e w2 ⟨rfl, b2⟩
    have A2 := Lib.hid (HA.out.keep b2 (Nat.le_refl _))
    have b2' := Lib.hid b2
    clear b2
    go_wp2_with fail
    refine (T.out _).mono ?_
    rintro e w3 ⟨rfl, rfl⟩
    have A5 := A2
    have bb := b2'.out
    have row5 : w2.heap[w.heap.size]? = some (.cells #[.string ⟨#[]⟩, .string ⟨#[]⟩, .int .i64 0, .bool false] 27 (0, 0)) := by rw [bb.block _ hg]; exact row1.out
    have hg5 : w.heap.size < w2.heap.size := by have := bb.size; omega
    have c0 := cell_of_row w2 w.heap.size 0 _ 27 (0, 0) row5
    have c1 := cell_of_row w2 w.heap.size 1 _ 27 (0, 0) row5
    have c2 := cell_of_row w2 w.heap.size 2 _ 27 (0, 0) row5
    have c3 := cell_of_row w2 w.heap.size 3 _ 27 (0, 0) row5
    have z := fun j => frozen_of_row w2 w.heap.size j _ 27 row5
    have z0 := z 0
    have z1 := z 1
    have z2 := z 2
    have z3 := z 3
    simp at c0 c1 c2 c3
    have B := Lib.hid (ext_trans b1.out bb)
    replace row5 := Lib.hid row5
    clear bb z
    have kc := cut_conv A5.out hln.out hcc hCn hXd.out
    go_wp2_with fail
    exact bodyPost_ret (v := .tuple #[.agg #[.string t, .string X, .int .i64 0, .bool false], .int .i64 0, .int .i64 0]) (by simp [results, Tryd.results40, go_sem, c0, c1, c2, c3]) rfl ⟨rfl, (((B.out.setCell (Nat.le_refl _) _).setCell (Nat.le_refl _) _).setCell (Nat.le_refl _) _).setCell (Nat.le_refl _) _⟩

set_option maxHeartbeats 2000000 in
set_option maxRecDepth 100000 in
theorem rof_okP (S : ByteArray) (q : Int) (l : List Nat) (w : World) (hq0 : 0 ≤ q) (hq2 : q ≤ 2) (hS : txtL S = l) (hSz : S.size ≤ 140737488351232) (t : ByteArray) (k A : Int) (C : Nat) (hqp : 0 < q) (hk : k ≠ 0) (ht : t.size ≤ 140737488351232) (htp : topicB t = true) (hC : C ≤ S.size) (GET : ∀ W v, BytesAt W v l → Calls Tryd.prog 69 #[v, .int .i64 0] W fun e w' => e = .returned (.tuple #[.string t, .int .i64 A, .int .i64 0]) ∧ Below W.heap.size W w') (G2 : ∀ W v, BytesAt W v l → Calls Tryd.prog 70 #[v, .int .i64 A] W fun e w' => e = .returned (.tuple #[.int .i64 k, .int .i64 C, .int .i64 0]) ∧ Below W.heap.size W w') :
    Calls Tryd.prog 40 #[.string S, .int .i64 q] w (OfPost (.agg #[.string t, .string (S.extract C S.size), .int .i64 q, .bool false]) k 0 w) := by
  have T := fun w => named_any t w (by omega)
  rw [htp] at T
  replace T := Lib.hid T
  clear htp
  obtain ⟨g, n, cap, w1, hconv, hn, a1, hcp, b1⟩ := bytes_of2 S (w.alloc (.cells #[.string ⟨#[]⟩, .string ⟨#[]⟩, .int .i64 0, .bool false] 27))
  rw [hS] at a1
  have hg : w.heap.size < w1.heap.size := by have := b1.size; simp at this; omega
  have row1 : w1.heap[w.heap.size]? = some (.cells #[.string ⟨#[]⟩, .string ⟨#[]⟩, .int .i64 0, .bool false] 27 (0, 0)) := by rw [b1.block _ (by simp)]; exact heap_alloc_new w _
  replace b1 := ext_trans (ext_alloc w _) b1
  have hXd : strB (l.drop C) = S.extract C S.size := by rw [← hS]; exact strB_cut S C hC
  have hln : l.length = n := by rw [← hS, txtL_length, hn]
  obtain ⟨X, hX⟩ : ∃ X, S.extract C S.size = X := ⟨_, rfl⟩
  rw [hX] at hXd ⊢
  have hCn : C ≤ n := by omega
  have hn2 : n ≤ 140737488351232 := by omega
  have hn3 : (n : Int) ≤ 140737488351232 := by omega
  have hCn' : (C : Int) ≤ n := by omega
  have hcp' : (n : Int) ≤ cap := by omega
  replace GET := Lib.hid GET
  replace hS := Lib.hid hS
  replace row1 := Lib.hid row1
  replace b1 := Lib.hid b1
  replace hXd := Lib.hid hXd
  replace hX := Lib.hid hX
  replace hn := Lib.hid hn
  replace hln := Lib.hid hln
  have HA := Lib.hid a1
  clear a1
  replace G2 := Lib.hid G2
  have hqb : (q == 0) = false := beq_eq_false_iff_ne.2 (by omega)
  have hkb : (k == 0) = false := beq_eq_false_iff_ne.2 hk
  clear hk
  by_cases hcc : cap = C
  · have hnC : n = C := by omega
    subst hnC
    subst hcc
    go_enter Tryd.func40, Tryd.ntmps40
    go_wp2_with fail
    refine (GET.out _ _ HA.out).mono ?_
    rintro e w2 ⟨rfl, b2⟩
    have A2 := Lib.hid (HA.out.keep b2 (Nat.le_refl _))
    have b2' := Lib.hid b2
    clear b2
    go_wp2_with fail
    refine (T.out _).mono ?_
    rintro e w3 ⟨rfl, rfl⟩
    go_wp2_with fail
    refine (G2.out _ _ A2.out).mono ?_
    rintro e w5 ⟨rfl, b8⟩
    have A5 := Lib.hid (A2.out.keep b8 (Nat.le_refl _))
    have bb := ext_trans b2'.out b8
    clear b8
    have row5 : w5.heap[w.heap.size]? = some (.cells #[.string ⟨#[]⟩, .string ⟨#[]⟩, .int .i64 0, .bool false] 27 (0, 0)) := by rw [bb.block _ hg]; exact row1.out
    have hg5 : w.heap.size < w5.heap.size := by have := bb.size; omega
    have c0 := cell_of_row w5 w.heap.size 0 _ 27 (0, 0) row5
    have c1 := cell_of_row w5 w.heap.size 1 _ 27 (0, 0) row5
    have c2 := cell_of_row w5 w.heap.size 2 _ 27 (0, 0) row5
    have c3 := cell_of_row w5 w.heap.size 3 _ 27 (0, 0) row5
    have z := fun j => frozen_of_row w5 w.heap.size j _ 27 row5
    have z0 := z 0
    have z1 := z 1
    have z2 := z 2
    have z3 := z 3
    simp at c0 c1 c2 c3
    have B := Lib.hid (ext_trans b1.out bb)
    replace row5 := Lib.hid row5
    clear bb z
    have kc := cut_same A5.out hXd.out hln.out
    go_wp2_with fail
    exact bodyPost_ret (v := .tuple #[.agg #[.string t, .string X, .int .i64 q, .bool false], .int .i64 k, .int .i64 0]) (by simp [results, Tryd.results40, go_sem, c0, c1, c2, c3]) rfl ⟨rfl, (((B.out.setCell (Nat.le_refl _) _).setCell (Nat.le_refl _) _).setCell (Nat.le_refl _) _).setCell (Nat.le_refl _) _⟩

  · have hcc : C < cap := by omega
    have hcc' : (C : Int) < cap := by omega
    go_enter Tryd.func40, Tryd.ntmps40
    go_wp2_with fail
    refine (GET.out _ _ HA.out).mono ?_
    rintro e w2 ⟨rfl, b2⟩
    have A2 := Lib.hid (HA.out.keep b2 (Nat.le_refl _))
    have b2' := Lib.hid b2
    clear b2
    go_wp2_with fail
    refine (T.out _).mono ?_
    rintro e w3 ⟨rfl, rfl⟩
    go_wp2_with fail
    refine (G2.out _ _ A2.out).mono ?_
    rintro e w5 ⟨rfl, b8⟩
    have A5 := Lib.hid (A2.out.keep b8 (Nat.le_refl _))
    have bb := ext_trans b2'.out b8
    clear b8
    have row5 : w5.heap[w.heap.size]? = some (.cells #[.string ⟨#[]⟩, .string ⟨#[]⟩, .int .i64 0, .bool false] 27 (0, 0)) := by rw [bb.block _ hg]; exact row1.out
    have hg5 : w.heap.size < w5.heap.size := by have := bb.size; omega
    have c0 := cell_of_row w5 w.heap.size 0 _ 27 (0, 0) row5
    have c1 := cell_of_row w5 w.heap.size 1 _ 27 (0, 0) row5
    have c2 := cell_of_row w5 w.heap.size 2 _ 27 (0, 0) row5
    have c3 := cell_of_row w5 w.heap.size 3 _ 27 (0, 0) row5
    have z := fun j => frozen_of_row w5 w.heap.size j _ 27 row5
    have z0 := z 0
    have z1 := z 1
    have z2 := z 2
    have z3 := z 3
    simp at c0 c1 c2 c3
    have B := Lib.hid (ext_trans b1.out bb)
    replace row5 := Lib.hid row5
    clear bb z
    have kc := cut_conv A5.out hln.out hcc hCn hXd.out
    go_wp2_with fail
    exact bodyPost_ret (v := .tuple #[.agg #[.string t, .string X, .int .i64 q, .bool false], .int .i64 k, .int .i64 0]) (by simp [results, Tryd.results40, go_sem, c0, c1, c2, c3]) rfl ⟨rfl, (((B.out.setCell (Nat.le_refl _) _).setCell (Nat.le_refl _) _).setCell (Nat.le_refl _) _).setCell (Nat.le_refl _) _⟩

end Go.Proofs.YtmpklaokgogigaaDoor.Pub

/-
  LAYER 14: any bytes as a message: both sides alike, and the law's walk.
-/
namespace Go.Proofs.YtmpklaokgogigaaDoor.Pub
set_option linter.unusedSimpArgs false
set_option linter.unusedVariables false
open Go.RowKit

theorem get_ok {l : List Nat} (h256 : ∀ x ∈ l, x < 256) (h : (getV l 0).2.2 = 0) : ∃ (t : ByteArray) (A : Nat), getV l 0 = (t, (A : Int), 0) ∧ A ≤ l.length ∧ t.size ≤ 65535 := by
  have hraw : (rawV l 0).2.2 = 0 ∧ getV l 0 = rawV l 0 := by
    unfold getV at h ⊢
    split at h
    · exact absurd h (by decide)
    · rename_i hn; rw [if_neg hn]; exact ⟨h, rfl⟩
  obtain ⟨h0, he⟩ := hraw
  rw [he]
  unfold rawV at h0 ⊢
  split at h0
  · rename_i h1; exact absurd h0 h1
  · rename_i h1
    obtain ⟨k, m, hk, hkl, hm, e⟩ := get2_ok (by simpa using h1) h256
    split at h0
    · exact absurd h0 (by decide)
    · rename_i h2
      rw [if_neg h1, if_neg h2, e]
      rw [e] at h2
      simp only at h2
      refine ⟨_, k + 2 + m, rfl, by omega, ?_⟩
      rw [strB_size, List.length_take]
      simp only [Int.toNat_natCast]
      omega
set_option maxRecDepth 100000 in
theorem getid_err (v : Value) (l : List Nat) (a E : Int) (w : World) (hb : BytesAt w v l) (hl : l.length ≤ 140737488355328) (h256 : ∀ x ∈ l, x < 256) (ha : -9223372036854775808 ≤ a ∧ a ≤ 9223372036854775807) (hE : E ≠ 0) (hg : (get2V l a).2.2 = E) :
    Calls Tryd.prog 64 #[v, .int .i64 a] w fun e w' => e = .returned (.tuple #[.int .i64 (get2V l a).1, .int .i64 (get2V l a).2.1, .int .i64 E]) ∧ Below w.heap.size w w' := by
  have G := get2_any v l a w hb h256 hl ha
  rw [hg] at G
  generalize (get2V l a).1 = y1 at *
  generalize (get2V l a).2.1 = y2 at *
  obtain ⟨x, cap, rfl, -, -⟩ := hb
  replace G := Lib.hid G
  have hz : (E == 0) = false := beq_eq_false_iff_ne.2 hE
  clear hg h256 hE
  go_enter Tryd.func64, Tryd.ntmps64
  go_wp2_with fail
  refine (G.out).mono ?_
  rintro e w' ⟨rfl, n, rfl⟩
  go_wp2_with fail
  go_ret3
  exact ⟨rfl, below_drewN (Below.refl _ _) n⟩
set_option maxRecDepth 100000 in
theorem getid_nul (v : Value) (l : List Nat) (a to : Int) (w : World) (hb : BytesAt w v l) (hl : l.length ≤ 140737488355328) (h256 : ∀ x ∈ l, x < 256) (ha : -9223372036854775808 ≤ a ∧ a ≤ 9223372036854775807) (hg : get2V l a = (0, to, 0)) :
    Calls Tryd.prog 64 #[v, .int .i64 a] w fun e w' => e = .returned (.tuple #[.int .i64 0, .int .i64 0, .int .i64 1]) ∧ Below w.heap.size w w' := by
  have G := get2_any v l a w hb h256 hl ha
  rw [hg] at G
  simp only at G
  obtain ⟨x, cap, rfl, -, -⟩ := hb
  replace G := Lib.hid G
  clear hg h256
  go_enter Tryd.func64, Tryd.ntmps64
  go_wp2_with fail
  refine (G.out).mono ?_
  rintro e w' ⟨rfl, n, rfl⟩
  go_wp2_with fail
  go_ret3
  exact ⟨rfl, below_drewN (Below.refl _ _) n⟩
theorem rget2_b (v : Value) (l : List Nat) (a : Int) (w : World) (hb : BytesAt w v l) (hl : l.length ≤ 140737488355328) (h256 : ∀ x ∈ l, x < 256) (ha : -9223372036854775808 ≤ a ∧ a ≤ 9223372036854775807) :
    Calls Tryd.prog 70 #[v, .int .i64 a] w fun e w' => e = .returned (.tuple #[.int .i64 (get2V l a).1, .int .i64 (get2V l a).2.1, .int .i64 (get2V l a).2.2]) ∧ Below w.heap.size w w' :=
  (rget2_any v l a w hb h256 hl ha).mono fun _ _ ⟨he, n, hw⟩ => ⟨he, by rw [hw]; exact below_drewN (Below.refl _ _) n⟩
theorem ofs (S : ByteArray) (q : Int) (hS : S.size ≤ 140737488351232) : ∃ (t x : ByteArray) (q' id err : Int),
    (∀ w, Calls Tryd.prog 33 #[.string S, .int .i64 q] w (OfPost (.agg #[.string t, .string x, .int .i64 q', .bool false]) id err w)) ∧
    (∀ w, Calls Tryd.prog 40 #[.string S, .int .i64 q] w (OfPost (.agg #[.string t, .string x, .int .i64 q', .bool false]) id err w)) := by
  by_cases hq : q < 0 ∨ 2 < q
  · exact ⟨_, _, _, _, _, fun w => of_qos S q w hq, fun w => rof_qos S q w hq⟩
  have q0 : 0 ≤ q := by omega
  have q2 : q ≤ 2 := by omega
  have h256 := txt_lt S
  have hl : (txtL S).length ≤ 140737488355328 := by rw [txtL_length]; omega
  have hlen := txtL_length S
  have G1 := fun W v (hb : BytesAt W v (txtL S)) => get_any v _ 0 W hb h256 hl (by decide)
  have G2 := fun W v (hb : BytesAt W v (txtL S)) => rget_any v _ 0 W hb h256 hl (by decide)
  by_cases hE : (getV (txtL S) 0).2.2 = 0
  · obtain ⟨t, A, eg, hA, ht⟩ := get_ok h256 hE
    rw [eg] at G1 G2
    cases htp : topicB t
    · exact ⟨_, _, _, _, _, fun w => of_topic S q _ w q0 q2 rfl hS t A (by omega) htp G1, fun w => rof_topic S q _ w q0 q2 rfl hS t A (by omega) htp G2⟩
    by_cases hz : q = 0
    · subst hz
      exact ⟨_, _, _, _, _, fun w => of_ok0 S 0 _ w q0 q2 rfl hS t A 0 A (by omega) htp (by omega) G1 number_0 field_10 (fun W v _ => none_at v _ W), fun w => rof_ok0 S _ w rfl hS t A (by omega) htp (by omega) G2⟩
    · have qp : 0 < q := by omega
      have NB := fun w => number_pos q w qp
      have R := fun W v (hb : BytesAt W v (txtL S)) => rget2_b v _ A W hb hl h256 (by omega)
      by_cases hE1 : (get2V (txtL S) A).2.2 = 0
      · obtain ⟨k0, m, hk0, hkl, hm, e2⟩ := get2_ok hE1 h256
        rw [e2] at R
        by_cases hm0 : m = 0
        · subst hm0
          exact ⟨_, _, _, _, _, fun w => of_num S q _ w q0 q2 rfl hS t A 0 0 1 (by omega) htp (by decide) G1 NB field_1P (fun W v hb => getid_nul v _ A _ W hb hl h256 (by omega) e2), fun w => rof_nul S q _ w q0 q2 rfl hS qp t A _ (by omega) htp G2 R⟩
        · exact ⟨_, _, _, _, _, fun w => of_okP S q _ w q0 q2 rfl hS t A m (k0 + 2) (by omega) htp (by omega) G1 NB field_1P (fun W v hb => getid_at v _ A m _ W hb hl h256 (by omega) (by omega) e2), fun w => rof_okP S q _ w q0 q2 rfl hS t m A (k0 + 2) qp (by omega) (by omega) htp (by omega) G2 R⟩
      · exact ⟨_, _, _, _, _, fun w => of_num S q _ w q0 q2 rfl hS t A _ _ _ (by omega) htp hE1 G1 NB field_1P (fun W v hb => getid_err v _ A _ W hb hl h256 (by omega) hE1 rfl), fun w => rof_num S q _ w q0 q2 rfl hS qp t A _ _ _ (by omega) htp hE1 G2 R⟩
  · exact ⟨_, _, _, _, _, fun w => of_get S q _ w q0 q2 rfl hS _ _ _ hE G1, fun w => rof_get S q _ w q0 q2 rfl hS _ _ _ hE G2⟩
end Go.Proofs.YtmpklaokgogigaaDoor.Pub
