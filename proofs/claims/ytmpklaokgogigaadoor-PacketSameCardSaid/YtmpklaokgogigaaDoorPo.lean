/-
  LAYER 14: Of, the document's, of any bytes that are a message.
-/
import Derived.Test.YtmpklaokgogigaaDoorPn
namespace Go.Proofs.YtmpklaokgogigaaDoor.Pub
set_option linter.unusedSimpArgs false
set_option linter.unusedVariables false
open Go.RowKit

theorem bytes_of2 (s : ByteArray) (w : World) : ∃ g n cap w', (convert 9 48 (.string s)).run Tryd.prog w = .ok (.slice (some ⟨g, 0, none⟩) n cap) w' ∧ n = s.size ∧ BytesAt w' (.slice (some ⟨g, 0, none⟩) n cap) (txtL s) ∧ n ≤ cap ∧ Below w.heap.size w w' := by
  obtain ⟨v, w', h, a, b⟩ := bytes_of s w
  have h2 := run_bytes_of_string (P := Tryd.prog) w 9 48 5 s Tryd.underlying9 Tryd.underlying48 Tryd.underlying5
  rw [h] at h2
  simp only [Result.ok.injEq] at h2
  obtain ⟨rfl, rfl⟩ := h2
  exact ⟨_, _, _, _, h, rfl, a, grownCap_ge _ _ _ _, b⟩
theorem strB_cut (s : ByteArray) (C : Nat) (h : C ≤ s.size) : strB ((txtL s).drop C) = s.extract C s.size := by
  have e : s = strB ((txtL s).take C ++ txtL (s.extract C s.size)) := by
    have : (txtL s).take C ++ txtL (s.extract C s.size) = txtL s := by
      have hx : txtL (s.extract C s.size) = (txtL s).drop C := by
        unfold txtL
        rw [ByteArray.data_extract, Array.toList_extract, List.extract_eq_take_drop, List.map_take, List.map_drop]
        exact List.take_of_length_le (by rw [List.length_drop, List.length_map, Array.length_toList]; exact Nat.le_refl _)
      rw [hx, List.take_append_drop]
    rw [this, strB_txt]
  have hx : txtL (s.extract C s.size) = (txtL s).drop C := by
    unfold txtL
    rw [ByteArray.data_extract, Array.toList_extract, List.extract_eq_take_drop, List.map_take, List.map_drop]
    exact List.take_of_length_le (by rw [List.length_drop, List.length_map, Array.length_toList]; exact Nat.le_refl _)
  rw [← hx, strB_txt]
theorem cut_conv {W : World} {g n cap C : Nat} {l : List Nat} {X : ByteArray} (h : BytesAt W (.slice (some ⟨g, 0, none⟩) n cap) l) (hn : l.length = n) (hC : C < cap) (hCl : C ≤ n) (hX : strB (l.drop C) = X) :
    (convert 48 9 (.slice (some ⟨g, C, none⟩) (n - C) (cap - C))).run Tryd.prog W = .ok (.string X) W := by
  obtain ⟨_, cap', hv, ⟨h1, _⟩, _⟩ := id h
  simp only [Value.slice.injEq] at hv
  obtain ⟨_, _, rfl⟩ := hv
  have := (h.sub C (n - C) (cap - C) (by omega) (by omega)).conv (P := Tryd.prog) Tryd.underlying48 Tryd.underlying5 Tryd.underlying9
  rw [Nat.zero_add, List.take_of_length_le (by rw [List.length_drop]; omega), hX] at this
  exact this
theorem cut_same {W : World} {g C : Nat} {l : List Nat} {X : ByteArray} (h : BytesAt W (.slice (some ⟨g, 0, none⟩) C C) l) (hX : strB (l.drop C) = X) (hn : l.length = C) :
    (convert 48 9 (.slice (some ⟨g, 0, none⟩) 0 0)).run Tryd.prog W = .ok (.string X) W := by
  have e : l.drop C = [] := List.drop_eq_nil_of_le (by omega)
  rw [e] at hX
  have hB : BytesAt W (.slice (some ⟨g, 0, none⟩) 0 0) [] := ⟨some ⟨g, 0, none⟩, 0, rfl, ⟨by simp, fun h => by cases h⟩, .inl rfl⟩
  rw [← hX]
  exact hB.conv (P := Tryd.prog) Tryd.underlying48 Tryd.underlying5 Tryd.underlying9
set_option maxHeartbeats 2000000 in
set_option maxRecDepth 100000 in
theorem rof_ok0 (S : ByteArray) (l : List Nat) (w : World) (hS : txtL S = l) (hSz : S.size ≤ 140737488351232) (t : ByteArray) (C : Nat) (ht : t.size ≤ 140737488351232) (htp : topicB t = true) (hC : C ≤ S.size) (GET : ∀ W v, BytesAt W v l → Calls Tryd.prog 69 #[v, .int .i64 0] W fun e w' => e = .returned (.tuple #[.string t, .int .i64 C, .int .i64 0]) ∧ Below W.heap.size W w') :
    Calls Tryd.prog 40 #[.string S, .int .i64 0] w (OfPost (.agg #[.string t, .string (S.extract C S.size), .int .i64 0, .bool false]) 0 0 w) := by
  have T := fun w => named_any t w (by omega)
  rw [htp] at T
  replace T := Lib.hid T
  clear htp
  obtain ⟨g, n, cap, w1, hconv, hn, a1, hcp, b1⟩ := bytes_of2 S (w.alloc (.cells #[.string ⟨#[]⟩, .string ⟨#[]⟩, .int .i64 0, .bool false] 27))
  rw [hS] at a1
  have hg : w.heap.size < w1.heap.size := by have := b1.size; simp at this; omega
  have row1 : w1.heap[w.heap.size]? = some (.cells #[.string ⟨#[]⟩, .string ⟨#[]⟩, .int .i64 0, .bool false] 27 (0, 0)) := by rw [b1.block _ (by simp)]; exact heap_alloc_new w _
  replace b1 := ext_trans (ext_alloc w _) b1
  have hXd : strB (l.drop C) = S.extract C S.size := by rw [← hS]; exact strB_cut S C hC
  have hln : l.length = n := by rw [← hS, txtL_length, hn]
  obtain ⟨X, hX⟩ : ∃ X, S.extract C S.size = X := ⟨_, rfl⟩
  rw [hX] at hXd ⊢
  have hCn : C ≤ n := by omega
  have hn2 : n ≤ 140737488351232 := by omega
  have hn3 : (n : Int) ≤ 140737488351232 := by omega
  have hCn' : (C : Int) ≤ n := by omega
  have hcp' : (n : Int) ≤ cap := by omega
  replace GET := Lib.hid GET
  replace hS := Lib.hid hS
  replace row1 := Lib.hid row1
  replace b1 := Lib.hid b1
  replace hXd := Lib.hid hXd
  replace hX := Lib.hid hX
  replace hn := Lib.hid hn
  replace hln := Lib.hid hln
  have HA := Lib.hid a1
  clear a1
  by_cases hcc : cap = C
  · have hnC : n = C := by omega
    subst hnC
    subst hcc
    go_enter Tryd.func40, Tryd.ntmps40
    go_wp2_with fail
    refine (GET.out _ _ HA.out).mono ?_
    rintro e w2 ⟨rfl, b2⟩
    have A2 := Lib.hid (HA.out.keep b2 (Nat.le_refl _))
    have b2' := Lib.hid b2
    clear b2
    go_wp2_with fail
    refine (T.out _).mono ?_
    rintro e w3 ⟨rfl, rfl⟩
    have A5 := A2
    have bb := b2'.out
    have row5 : w2.heap[w.heap.size]? = some (.cells #[.string ⟨#[]⟩, .string ⟨#[]⟩, .int .i64 0, .bool false] 27 (0, 0)) := by rw [bb.block _ hg]; exact row1.out
    have hg5 : w.heap.size < w2.heap.size := by have := bb.size; omega
    have c0 := cell_of_row w2 w.heap.size 0 _ 27 (0, 0) row5
    have c1 := cell_of_row w2 w.heap.size 1 _ 27 (0, 0) row5
    have c2 := cell_of_row w2 w.heap.size 2 _ 27 (0, 0) row5
    have c3 := cell_of_row w2 w.heap.size 3 _ 27 (0, 0) row5
    have z := fun j => frozen_of_row w2 w.heap.size j _ 27 row5
    have z0 := z 0
    have z1 := z 1
    have z2 := z 2
    have z3 := z 3
    simp at c0 c1 c2 c3
    have B := Lib.hid (ext_trans b1.out bb)
    replace row5 := Lib.hid row5
    clear bb z
    have kc := cut_same A5.out hXd.out hln.out
    go_wp2_with fail
    exact bodyPost_ret (v := .tuple #[.agg #[.string t, .string X, .int .i64 0, .bool false], .int .i64 0, .int .i64 0]) (by simp [results, Tryd.results40, go_sem, c0, c1, c2, c3]) rfl ⟨rfl, (((B.out.setCell (Nat.le_refl _) _).setCell (Nat.le_refl _) _).setCell (Nat.le_refl _) _).setCell (Nat.le_refl _) _⟩

  · have hcc : C < cap := by omega
    have hcc' : (C : Int) < cap := by omega
    go_enter Tryd.func40, Tryd.ntmps40
    go_wp2_with fail
    refine (GET.out _ _ HA.out).mono ?_
    rintro e w2 ⟨rfl, b2⟩
    have A2 := Lib.hid (HA.out.keep b2 (Nat.le_refl _))
    have b2' := Lib.hid b2
    clear b2
    go_wp2_with fail
    refine (T.out _).mono ?_
    rintro e w3 ⟨rfl, rfl⟩
    have A5 := A2
    have bb := b2'.out
    have row5 : w2.heap[w.heap.size]? = some (.cells #[.string ⟨#[]⟩, .string ⟨#[]⟩, .int .i64 0, .bool false] 27 (0, 0)) := by rw [bb.block _ hg]; exact row1.out
    have hg5 : w.heap.size < w2.heap.size := by have := bb.size; omega
    have c0 := cell_of_row w2 w.heap.size 0 _ 27 (0, 0) row5
    have c1 := cell_of_row w2 w.heap.size 1 _ 27 (0, 0) row5
    have c2 := cell_of_row w2 w.heap.size 2 _ 27 (0, 0) row5
    have c3 := cell_of_row w2 w.heap.size 3 _ 27 (0, 0) row5
    have z := fun j => frozen_of_row w2 w.heap.size j _ 27 row5
    have z0 := z 0
    have z1 := z 1
    have z2 := z 2
    have z3 := z 3
    simp at c0 c1 c2 c3
    have B := Lib.hid (ext_trans b1.out bb)
    replace row5 := Lib.hid row5
    clear bb z
    have kc := cut_conv A5.out hln.out hcc hCn hXd.out
    go_wp2_with fail
    exact bodyPost_ret (v := .tuple #[.agg #[.string t, .string X, .int .i64 0, .bool false], .int .i64 0, .int .i64 0]) (by simp [results, Tryd.results40, go_sem, c0, c1, c2, c3]) rfl ⟨rfl, (((B.out.setCell (Nat.le_refl _) _).setCell (Nat.le_refl _) _).setCell (Nat.le_refl _) _).setCell (Nat.le_refl _) _⟩

set_option maxHeartbeats 2000000 in
set_option maxRecDepth 100000 in
theorem rof_okP (S : ByteArray) (q : Int) (l : List Nat) (w : World) (hq0 : 0 ≤ q) (hq2 : q ≤ 2) (hS : txtL S = l) (hSz : S.size ≤ 140737488351232) (t : ByteArray) (k A : Int) (C : Nat) (hqp : 0 < q) (hk : k ≠ 0) (ht : t.size ≤ 140737488351232) (htp : topicB t = true) (hC : C ≤ S.size) (GET : ∀ W v, BytesAt W v l → Calls Tryd.prog 69 #[v, .int .i64 0] W fun e w' => e = .returned (.tuple #[.string t, .int .i64 A, .int .i64 0]) ∧ Below W.heap.size W w') (G2 : ∀ W v, BytesAt W v l → Calls Tryd.prog 70 #[v, .int .i64 A] W fun e w' => e = .returned (.tuple #[.int .i64 k, .int .i64 C, .int .i64 0]) ∧ Below W.heap.size W w') :
    Calls Tryd.prog 40 #[.string S, .int .i64 q] w (OfPost (.agg #[.string t, .string (S.extract C S.size), .int .i64 q, .bool false]) k 0 w) := by
  have T := fun w => named_any t w (by omega)
  rw [htp] at T
  replace T := Lib.hid T
  clear htp
  obtain ⟨g, n, cap, w1, hconv, hn, a1, hcp, b1⟩ := bytes_of2 S (w.alloc (.cells #[.string ⟨#[]⟩, .string ⟨#[]⟩, .int .i64 0, .bool false] 27))
  rw [hS] at a1
  have hg : w.heap.size < w1.heap.size := by have := b1.size; simp at this; omega
  have row1 : w1.heap[w.heap.size]? = some (.cells #[.string ⟨#[]⟩, .string ⟨#[]⟩, .int .i64 0, .bool false] 27 (0, 0)) := by rw [b1.block _ (by simp)]; exact heap_alloc_new w _
  replace b1 := ext_trans (ext_alloc w _) b1
  have hXd : strB (l.drop C) = S.extract C S.size := by rw [← hS]; exact strB_cut S C hC
  have hln : l.length = n := by rw [← hS, txtL_length, hn]
  obtain ⟨X, hX⟩ : ∃ X, S.extract C S.size = X := ⟨_, rfl⟩
  rw [hX] at hXd ⊢
  have hCn : C ≤ n := by omega
  have hn2 : n ≤ 140737488351232 := by omega
  have hn3 : (n : Int) ≤ 140737488351232 := by omega
  have hCn' : (C : Int) ≤ n := by omega
  have hcp' : (n : Int) ≤ cap := by omega
  replace GET := Lib.hid GET
  replace hS := Lib.hid hS
  replace row1 := Lib.hid row1
  replace b1 := Lib.hid b1
  replace hXd := Lib.hid hXd
  replace hX := Lib.hid hX
  replace hn := Lib.hid hn
  replace hln := Lib.hid hln
  have HA := Lib.hid a1
  clear a1
  replace G2 := Lib.hid G2
  have hqb : (q == 0) = false := beq_eq_false_iff_ne.2 (by omega)
  have hkb : (k == 0) = false := beq_eq_false_iff_ne.2 hk
  clear hk
  by_cases hcc : cap = C
  · have hnC : n = C := by omega
    subst hnC
    subst hcc
    go_enter Tryd.func40, Tryd.ntmps40
    go_wp2_with fail
    refine (GET.out _ _ HA.out).mono ?_
    rintro e w2 ⟨rfl, b2⟩
    have A2 := Lib.hid (HA.out.keep b2 (Nat.le_refl _))
    have b2' := Lib.hid b2
    clear b2
    go_wp2_with fail
    refine (T.out _).mono ?_
    rintro e w3 ⟨rfl, rfl⟩
    go_wp2_with fail
    refine (G2.out _ _ A2.out).mono ?_
    rintro e w5 ⟨rfl, b8⟩
    have A5 := Lib.hid (A2.out.keep b8 (Nat.le_refl _))
    have bb := ext_trans b2'.out b8
    clear b8
    have row5 : w5.heap[w.heap.size]? = some (.cells #[.string ⟨#[]⟩, .string ⟨#[]⟩, .int .i64 0, .bool false] 27 (0, 0)) := by rw [bb.block _ hg]; exact row1.out
    have hg5 : w.heap.size < w5.heap.size := by have := bb.size; omega
    have c0 := cell_of_row w5 w.heap.size 0 _ 27 (0, 0) row5
    have c1 := cell_of_row w5 w.heap.size 1 _ 27 (0, 0) row5
    have c2 := cell_of_row w5 w.heap.size 2 _ 27 (0, 0) row5
    have c3 := cell_of_row w5 w.heap.size 3 _ 27 (0, 0) row5
    have z := fun j => frozen_of_row w5 w.heap.size j _ 27 row5
    have z0 := z 0
    have z1 := z 1
    have z2 := z 2
    have z3 := z 3
    simp at c0 c1 c2 c3
    have B := Lib.hid (ext_trans b1.out bb)
    replace row5 := Lib.hid row5
    clear bb z
    have kc := cut_same A5.out hXd.out hln.out
    go_wp2_with fail
    exact bodyPost_ret (v := .tuple #[.agg #[.string t, .string X, .int .i64 q, .bool false], .int .i64 k, .int .i64 0]) (by simp [results, Tryd.results40, go_sem, c0, c1, c2, c3]) rfl ⟨rfl, (((B.out.setCell (Nat.le_refl _) _).setCell (Nat.le_refl _) _).setCell (Nat.le_refl _) _).setCell (Nat.le_refl _) _⟩

  · have hcc : C < cap := by omega
    have hcc' : (C : Int) < cap := by omega
    go_enter Tryd.func40, Tryd.ntmps40
    go_wp2_with fail
    refine (GET.out _ _ HA.out).mono ?_
    rintro e w2 ⟨rfl, b2⟩
    have A2 := Lib.hid (HA.out.keep b2 (Nat.le_refl _))
    have b2' := Lib.hid b2
    clear b2
    go_wp2_with fail
    refine (T.out _).mono ?_
    rintro e w3 ⟨rfl, rfl⟩
    go_wp2_with fail
    refine (G2.out _ _ A2.out).mono ?_
    rintro e w5 ⟨rfl, b8⟩
    have A5 := Lib.hid (A2.out.keep b8 (Nat.le_refl _))
    have bb := ext_trans b2'.out b8
    clear b8
    have row5 : w5.heap[w.heap.size]? = some (.cells #[.string ⟨#[]⟩, .string ⟨#[]⟩, .int .i64 0, .bool false] 27 (0, 0)) := by rw [bb.block _ hg]; exact row1.out
    have hg5 : w.heap.size < w5.heap.size := by have := bb.size; omega
    have c0 := cell_of_row w5 w.heap.size 0 _ 27 (0, 0) row5
    have c1 := cell_of_row w5 w.heap.size 1 _ 27 (0, 0) row5
    have c2 := cell_of_row w5 w.heap.size 2 _ 27 (0, 0) row5
    have c3 := cell_of_row w5 w.heap.size 3 _ 27 (0, 0) row5
    have z := fun j => frozen_of_row w5 w.heap.size j _ 27 row5
    have z0 := z 0
    have z1 := z 1
    have z2 := z 2
    have z3 := z 3
    simp at c0 c1 c2 c3
    have B := Lib.hid (ext_trans b1.out bb)
    replace row5 := Lib.hid row5
    clear bb z
    have kc := cut_conv A5.out hln.out hcc hCn hXd.out
    go_wp2_with fail
    exact bodyPost_ret (v := .tuple #[.agg #[.string t, .string X, .int .i64 q, .bool false], .int .i64 k, .int .i64 0]) (by simp [results, Tryd.results40, go_sem, c0, c1, c2, c3]) rfl ⟨rfl, (((B.out.setCell (Nat.le_refl _) _).setCell (Nat.le_refl _) _).setCell (Nat.le_refl _) _).setCell (Nat.le_refl _) _⟩

end Go.Proofs.YtmpklaokgogigaaDoor.Pub
