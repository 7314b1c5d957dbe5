/-
  LAYER 3: a field's bytes, the document's.
-/
import Derived.Test.YtoglgdkeknojkaaWb
import Derived.Lib.AppendStr
namespace Go.Proofs.Ytoglgdkeknojkaa
open Go.RowKit

def txtL (s : ByteArray) : List Nat := s.data.toList.map UInt8.toNat
theorem bl_txt (s : ByteArray) : bl (txtL s) = Lib.strCells s := by unfold bl txtL Lib.strCells; rw [List.map_map]; rfl
theorem txtL_length (s : ByteArray) : (txtL s).length = s.size := by unfold txtL; simp
theorem own_below {w w' : World} {B e size n : Nat} {v : Value} {xs : List Value} (h : w.ownsRow B e size v n xs) (hb : Below w.heap.size w w') : w'.ownsRow B e size v n xs := by
  obtain ⟨h1, hr⟩ := h
  refine ⟨h1, hr.imp id ?_⟩
  rintro ⟨g, cap, cur, hv, hg, hcur, rest⟩
  exact ⟨g, cap, cur, hv, hg, by rw [hb.block g (Array.getElem?_eq_some_iff.1 hcur).1]; exact hcur, rest⟩
theorem grown_ext {B : Nat} {w w' : World} {v : Value} {n : Nat} {xs : List Value} {e : TypeId} (hown : w.ownsRow B e 1 v n xs) (hg : w.grownBy w' v.ownBlock) (hB : B ≤ w.heap.size) : Below B w w' :=
  (Below.refl _ _).grown hg hB (fun k hk => (hown.lt k hk).1)
def tag (f : Fd) : Nat := f.num.toNat * 8 + f.kind.toNat
/-- A field's bytes. -/
def oneL (f : Fd) : List Nat := putL 9 (tag f) ++ midL f ++ txtL f.text
theorem putL_small (n : Nat) (h : n ≤ 18446744073709551615) : (putL 9 n).length ≤ 10 := by
  rw [putL_length 9 n (by omega) h]; exact (sz_le n h).2
theorem txt_nil : txtL ⟨#[]⟩ = [] := rfl
set_option maxHeartbeats 2000000 in
set_option maxRecDepth 100000 in
theorem one_0 (n : Nat) (v : Nat) (w : World) (h1 : 1 ≤ n) (h2 : n ≤ 536870911) (hv : v ≤ 18446744073709551615) : Calls Try.prog 23 #[.agg #[.int .i64 (n : Int), .int .i64 0, .int .u64 (v : Nat), .string ⟨#[]⟩]] w (Bs (putL 9 (n * 8 + 0) ++ putL 9 v) w) := by
  obtain ⟨i0, hi, hz0, hz1, hz2⟩ := info_parts Try.info5
  replace hi := Lib.hid hi
  replace hz0 := Lib.hid hz0
  replace hz1 := Lib.hid hz1
  replace hz2 := Lib.hid hz2
  have b0 := Lib.hid (ext_alloc w (.cells #[.int .i64 (n : Int), .int .i64 0, .int .u64 (v : Nat), .string ⟨#[]⟩] 41))
  have n1 : (1 : Int) ≤ n := by omega
  have n2 : (n : Int) ≤ 536870911 := by omega
  have T := Lib.hid fun w => rput_any (n * 8 + 0) w (by omega)
  have P := Lib.hid fun w => bs_rput v w hv
  have lm : (putL 9 v).length ≤ 10 := by exact putL_small v hv
  have lp := putL_small (n * 8 + 0) (by omega)
  replace hv := Lib.hid hv
  have gt : ((n * 8 + 0 : Nat) : Int) = (n : Int) * 8 := by omega
  have T' : ∀ w, Calls Try.prog 42 #[.int .u64 ((n : Int) * 8)] w (PutPost w.heap.size (n * 8 + 0) w) := fun w => by rw [← gt]; exact T.out w
  clear gt
  replace T' := Lib.hid T'
  obtain ⟨lt, glt⟩ : ∃ l, l = putL 9 (n * 8 + 0) := ⟨_, rfl⟩
  obtain ⟨lk, glk⟩ : ∃ l, l = putL 9 v := ⟨_, rfl⟩
  rw [← glt] at lp
  rw [← glk] at lm
  replace glt := Lib.hid glt
  replace glk := Lib.hid glk
  go_enter Try.func23, Try.ntmps23
  go_wp2_with fail
  refine (T'.out _).mono ?_
  rintro e w1 ⟨v1, rfl, o1, b1, -⟩
  rw [← glt.out] at o1
  have k1 : ∀ i, w1.cell? ⟨w.heap.size, i, none⟩ = #[.int .i64 (n : Int), .int .i64 0, .int .u64 (v : Nat), .string ⟨#[]⟩][i]? := fun i => by rw [b1.cell (by simp), World.cell?_alloc_at _ _ _ _ rfl]
  have z1 : w.heap.size < w1.heap.size := by have := b1.size; simp at this; omega
  have c1 : w1.cell? ⟨w.heap.size, 1, none⟩ = some (.int .i64 0) := (k1 1).trans rfl
  have c2 : w1.cell? ⟨w.heap.size, 2, none⟩ = some (.int .u64 (v : Nat)) := (k1 2).trans rfl
  replace k1 := Lib.hid k1
  have B1 := Lib.hid (ext_trans b0.out b1)
  replace o1 := Lib.hid o1
  have y1 : w.heap.size + 1 ≤ w1.heap.size := by omega
  clear b1
  go_wp2_with fail
  refine (P.out _).mono ?_
  rintro e w2 ⟨a2, m2, d2, rfl, h2, b2⟩
  rw [← glk.out] at h2
  have o2 := own_below o1.out b2
  rw [show (w.alloc (.cells #[.int .i64 (n : Int), .int .i64 0, .int .u64 (v : Nat), .string ⟨#[]⟩] 41)).heap.size = w.heap.size + 1 by simp] at o2
  have B2 := Lib.hid (ext_trans B1.out b2)
  have y2 : w.heap.size + 1 ≤ w2.heap.size := by have := b2.size; omega
  clear c1 c2
  clear b2
  go_wp2_with (at_builtin; go_must (refine wpList_append_bytes _ rfl (.tmp 43) (.tmp 46) 25 rfl (w.heap.size + 1) 5 i0 Try.underlying25 hi.out hz0.out hz1.out hz2.out v1 lt lk rfl o2 h2 (by omega) y2 ?_); intro v3 w3 o3 g3 n3; clear n3; have x3 : Below (w.heap.size + 1) w2 w3 := grown_ext o2 g3 y2)
  go_ret
  have hR : putL 9 (n * 8 + 0) ++ putL 9 v = lt ++ lk := by rw [glt.out, glk.out]
  rw [hR]
  exact bs_own o3 (B2.out.trans (x3.mono (by omega)))
set_option maxHeartbeats 2000000 in
set_option maxRecDepth 100000 in
theorem one_1 (n : Nat) (v : Nat) (w : World) (h1 : 1 ≤ n) (h2 : n ≤ 536870911) (hv : v ≤ 18446744073709551615) : Calls Try.prog 23 #[.agg #[.int .i64 (n : Int), .int .i64 1, .int .u64 (v : Nat), .string ⟨#[]⟩]] w (Bs (putL 9 (n * 8 + 1) ++ r8 v) w) := by
  obtain ⟨i0, hi, hz0, hz1, hz2⟩ := info_parts Try.info5
  replace hi := Lib.hid hi
  replace hz0 := Lib.hid hz0
  replace hz1 := Lib.hid hz1
  replace hz2 := Lib.hid hz2
  have b0 := Lib.hid (ext_alloc w (.cells #[.int .i64 (n : Int), .int .i64 1, .int .u64 (v : Nat), .string ⟨#[]⟩] 41))
  have n1 : (1 : Int) ≤ n := by omega
  have n2 : (n : Int) ≤ 536870911 := by omega
  have T := Lib.hid fun w => rput_any (n * 8 + 1) w (by omega)
  have P := Lib.hid fun w => bs_rput8 v w hv
  have lm : (r8 v).length ≤ 10 := by simp [r8]
  have lp := putL_small (n * 8 + 1) (by omega)
  replace hv := Lib.hid hv
  have gt : ((n * 8 + 1 : Nat) : Int) = (n : Int) * 8 + 1 := by omega
  have T' : ∀ w, Calls Try.prog 42 #[.int .u64 ((n : Int) * 8 + 1)] w (PutPost w.heap.size (n * 8 + 1) w) := fun w => by rw [← gt]; exact T.out w
  clear gt
  replace T' := Lib.hid T'
  obtain ⟨lt, glt⟩ : ∃ l, l = putL 9 (n * 8 + 1) := ⟨_, rfl⟩
  obtain ⟨lk, glk⟩ : ∃ l, l = r8 v := ⟨_, rfl⟩
  rw [← glt] at lp
  rw [← glk] at lm
  replace glt := Lib.hid glt
  replace glk := Lib.hid glk
  go_enter Try.func23, Try.ntmps23
  go_wp2_with fail
  refine (T'.out _).mono ?_
  rintro e w1 ⟨v1, rfl, o1, b1, -⟩
  rw [← glt.out] at o1
  have k1 : ∀ i, w1.cell? ⟨w.heap.size, i, none⟩ = #[.int .i64 (n : Int), .int .i64 1, .int .u64 (v : Nat), .string ⟨#[]⟩][i]? := fun i => by rw [b1.cell (by simp), World.cell?_alloc_at _ _ _ _ rfl]
  have z1 : w.heap.size < w1.heap.size := by have := b1.size; simp at this; omega
  have c1 : w1.cell? ⟨w.heap.size, 1, none⟩ = some (.int .i64 1) := (k1 1).trans rfl
  have c2 : w1.cell? ⟨w.heap.size, 2, none⟩ = some (.int .u64 (v : Nat)) := (k1 2).trans rfl
  replace k1 := Lib.hid k1
  have B1 := Lib.hid (ext_trans b0.out b1)
  replace o1 := Lib.hid o1
  have y1 : w.heap.size + 1 ≤ w1.heap.size := by omega
  clear b1
  go_wp2_with fail
  refine (P.out _).mono ?_
  rintro e w2 ⟨a2, m2, d2, rfl, h2, b2⟩
  rw [← glk.out] at h2
  have o2 := own_below o1.out b2
  rw [show (w.alloc (.cells #[.int .i64 (n : Int), .int .i64 1, .int .u64 (v : Nat), .string ⟨#[]⟩] 41)).heap.size = w.heap.size + 1 by simp] at o2
  have B2 := Lib.hid (ext_trans B1.out b2)
  have y2 : w.heap.size + 1 ≤ w2.heap.size := by have := b2.size; omega
  clear c1 c2
  clear b2
  go_wp2_with (at_builtin; go_must (refine wpList_append_bytes _ rfl (.tmp 17) (.tmp 20) 25 rfl (w.heap.size + 1) 5 i0 Try.underlying25 hi.out hz0.out hz1.out hz2.out v1 lt lk rfl o2 h2 (by omega) y2 ?_); intro v3 w3 o3 g3 n3; clear n3; have x3 : Below (w.heap.size + 1) w2 w3 := grown_ext o2 g3 y2)
  go_ret
  have hR : putL 9 (n * 8 + 1) ++ r8 v = lt ++ lk := by rw [glt.out, glk.out]
  rw [hR]
  exact bs_own o3 (B2.out.trans (x3.mono (by omega)))
set_option maxHeartbeats 2000000 in
set_option maxRecDepth 100000 in
theorem one_5 (n : Nat) (v : Nat) (w : World) (h1 : 1 ≤ n) (h2 : n ≤ 536870911) (hv : v ≤ 4294967295) : Calls Try.prog 23 #[.agg #[.int .i64 (n : Int), .int .i64 5, .int .u64 (v : Nat), .string ⟨#[]⟩]] w (Bs (putL 9 (n * 8 + 5) ++ r4 v) w) := by
  obtain ⟨i0, hi, hz0, hz1, hz2⟩ := info_parts Try.info5
  replace hi := Lib.hid hi
  replace hz0 := Lib.hid hz0
  replace hz1 := Lib.hid hz1
  replace hz2 := Lib.hid hz2
  have b0 := Lib.hid (ext_alloc w (.cells #[.int .i64 (n : Int), .int .i64 5, .int .u64 (v : Nat), .string ⟨#[]⟩] 41))
  have n1 : (1 : Int) ≤ n := by omega
  have n2 : (n : Int) ≤ 536870911 := by omega
  have T := Lib.hid fun w => rput_any (n * 8 + 5) w (by omega)
  have P := Lib.hid fun w => bs_rput4 v w hv
  have lm : (r4 v).length ≤ 10 := by simp [r4]
  have lp := putL_small (n * 8 + 5) (by omega)
  have hv' : (v : Int) ≤ 4294967295 := by omega
  have gt : ((n * 8 + 5 : Nat) : Int) = (n : Int) * 8 + 5 := by omega
  have T' : ∀ w, Calls Try.prog 42 #[.int .u64 ((n : Int) * 8 + 5)] w (PutPost w.heap.size (n * 8 + 5) w) := fun w => by rw [← gt]; exact T.out w
  clear gt
  replace T' := Lib.hid T'
  obtain ⟨lt, glt⟩ : ∃ l, l = putL 9 (n * 8 + 5) := ⟨_, rfl⟩
  obtain ⟨lk, glk⟩ : ∃ l, l = r4 v := ⟨_, rfl⟩
  rw [← glt] at lp
  rw [← glk] at lm
  replace glt := Lib.hid glt
  replace glk := Lib.hid glk
  go_enter Try.func23, Try.ntmps23
  go_wp2_with fail
  refine (T'.out _).mono ?_
  rintro e w1 ⟨v1, rfl, o1, b1, -⟩
  rw [← glt.out] at o1
  have k1 : ∀ i, w1.cell? ⟨w.heap.size, i, none⟩ = #[.int .i64 (n : Int), .int .i64 5, .int .u64 (v : Nat), .string ⟨#[]⟩][i]? := fun i => by rw [b1.cell (by simp), World.cell?_alloc_at _ _ _ _ rfl]
  have z1 : w.heap.size < w1.heap.size := by have := b1.size; simp at this; omega
  have c1 : w1.cell? ⟨w.heap.size, 1, none⟩ = some (.int .i64 5) := (k1 1).trans rfl
  have c2 : w1.cell? ⟨w.heap.size, 2, none⟩ = some (.int .u64 (v : Nat)) := (k1 2).trans rfl
  replace k1 := Lib.hid k1
  have B1 := Lib.hid (ext_trans b0.out b1)
  replace o1 := Lib.hid o1
  have y1 : w.heap.size + 1 ≤ w1.heap.size := by omega
  clear b1
  go_wp2_with fail
  refine (P.out _).mono ?_
  rintro e w2 ⟨a2, m2, d2, rfl, h2, b2⟩
  rw [← glk.out] at h2
  have o2 := own_below o1.out b2
  rw [show (w.alloc (.cells #[.int .i64 (n : Int), .int .i64 5, .int .u64 (v : Nat), .string ⟨#[]⟩] 41)).heap.size = w.heap.size + 1 by simp] at o2
  have B2 := Lib.hid (ext_trans B1.out b2)
  have y2 : w.heap.size + 1 ≤ w2.heap.size := by have := b2.size; omega
  clear c1 c2
  clear b2
  go_wp2_with (at_builtin; go_must (refine wpList_append_bytes _ rfl (.tmp 24) (.tmp 28) 25 rfl (w.heap.size + 1) 5 i0 Try.underlying25 hi.out hz0.out hz1.out hz2.out v1 lt lk rfl o2 h2 (by omega) y2 ?_); intro v3 w3 o3 g3 n3; clear n3; have x3 : Below (w.heap.size + 1) w2 w3 := grown_ext o2 g3 y2)
  go_ret
  have hR : putL 9 (n * 8 + 5) ++ r4 v = lt ++ lk := by rw [glt.out, glk.out]
  rw [hR]
  exact bs_own o3 (B2.out.trans (x3.mono (by omega)))
set_option maxHeartbeats 2000000 in
set_option maxRecDepth 100000 in
theorem one_2 (n : Nat) (t : ByteArray) (w : World) (h1 : 1 ≤ n) (h2 : n ≤ 536870911) (ht : t.size ≤ 140737488351232) : Calls Try.prog 23 #[.agg #[.int .i64 (n : Int), .int .i64 2, .int .u64 ((0 : Nat) : Int), .string t]] w (Bs (putL 9 (n * 8 + 2) ++ putL 9 t.size ++ txtL t) w) := by
  obtain ⟨i0, hi, hz0, hz1, hz2⟩ := info_parts Try.info5
  replace hi := Lib.hid hi
  replace hz0 := Lib.hid hz0
  replace hz1 := Lib.hid hz1
  replace hz2 := Lib.hid hz2
  rw [Int.natCast_zero]
  have b0 := Lib.hid (ext_alloc w (.cells #[.int .i64 (n : Int), .int .i64 2, .int .u64 0, .string t] 41))
  have n1 : (1 : Int) ≤ n := by omega
  have n2 : (n : Int) ≤ 536870911 := by omega
  have T := Lib.hid fun w => rput_any (n * 8 + 2) w (by omega)
  have P := Lib.hid fun w => bs_rput t.size w (by omega)
  have lm : (putL 9 t.size).length ≤ 10 := by exact putL_small t.size (by omega)
  have lp := putL_small (n * 8 + 2) (by omega)
  have ht' : (t.size : Int) ≤ 140737488351232 := by omega
  have gt : ((n * 8 + 2 : Nat) : Int) = (n : Int) * 8 + 2 := by omega
  have T' : ∀ w, Calls Try.prog 42 #[.int .u64 ((n : Int) * 8 + 2)] w (PutPost w.heap.size (n * 8 + 2) w) := fun w => by rw [← gt]; exact T.out w
  clear gt
  replace T' := Lib.hid T'
  obtain ⟨lt, glt⟩ : ∃ l, l = putL 9 (n * 8 + 2) := ⟨_, rfl⟩
  obtain ⟨lk, glk⟩ : ∃ l, l = putL 9 t.size := ⟨_, rfl⟩
  rw [← glt] at lp
  rw [← glk] at lm
  replace glt := Lib.hid glt
  replace glk := Lib.hid glk
  go_enter Try.func23, Try.ntmps23
  go_wp2_with fail
  refine (T'.out _).mono ?_
  rintro e w1 ⟨v1, rfl, o1, b1, -⟩
  rw [← glt.out] at o1
  have k1 : ∀ i, w1.cell? ⟨w.heap.size, i, none⟩ = #[.int .i64 (n : Int), .int .i64 2, .int .u64 0, .string t][i]? := fun i => by rw [b1.cell (by simp), World.cell?_alloc_at _ _ _ _ rfl]
  have z1 : w.heap.size < w1.heap.size := by have := b1.size; simp at this; omega
  have c1 : w1.cell? ⟨w.heap.size, 1, none⟩ = some (.int .i64 2) := (k1 1).trans rfl
  have c3 : w1.cell? ⟨w.heap.size, 3, none⟩ = some (.string t) := (k1 3).trans rfl
  replace k1 := Lib.hid k1
  have B1 := Lib.hid (ext_trans b0.out b1)
  replace o1 := Lib.hid o1
  have y1 : w.heap.size + 1 ≤ w1.heap.size := by omega
  clear b1
  go_wp2_with fail
  refine (P.out _).mono ?_
  rintro e w2 ⟨a2, m2, d2, rfl, h2, b2⟩
  rw [← glk.out] at h2
  have o2 := own_below o1.out b2
  rw [show (w.alloc (.cells #[.int .i64 (n : Int), .int .i64 2, .int .u64 0, .string t] 41)).heap.size = w.heap.size + 1 by simp] at o2
  have B2 := Lib.hid (ext_trans B1.out b2)
  have y2 : w.heap.size + 1 ≤ w2.heap.size := by have := b2.size; omega
  have e3 : w2.cell? ⟨w.heap.size, 3, none⟩ = some (.string t) := by rw [b2.cell z1]; exact c3
  clear c1 c3
  clear b2
  go_wp2_with (first | (at_builtin; (refine wpList_append_bytes _ rfl (.tmp 32) (.tmp 37) 25 rfl (w.heap.size + 1) 5 i0 Try.underlying25 hi.out hz0.out hz1.out hz2.out v1 lt lk rfl o2 h2 (by omega) y2 ?_); intro v3 w3 o3 g3 n3; clear n3; have x3 : Below (w.heap.size + 1) w2 w3 := grown_ext o2 g3 y2; have f3 : w3.cell? ⟨w.heap.size, 3, none⟩ = some (.string t) := (by rw [x3.cell (by simp)]; exact e3); have y3 : w.heap.size + 1 ≤ w3.heap.size := (by have := x3.size; omega); have B3 := Lib.hid (B2.out.trans (x3.mono (by omega))); clear e3 o2 h2 g3 x3; obtain ⟨l3, gl3⟩ : ∃ l, l = lt ++ lk := ⟨_, rfl⟩; rw [← gl3] at o3; have ll : l3.length ≤ 20 := (by rw [gl3, List.length_append]; omega); replace gl3 := Lib.hid gl3) | (at_builtin; go_must (refine Lib.wpList_append_own_string _ rfl (.tmp 39) (.tmp 41) 25 9 rfl (w.heap.size + 1) 5 i0 Try.underlying25 Try.underlying9 hi.out hz0.out hz1.out hz2.out v3 l3.length (bl l3) rfl o3 t rfl (by unfold maxLen; omega) (by omega) y3 ?_); intro v4 w4 o4 g4 n4))
  go_ret
  have hL : bl l3 ++ Lib.strCells t = bl (l3 ++ txtL t) := by rw [bl_append, bl_txt]
  rw [hL, ← txtL_length, ← List.length_append] at o4
  have hR : putL 9 (n * 8 + 2) ++ putL 9 t.size ++ txtL t = l3 ++ txtL t := by rw [gl3.out, glt.out, glk.out]
  rw [hR]
  exact bs_own o4 (B3.out.trans ((grown_ext o3 g4 y3).mono (by omega)))
theorem one_any (f : Fd) (w : World) (hf : f.ok) (h : wrE f = 0) : Calls Try.prog 23 #[.agg f.cells.toArray] w (Bs (oneL f) w) := by
  obtain ⟨h1, h2, hk⟩ := wrE_zero h
  obtain ⟨-, -, hv, ht⟩ := hf
  clear h
  obtain ⟨n, k, v, t⟩ := f
  simp only at h1 h2 hk hv ht
  obtain ⟨n, rfl⟩ := Int.eq_ofNat_of_zero_le (show 0 ≤ n by omega)
  unfold oneL midL tag
  simp only [Fd.cells, Int.toNat_natCast]
  rcases hk with ⟨rfl, rfl⟩ | ⟨rfl, rfl⟩ | ⟨rfl, rfl⟩ | ⟨rfl, rfl, hv4⟩
  · rw [if_neg (by decide), if_neg (by decide), if_neg (by decide), txt_nil, List.append_nil]
    exact one_0 n v w (by omega) (by omega) hv
  · rw [if_pos rfl, txt_nil, List.append_nil]
    exact one_1 n v w (by omega) (by omega) hv
  · rw [if_neg (by decide), if_neg (by decide), if_pos rfl]
    exact one_2 n t w (by omega) (by omega) ht
  · rw [if_neg (by decide), if_pos rfl, txt_nil, List.append_nil]
    exact one_5 n v w (by omega) (by omega) hv4
end Go.Proofs.Ytoglgdkeknojkaa
