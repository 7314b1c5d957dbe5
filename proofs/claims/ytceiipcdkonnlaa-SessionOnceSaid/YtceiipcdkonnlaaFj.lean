/-
  LAYER 23: what is sent again.
-/
import Derived.Test.YtceiipcdkonnlaaFh
import Derived.Laws.Tables
import Derived.Laws.Rows
import Derived.Laws.NewBlocks
import Derived.Deep.WholeRow
namespace Go.Proofs.Ytceiipcdkonnlaa.Fli
set_option linter.unusedSimpArgs false
set_option linter.unusedVariables false
open Go.RowKit Que Hp Ids
def pkR (e : Se) : List Value := [.int .i64 6, .int .i64 e.i, .bool false, .string { data := #[] }, .string { data := #[] }, .int .i64 0, .bool false, .int .i64 0, .bool false, .int .i64 0, .string { data := #[] }, .bool false, .string { data := #[] }, .string { data := #[] }, .int .i64 0, .bool false, .bool false, .string { data := #[] }, .bool false, .string { data := #[] }, .bool false, .int .i64 0, .slice none 0 0, .slice none 0 0]
def pkP (e : Se) : List Value := [.int .i64 3, .int .i64 e.i, .bool true, .string e.t, .string e.x, .int .i64 e.q, .bool e.r, .int .i64 0, .bool false, .int .i64 0, .string { data := #[] }, .bool false, .string { data := #[] }, .string { data := #[] }, .int .i64 0, .bool false, .bool false, .string { data := #[] }, .bool false, .string { data := #[] }, .bool false, .int .i64 0, .slice none 0 0, .slice none 0 0]
/-- What is sent again for one. -/
def pk (e : Se) : List Value := if e.s = 3 then pkR e else pkP e
theorem pk_len (e : Se) : (pk e).length = 24 := by unfold pk; split <;> rfl
theorem pk_one (e : Se) : ∀ u ∈ pk e, u.oneCell' = true := by
  intro u hu
  unfold pk at hu
  split at hu
  · revert u hu
    unfold pkR
    simp [Value.oneCell']
  · revert u hu
    unfold pkP
    simp [Value.oneCell']
def pkC (l : List Se) : List Value := l.flatMap pk
theorem pkC_len (l : List Se) : (pkC l).length = l.length * 24 := by
  induction l with
  | nil => rfl
  | cons f l ih => simp only [pkC, List.flatMap_cons, List.length_append] at ih ⊢; rw [ih]; rw [pk_len, List.length_cons]; omega
theorem pkC_get (l : List Se) : ∀ (i : Nat) (f : Se), l[i]? = some f → ∀ j, j < 24 → (pkC l)[i * 24 + j]? = (pk f)[j]? := by
  induction l with
  | nil => intro i f h; simp at h
  | cons g l ih =>
    intro i f h j hj
    have e : pkC (g :: l) = pk g ++ pkC l := by simp [pkC]
    rw [e]
    cases i with
    | zero =>
      simp at h; subst h
      rw [Nat.zero_mul, Nat.zero_add, List.getElem?_append_left (by rw [pk_len]; exact hj)]
    | succ i =>
      rw [List.getElem?_append_right (by rw [pk_len]; omega)]
      rw [show (i + 1) * 24 + j - (pk g).length = i * 24 + j by rw [pk_len]; omega]
      exact ih i f (by simpa using h) j hj
theorem pkC_snoc (l : List Se) (f : Se) : pkC (l ++ [f]) = pkC l ++ pk f := by simp [pkC]
def zP : Value := .agg #[.int .i64 0, .int .i64 0, .bool false, .string { data := #[] }, .string { data := #[] }, .int .i64 0, .bool false, .int .i64 0, .bool false, .int .i64 0, .string { data := #[] }, .bool false, .string { data := #[] }, .string { data := #[] }, .int .i64 0, .bool false, .bool false, .string { data := #[] }, .bool false, .string { data := #[] }, .bool false, .int .i64 0, .slice none 0 0, .slice none 0 0]
theorem info78 : (Try.prog.info? 78).map (fun i => (i.zero, i.size, i.bytes)) = some (some zP, 24, 280) := by kernel_rfl
theorem size78 : (Try.prog.info? 78).map (fun i => i.size) = some 24 := by kernel_rfl
theorem pk_all (e : Se) : (pk e).toArray.all (fun v => v.oneCell') = true := by
  rw [Array.all_eq_true_iff_forall_mem]
  intro v hv
  exact pk_one e v (by simpa using hv)
def zPa : Array Value := #[.int .i64 0, .int .i64 0, .bool false, .string { data := #[] }, .string { data := #[] }, .int .i64 0, .bool false, .int .i64 0, .bool false, .int .i64 0, .string { data := #[] }, .bool false, .string { data := #[] }, .string { data := #[] }, .int .i64 0, .bool false, .bool false, .string { data := #[] }, .bool false, .string { data := #[] }, .bool false, .int .i64 0, .slice none 0 0, .slice none 0 0]
set_option maxHeartbeats 4000000 in
set_option maxRecDepth 100000 in
theorem again_one (e : Se) (w : World) : Calls Try.prog 58 #[.agg #[.int .i64 e.i, .int .i64 e.s, .string e.t, .string e.x, .int .i64 e.q, .bool e.r]] w fun x w' => x = .returned (.agg (pk e).toArray) ∧ Below w.heap.size w w' := by
  have hg : ((w.alloc (.cells #[.int .i64 e.i, .int .i64 e.s, .string e.t, .string e.x, .int .i64 e.q, .bool e.r] 101)).alloc (.cells #[.int .i64 0, .int .i64 0, .bool false, .string { data := #[] }, .string { data := #[] }, .int .i64 0, .bool false, .int .i64 0, .bool false, .int .i64 0, .string { data := #[] }, .bool false, .string { data := #[] }, .string { data := #[] }, .int .i64 0, .bool false, .bool false, .string { data := #[] }, .bool false, .string { data := #[] }, .bool false, .int .i64 0, .slice none 0 0, .slice none 0 0] 78)).heap[w.heap.size + 1]? = some (.cells #[.int .i64 0, .int .i64 0, .bool false, .string { data := #[] }, .string { data := #[] }, .int .i64 0, .bool false, .int .i64 0, .bool false, .int .i64 0, .string { data := #[] }, .bool false, .string { data := #[] }, .string { data := #[] }, .int .i64 0, .bool false, .bool false, .string { data := #[] }, .bool false, .string { data := #[] }, .bool false, .int .i64 0, .slice none 0 0, .slice none 0 0] 78 (0, 0)) := heap_alloc2_new w _ _
  have hE : ((w.alloc (.cells #[.int .i64 e.i, .int .i64 e.s, .string e.t, .string e.x, .int .i64 e.q, .bool e.r] 101)).alloc (.cells #[.int .i64 0, .int .i64 0, .bool false, .string { data := #[] }, .string { data := #[] }, .int .i64 0, .bool false, .int .i64 0, .bool false, .int .i64 0, .string { data := #[] }, .bool false, .string { data := #[] }, .string { data := #[] }, .int .i64 0, .bool false, .bool false, .string { data := #[] }, .bool false, .string { data := #[] }, .bool false, .int .i64 0, .slice none 0 0, .slice none 0 0] 78)).setRow (w.heap.size + 1) (pk e).toArray = (w.alloc (.cells #[.int .i64 e.i, .int .i64 e.s, .string e.t, .string e.x, .int .i64 e.q, .bool e.r] 101)).alloc (.cells (pk e).toArray 78) := by
    have := World.setRow_alloc_new (w.alloc (.cells #[.int .i64 e.i, .int .i64 e.s, .string e.t, .string e.x, .int .i64 e.q, .bool e.r] 101)) #[.int .i64 0, .int .i64 0, .bool false, .string { data := #[] }, .string { data := #[] }, .int .i64 0, .bool false, .int .i64 0, .bool false, .int .i64 0, .string { data := #[] }, .bool false, .string { data := #[] }, .string { data := #[] }, .int .i64 0, .bool false, .bool false, .string { data := #[] }, .bool false, .string { data := #[] }, .bool false, .int .i64 0, .slice none 0 0, .slice none 0 0] (pk e).toArray 78
    rw [World.size_alloc] at this
    exact this
  have hg2 : ((w.alloc (.cells #[.int .i64 e.i, .int .i64 e.s, .string e.t, .string e.x, .int .i64 e.q, .bool e.r] 101)).alloc (.cells (pk e).toArray 78)).heap[w.heap.size + 1]? = some (.cells (pk e).toArray 78 (0, 0)) := heap_alloc2_new w _ _
  have hB := ext_two w (.cells #[.int .i64 e.i, .int .i64 e.s, .string e.t, .string e.x, .int .i64 e.q, .bool e.r] 101) (.cells (pk e).toArray 78)
  have hall := pk_all e
  have hsz : (Try.prog.info? 78).map (fun i => i.size) = some (pk e).toArray.size := by rw [size78]; simp [pk_len]
  have hzs : (#[.int .i64 0, .int .i64 0, .bool false, .string { data := #[] }, .string { data := #[] }, .int .i64 0, .bool false, .int .i64 0, .bool false, .int .i64 0, .string { data := #[] }, .bool false, .string { data := #[] }, .string { data := #[] }, .int .i64 0, .bool false, .bool false, .string { data := #[] }, .bool false, .string { data := #[] }, .bool false, .int .i64 0, .slice none 0 0, .slice none 0 0] : Array Value).size = (pk e).toArray.size := by simp [pk_len]
  replace hg := Lib.hid hg
  replace hE := Lib.hid hE
  replace hg2 := Lib.hid hg2
  replace hB := Lib.hid hB
  replace hall := Lib.hid hall
  replace hsz := Lib.hid hsz
  replace hzs := Lib.hid hzs
  cases hs : (e.s == 3)
  · have hn : e.s ≠ 3 := by simpa using hs
    have hp : pk e = pkP e := if_neg hn
    rw [hp] at hE hg2 hB hall hsz hzs ⊢
    clear hp hn
    go_enter Try.func58, Try.ntmps58
    go_wp2_with (refine wpList_store_row rfl 78 (.tmp 2) (.tmp 13) rfl (w.heap.size + 1) (pkP e).toArray rfl rfl 78 _ hg.out hsz.out hzs.out hall.out ?_; rw [hE.out])
    exact bodyPost_ret_by (results_cell_row rfl _ _ (w.heap.size + 1) 78 (pkP e).toArray (0, 0) _ rfl hg2.out Try.underlying78 rfl hsz.out) rfl ⟨rfl, hB.out⟩
  · have hn : e.s = 3 := by simpa using hs
    have hp : pk e = pkR e := if_pos hn
    rw [hp] at hE hg2 hB hall hsz hzs ⊢
    clear hp hn
    go_enter Try.func58, Try.ntmps58
    go_wp2_with (refine wpList_store_row rfl 78 (.tmp 2) (.tmp 8) rfl (w.heap.size + 1) (pkR e).toArray rfl rfl 78 _ hg.out hsz.out hzs.out hall.out ?_; rw [hE.out])
    exact bodyPost_ret_by (results_cell_row rfl _ _ (w.heap.size + 1) 78 (pkR e).toArray (0, 0) _ rfl hg2.out Try.underlying78 rfl hsz.out) rfl ⟨rfl, hB.out⟩
end Go.Proofs.Ytceiipcdkonnlaa.Fli
