/-
  LAYER 23: what is sent again.
-/
import Derived.Test.YtceiipcdkonnlaaGreatFh
import Derived.Laws.Tables
import Derived.Laws.Rows
import Derived.Laws.NewBlocks
import Derived.Deep.WholeRow
namespace Go.Proofs.YtceiipcdkonnlaaGreat.Fli
set_option linter.unusedSimpArgs false
set_option linter.unusedVariables false
open Go.RowKit Que Hp Ids
def pkR (e : Se) : List Value := [.int .i64 6, .int .i64 e.i, .bool false, .string { data := #[] }, .string { data := #[] }, .int .i64 0, .bool false, .int .i64 0, .bool false, .int .i64 0, .string { data := #[] }, .bool false, .string { data := #[] }, .string { data := #[] }, .int .i64 0, .bool false, .bool false, .string { data := #[] }, .bool false, .string { data := #[] }, .bool false, .int .i64 0, .slice none 0 0, .slice none 0 0]
def pkP (e : Se) : List Value := [.int .i64 3, .int .i64 e.i, .bool true, .string e.t, .string e.x, .int .i64 e.q, .bool e.r, .int .i64 0, .bool false, .int .i64 0, .string { data := #[] }, .bool false, .string { data := #[] }, .string { data := #[] }, .int .i64 0, .bool false, .bool false, .string { data := #[] }, .bool false, .string { data := #[] }, .bool false, .int .i64 0, .slice none 0 0, .slice none 0 0]
/-- What is sent again for one. -/
def pk (e : Se) : List Value := if e.s = 3 then pkR e else pkP e
theorem pk_len (e : Se) : (pk e).length = 24 := by unfold pk; split <;> rfl
theorem pk_one (e : Se) : ∀ u ∈ pk e, u.oneCell' = true := by
  intro u hu
  unfold pk at hu
  split at hu
  · revert u hu
    unfold pkR
    simp [Value.oneCell']
  · revert u hu
    unfold pkP
    simp [Value.oneCell']
def pkC (l : List Se) : List Value := l.flatMap pk
theorem pkC_len (l : List Se) : (pkC l).length = l.length * 24 := by
  induction l with
  | nil => rfl
  | cons f l ih => simp only [pkC, List.flatMap_cons, List.length_append] at ih ⊢; rw [ih]; rw [pk_len, List.length_cons]; omega
theorem pkC_get (l : List Se) : ∀ (i : Nat) (f : Se), l[i]? = some f → ∀ j, j < 24 → (pkC l)[i * 24 + j]? = (pk f)[j]? := by
  induction l with
  | nil => intro i f h; simp at h
  | cons g l ih =>
    intro i f h j hj
    have e : pkC (g :: l) = pk g ++ pkC l := by simp [pkC]
    rw [e]
    cases i with
    | zero =>
      simp at h; subst h
      rw [Nat.zero_mul, Nat.zero_add, List.getElem?_append_left (by rw [pk_len]; exact hj)]
    | succ i =>
      rw [List.getElem?_append_right (by rw [pk_len]; omega)]
      rw [show (i + 1) * 24 + j - (pk g).length = i * 24 + j by rw [pk_len]; omega]
      exact ih i f (by simpa using h) j hj
theorem pkC_snoc (l : List Se) (f : Se) : pkC (l ++ [f]) = pkC l ++ pk f := by simp [pkC]
def zP : Value := .agg #[.int .i64 0, .int .i64 0, .bool false, .string { data := #[] }, .string { data := #[] }, .int .i64 0, .bool false, .int .i64 0, .bool false, .int .i64 0, .string { data := #[] }, .bool false, .string { data := #[] }, .string { data := #[] }, .int .i64 0, .bool false, .bool false, .string { data := #[] }, .bool false, .string { data := #[] }, .bool false, .int .i64 0, .slice none 0 0, .slice none 0 0]
theorem info78 : (Tryz.prog.info? 72).map (fun i => (i.zero, i.size, i.bytes)) = some (some zP, 24, 280) := by kernel_rfl
theorem size78 : (Tryz.prog.info? 72).map (fun i => i.size) = some 24 := by kernel_rfl
theorem pk_all (e : Se) : (pk e).toArray.all (fun v => v.oneCell') = true := by
  rw [Array.all_eq_true_iff_forall_mem]
  intro v hv
  exact pk_one e v (by simpa using hv)
def zPa : Array Value := #[.int .i64 0, .int .i64 0, .bool false, .string { data := #[] }, .string { data := #[] }, .int .i64 0, .bool false, .int .i64 0, .bool false, .int .i64 0, .string { data := #[] }, .bool false, .string { data := #[] }, .string { data := #[] }, .int .i64 0, .bool false, .bool false, .string { data := #[] }, .bool false, .string { data := #[] }, .bool false, .int .i64 0, .slice none 0 0, .slice none 0 0]
set_option maxHeartbeats 4000000 in
set_option maxRecDepth 100000 in
theorem again_one (e : Se) (w : World) : Calls Tryz.prog 66 #[.agg #[.int .i64 e.i, .int .i64 e.s, .string e.t, .string e.x, .int .i64 e.q, .bool e.r]] w fun x w' => x = .returned (.agg (pk e).toArray) ∧ Below w.heap.size w w' := by
  have hg : ((w.alloc (.cells #[.int .i64 e.i, .int .i64 e.s, .string e.t, .string e.x, .int .i64 e.q, .bool e.r] 118)).alloc (.cells #[.int .i64 0, .int .i64 0, .bool false, .string { data := #[] }, .string { data := #[] }, .int .i64 0, .bool false, .int .i64 0, .bool false, .int .i64 0, .string { data := #[] }, .bool false, .string { data := #[] }, .string { data := #[] }, .int .i64 0, .bool false, .bool false, .string { data := #[] }, .bool false, .string { data := #[] }, .bool false, .int .i64 0, .slice none 0 0, .slice none 0 0] 72)).heap[w.heap.size + 1]? = some (.cells #[.int .i64 0, .int .i64 0, .bool false, .string { data := #[] }, .string { data := #[] }, .int .i64 0, .bool false, .int .i64 0, .bool false, .int .i64 0, .string { data := #[] }, .bool false, .string { data := #[] }, .string { data := #[] }, .int .i64 0, .bool false, .bool false, .string { data := #[] }, .bool false, .string { data := #[] }, .bool false, .int .i64 0, .slice none 0 0, .slice none 0 0] 72 (0, 0)) := heap_alloc2_new w _ _
  have hE : ((w.alloc (.cells #[.int .i64 e.i, .int .i64 e.s, .string e.t, .string e.x, .int .i64 e.q, .bool e.r] 118)).alloc (.cells #[.int .i64 0, .int .i64 0, .bool false, .string { data := #[] }, .string { data := #[] }, .int .i64 0, .bool false, .int .i64 0, .bool false, .int .i64 0, .string { data := #[] }, .bool false, .string { data := #[] }, .string { data := #[] }, .int .i64 0, .bool false, .bool false, .string { data := #[] }, .bool false, .string { data := #[] }, .bool false, .int .i64 0, .slice none 0 0, .slice none 0 0] 72)).setRow (w.heap.size + 1) (pk e).toArray = (w.alloc (.cells #[.int .i64 e.i, .int .i64 e.s, .string e.t, .string e.x, .int .i64 e.q, .bool e.r] 118)).alloc (.cells (pk e).toArray 72) := by
    have := World.setRow_alloc_new (w.alloc (.cells #[.int .i64 e.i, .int .i64 e.s, .string e.t, .string e.x, .int .i64 e.q, .bool e.r] 118)) #[.int .i64 0, .int .i64 0, .bool false, .string { data := #[] }, .string { data := #[] }, .int .i64 0, .bool false, .int .i64 0, .bool false, .int .i64 0, .string { data := #[] }, .bool false, .string { data := #[] }, .string { data := #[] }, .int .i64 0, .bool false, .bool false, .string { data := #[] }, .bool false, .string { data := #[] }, .bool false, .int .i64 0, .slice none 0 0, .slice none 0 0] (pk e).toArray 72
    rw [World.size_alloc] at this
    exact this
  have hg2 : ((w.alloc (.cells #[.int .i64 e.i, .int .i64 e.s, .string e.t, .string e.x, .int .i64 e.q, .bool e.r] 118)).alloc (.cells (pk e).toArray 72)).heap[w.heap.size + 1]? = some (.cells (pk e).toArray 72 (0, 0)) := heap_alloc2_new w _ _
  have hB := ext_two w (.cells #[.int .i64 e.i, .int .i64 e.s, .string e.t, .string e.x, .int .i64 e.q, .bool e.r] 118) (.cells (pk e).toArray 72)
  have hall := pk_all e
  have hsz : (Tryz.prog.info? 72).map (fun i => i.size) = some (pk e).toArray.size := by rw [size78]; simp [pk_len]
  have hzs : (#[.int .i64 0, .int .i64 0, .bool false, .string { data := #[] }, .string { data := #[] }, .int .i64 0, .bool false, .int .i64 0, .bool false, .int .i64 0, .string { data := #[] }, .bool false, .string { data := #[] }, .string { data := #[] }, .int .i64 0, .bool false, .bool false, .string { data := #[] }, .bool false, .string { data := #[] }, .bool false, .int .i64 0, .slice none 0 0, .slice none 0 0] : Array Value).size = (pk e).toArray.size := by simp [pk_len]
  replace hg := Lib.hid hg
  replace hE := Lib.hid hE
  replace hg2 := Lib.hid hg2
  replace hB := Lib.hid hB
  replace hall := Lib.hid hall
  replace hsz := Lib.hid hsz
  replace hzs := Lib.hid hzs
  cases hs : (e.s == 3)
  · have hn : e.s ≠ 3 := by simpa using hs
    have hp : pk e = pkP e := if_neg hn
    rw [hp] at hE hg2 hB hall hsz hzs ⊢
    clear hp hn
    go_enter Tryz.func66, Tryz.ntmps66
    go_wp2_with (refine wpList_store_row rfl 72 (.tmp 2) (.tmp 13) rfl (w.heap.size + 1) (pkP e).toArray rfl rfl 72 _ hg.out hsz.out hzs.out hall.out ?_; rw [hE.out])
    exact bodyPost_ret_by (results_cell_row rfl _ _ (w.heap.size + 1) 72 (pkP e).toArray (0, 0) _ rfl hg2.out Tryz.underlying72 rfl hsz.out) rfl ⟨rfl, hB.out⟩
  · have hn : e.s = 3 := by simpa using hs
    have hp : pk e = pkR e := if_pos hn
    rw [hp] at hE hg2 hB hall hsz hzs ⊢
    clear hp hn
    go_enter Tryz.func66, Tryz.ntmps66
    go_wp2_with (refine wpList_store_row rfl 72 (.tmp 2) (.tmp 8) rfl (w.heap.size + 1) (pkR e).toArray rfl rfl 72 _ hg.out hsz.out hzs.out hall.out ?_; rw [hE.out])
    exact bodyPost_ret_by (results_cell_row rfl _ _ (w.heap.size + 1) 72 (pkR e).toArray (0, 0) _ rfl hg2.out Tryz.underlying72 rfl hsz.out) rfl ⟨rfl, hB.out⟩
end Go.Proofs.YtceiipcdkonnlaaGreat.Fli

/-
  LAYER 23: Again.
-/
namespace Go.Proofs.YtceiipcdkonnlaaGreat.Fli
set_option linter.unusedSimpArgs false
set_option linter.unusedVariables false
open Go.RowKit Que Hp Ids
def AgF (L : List Se) (w : World) (e : Ending) (w' : World) : Prop := ∃ v, e = .returned v ∧ w'.ownsRow w.heap.size 72 24 v L.length (pkC L) ∧ Below w.heap.size w w'
section
variable {A : Nat → Prop} {w w' : World} {f g : Nat} {T : List Bool} {L : List Se} {v : Value}
set_option maxHeartbeats 8000000 in
set_option maxRecDepth 100000 in
theorem again_any (h : Fw 0 w f g v L) (hL : L.length ≤ 8) : Calls Tryz.prog 40 #[.pointer (some ⟨f, 0, none⟩)] w (AgF L w) := by
  obtain ⟨i3, hi3, hz0, hz1, hz2⟩ := info_parts info78
  have N := Lib.hid (none_any h)
  have AO := Lib.hid again_one
  have c1 := h.c1
  have flt := h.lt
  obtain ⟨a, c, rfl⟩ := own_slice h.its
  have hL' : (L.length : Int) ≤ 8 := by omega
  replace h := Lib.hid h
  go_enter Tryz.func40, Tryz.ntmps40
  go_wp2_with fail
  refine N.out.mono ?_
  rintro e w1 ⟨rfl, rfl⟩
  go_wp2_with fail
  go_loopw [3, 14] (fun v iv wr => ∃ k : Nat, iv = .int .i64 (k : Int) ∧ k ≤ L.length ∧ wr.ownsRow w.heap.size 72 24 v (L.take k).length (pkC (L.take k)) ∧ Below w.heap.size w wr) (fun _ iv _ => L.length - (intOf iv).toNat)
  case atStart => exact ⟨0, rfl, by omega, World.ownsRow_nil _ _ _ _, Below.refl _ _⟩
  case round =>
    obtain ⟨k, rfl, hk, o, hb⟩ := hrel
    have HB := Lib.hid hb
    have hll : (L.take k).length ≤ 8 := by rw [List.length_take]; omega
    obtain ⟨M, hM⟩ : ∃ M, M = L.take k := ⟨_, rfl⟩
    rw [← hM] at o hll
    obtain ⟨va, vc, rfl⟩ := own_slice o
    by_cases hlt : k < L.length
    · have hlt' : (k : Int) < (L.length : Int) := by omega
      obtain ⟨e, he⟩ : ∃ e, L[k]? = some e := ⟨_, List.getElem?_eq_getElem hlt⟩
      obtain ⟨gb, cb, hv⟩ := own_slice' h.out.its (by omega)
      obtain ⟨q0, q1, q2, q3, q4, q5⟩ := (h.out.keep hb).at hv he
      simp only [Value.slice.injEq] at hv
      obtain ⟨rfl, -, rfl⟩ := hv
      have sz := hb.size
      have E : L.take (k + 1) = M ++ [e] := by
        obtain ⟨h1, h2⟩ := List.getElem?_eq_some_iff.1 he
        rw [List.take_succ_eq_append_getElem h1, h2, hM]
      have hba := ext_alloc wr (.cells #[.int .i64 e.i, .int .i64 e.s, .string e.t, .string e.x, .int .i64 e.q, .bool e.r] 118)
      by_cases hs : e.s = 3
      · have hp : pk e = [.int .i64 6, .int .i64 e.i, .bool false, .string { data := #[] }, .string { data := #[] }, .int .i64 0, .bool false, .int .i64 0, .bool false, .int .i64 0, .string { data := #[] }, .bool false, .string { data := #[] }, .string { data := #[] }, .int .i64 0, .bool false, .bool false, .string { data := #[] }, .bool false, .string { data := #[] }, .bool false, .int .i64 0, .slice none 0 0, .slice none 0 0] := if_pos hs
        have I := AO.out e (wr.alloc (.cells #[.int .i64 e.i, .int .i64 e.s, .string e.t, .string e.x, .int .i64 e.q, .bool e.r] 118))
        rw [hp] at I
        replace I : Hid (Calls Tryz.prog 66 #[.agg #[.int .i64 e.i, .int .i64 e.s, .string e.t, .string e.x, .int .i64 e.q, .bool e.r]] (wr.alloc (.cells #[.int .i64 e.i, .int .i64 e.s, .string e.t, .string e.x, .int .i64 e.q, .bool e.r] 118)) fun x w' => x = .returned (.agg #[.int .i64 6, .int .i64 e.i, .bool false, .string { data := #[] }, .string { data := #[] }, .int .i64 0, .bool false, .int .i64 0, .bool false, .int .i64 0, .string { data := #[] }, .bool false, .string { data := #[] }, .string { data := #[] }, .int .i64 0, .bool false, .bool false, .string { data := #[] }, .bool false, .string { data := #[] }, .bool false, .int .i64 0, .slice none 0 0, .slice none 0 0]) ∧ Below (wr.alloc (.cells #[.int .i64 e.i, .int .i64 e.s, .string e.t, .string e.x, .int .i64 e.q, .bool e.r] 118)).heap.size (wr.alloc (.cells #[.int .i64 e.i, .int .i64 e.s, .string e.t, .string e.x, .int .i64 e.q, .bool e.r] 118)) w') := Lib.hid I
        replace hp := Lib.hid hp
        replace hs := Lib.hid hs
        replace E := Lib.hid E
        replace hM := Lib.hid hM
        replace hba := Lib.hid hba
        replace o := Lib.hid o
        clear hb he
        go_wp2_with fail
        refine I.out.mono ?_
        rintro x w2 ⟨rfl, b2⟩
        have B2 := Lib.hid (ext_trans hba.out b2)
        have oA := Lib.hid (own_keep (own_keep o.out B2.out) (ext_alloc w2 (.cells #[.int .i64 6, .int .i64 e.i, .bool false, .string { data := #[] }, .string { data := #[] }, .int .i64 0, .bool false, .int .i64 0, .bool false, .int .i64 0, .string { data := #[] }, .bool false, .string { data := #[] }, .string { data := #[] }, .int .i64 0, .bool false, .bool false, .string { data := #[] }, .bool false, .string { data := #[] }, .bool false, .int .i64 0, .slice none 0 0, .slice none 0 0] 72)))
        have sz2 := Lib.hid (show w.heap.size ≤ w2.heap.size from Nat.le_trans sz B2.out.size)
        have hnew : Hid (∀ j u, ([.int .i64 6, .int .i64 e.i, .bool false, .string { data := #[] }, .string { data := #[] }, .int .i64 0, .bool false, .int .i64 0, .bool false, .int .i64 0, .string { data := #[] }, .bool false, .string { data := #[] }, .string { data := #[] }, .int .i64 0, .bool false, .bool false, .string { data := #[] }, .bool false, .string { data := #[] }, .bool false, .int .i64 0, .slice none 0 0, .slice none 0 0] : List Value)[j]? = some u → (w2.alloc (.cells #[.int .i64 6, .int .i64 e.i, .bool false, .string { data := #[] }, .string { data := #[] }, .int .i64 0, .bool false, .int .i64 0, .bool false, .int .i64 0, .string { data := #[] }, .bool false, .string { data := #[] }, .string { data := #[] }, .int .i64 0, .bool false, .bool false, .string { data := #[] }, .bool false, .string { data := #[] }, .bool false, .int .i64 0, .slice none 0 0, .slice none 0 0] 72)).cell? ((⟨w2.heap.size, 0, none⟩ : Addr).add j) = some u) := Lib.hid (by
          intro j u hj
          have := cell_of_row (w2.alloc (.cells #[.int .i64 6, .int .i64 e.i, .bool false, .string { data := #[] }, .string { data := #[] }, .int .i64 0, .bool false, .int .i64 0, .bool false, .int .i64 0, .string { data := #[] }, .bool false, .string { data := #[] }, .string { data := #[] }, .int .i64 0, .bool false, .bool false, .string { data := #[] }, .bool false, .string { data := #[] }, .bool false, .int .i64 0, .slice none 0 0, .slice none 0 0] 72)) w2.heap.size j _ 72 (0, 0) (heap_alloc_new w2 _)
          rw [add_off', Nat.zero_add, this, ← hj]
          exact List.getElem?_toArray)
        have hpo : Hid (∀ u ∈ ([.int .i64 6, .int .i64 e.i, .bool false, .string { data := #[] }, .string { data := #[] }, .int .i64 0, .bool false, .int .i64 0, .bool false, .int .i64 0, .string { data := #[] }, .bool false, .string { data := #[] }, .string { data := #[] }, .int .i64 0, .bool false, .bool false, .string { data := #[] }, .bool false, .string { data := #[] }, .bool false, .int .i64 0, .slice none 0 0, .slice none 0 0] : List Value), u.oneCell' = true) := Lib.hid (by rw [← hp.out]; exact pk_one e)
        clear b2 I
        go_wp2_with (first
          | (at_builtin; go_loud (refine wpList_append_own _ rfl (.tmp 18) (.tmp 21) 64 rfl w.heap.size 72 i3 zP 24 280 Tryz.underlying64 hi3 hz0 hz1 hz2 rfl (by decide) (.slice va M.length vc) M.length (pkC M) rfl oA.out ⟨w2.heap.size, 0, none⟩ 1 1 [.int .i64 6, .int .i64 e.i, .bool false, .string { data := #[] }, .string { data := #[] }, .int .i64 0, .bool false, .int .i64 0, .bool false, .int .i64 0, .string { data := #[] }, .bool false, .string { data := #[] }, .string { data := #[] }, .int .i64 0, .bool false, .bool false, .string { data := #[] }, .bool false, .string { data := #[] }, .bool false, .int .i64 0, .slice none 0 0, .slice none 0 0] rfl rfl hnew.out hpo.out (by unfold maxLen; omega) (by omega) (by have := sz2.out; simp; omega) ?_); intro v3 w3 o3 g3 _))
        go_roundw
        case rel => exact ⟨k + 1, by simp, by omega, by rw [E.out, pkC_snoc, hp.out]; simpa using o3, (((HB.out.trans (B2.out.mono sz)).alloc sz2.out _).grown g3 (by have := sz2.out; simp; omega) (fun j hj => (oA.out.lt j hj).1))⟩
        case measure => simp [intOf]; omega
      · have hp : pk e = [.int .i64 3, .int .i64 e.i, .bool true, .string e.t, .string e.x, .int .i64 e.q, .bool e.r, .int .i64 0, .bool false, .int .i64 0, .string { data := #[] }, .bool false, .string { data := #[] }, .string { data := #[] }, .int .i64 0, .bool false, .bool false, .string { data := #[] }, .bool false, .string { data := #[] }, .bool false, .int .i64 0, .slice none 0 0, .slice none 0 0] := if_neg hs
        have I := AO.out e (wr.alloc (.cells #[.int .i64 e.i, .int .i64 e.s, .string e.t, .string e.x, .int .i64 e.q, .bool e.r] 118))
        rw [hp] at I
        replace I : Hid (Calls Tryz.prog 66 #[.agg #[.int .i64 e.i, .int .i64 e.s, .string e.t, .string e.x, .int .i64 e.q, .bool e.r]] (wr.alloc (.cells #[.int .i64 e.i, .int .i64 e.s, .string e.t, .string e.x, .int .i64 e.q, .bool e.r] 118)) fun x w' => x = .returned (.agg #[.int .i64 3, .int .i64 e.i, .bool true, .string e.t, .string e.x, .int .i64 e.q, .bool e.r, .int .i64 0, .bool false, .int .i64 0, .string { data := #[] }, .bool false, .string { data := #[] }, .string { data := #[] }, .int .i64 0, .bool false, .bool false, .string { data := #[] }, .bool false, .string { data := #[] }, .bool false, .int .i64 0, .slice none 0 0, .slice none 0 0]) ∧ Below (wr.alloc (.cells #[.int .i64 e.i, .int .i64 e.s, .string e.t, .string e.x, .int .i64 e.q, .bool e.r] 118)).heap.size (wr.alloc (.cells #[.int .i64 e.i, .int .i64 e.s, .string e.t, .string e.x, .int .i64 e.q, .bool e.r] 118)) w') := Lib.hid I
        replace hp := Lib.hid hp
        replace hs := Lib.hid hs
        replace E := Lib.hid E
        replace hM := Lib.hid hM
        replace hba := Lib.hid hba
        replace o := Lib.hid o
        clear hb he
        go_wp2_with fail
        refine I.out.mono ?_
        rintro x w2 ⟨rfl, b2⟩
        have B2 := Lib.hid (ext_trans hba.out b2)
        have oA := Lib.hid (own_keep (own_keep o.out B2.out) (ext_alloc w2 (.cells #[.int .i64 3, .int .i64 e.i, .bool true, .string e.t, .string e.x, .int .i64 e.q, .bool e.r, .int .i64 0, .bool false, .int .i64 0, .string { data := #[] }, .bool false, .string { data := #[] }, .string { data := #[] }, .int .i64 0, .bool false, .bool false, .string { data := #[] }, .bool false, .string { data := #[] }, .bool false, .int .i64 0, .slice none 0 0, .slice none 0 0] 72)))
        have sz2 := Lib.hid (show w.heap.size ≤ w2.heap.size from Nat.le_trans sz B2.out.size)
        have hnew : Hid (∀ j u, ([.int .i64 3, .int .i64 e.i, .bool true, .string e.t, .string e.x, .int .i64 e.q, .bool e.r, .int .i64 0, .bool false, .int .i64 0, .string { data := #[] }, .bool false, .string { data := #[] }, .string { data := #[] }, .int .i64 0, .bool false, .bool false, .string { data := #[] }, .bool false, .string { data := #[] }, .bool false, .int .i64 0, .slice none 0 0, .slice none 0 0] : List Value)[j]? = some u → (w2.alloc (.cells #[.int .i64 3, .int .i64 e.i, .bool true, .string e.t, .string e.x, .int .i64 e.q, .bool e.r, .int .i64 0, .bool false, .int .i64 0, .string { data := #[] }, .bool false, .string { data := #[] }, .string { data := #[] }, .int .i64 0, .bool false, .bool false, .string { data := #[] }, .bool false, .string { data := #[] }, .bool false, .int .i64 0, .slice none 0 0, .slice none 0 0] 72)).cell? ((⟨w2.heap.size, 0, none⟩ : Addr).add j) = some u) := Lib.hid (by
          intro j u hj
          have := cell_of_row (w2.alloc (.cells #[.int .i64 3, .int .i64 e.i, .bool true, .string e.t, .string e.x, .int .i64 e.q, .bool e.r, .int .i64 0, .bool false, .int .i64 0, .string { data := #[] }, .bool false, .string { data := #[] }, .string { data := #[] }, .int .i64 0, .bool false, .bool false, .string { data := #[] }, .bool false, .string { data := #[] }, .bool false, .int .i64 0, .slice none 0 0, .slice none 0 0] 72)) w2.heap.size j _ 72 (0, 0) (heap_alloc_new w2 _)
          rw [add_off', Nat.zero_add, this, ← hj]
          exact List.getElem?_toArray)
        have hpo : Hid (∀ u ∈ ([.int .i64 3, .int .i64 e.i, .bool true, .string e.t, .string e.x, .int .i64 e.q, .bool e.r, .int .i64 0, .bool false, .int .i64 0, .string { data := #[] }, .bool false, .string { data := #[] }, .string { data := #[] }, .int .i64 0, .bool false, .bool false, .string { data := #[] }, .bool false, .string { data := #[] }, .bool false, .int .i64 0, .slice none 0 0, .slice none 0 0] : List Value), u.oneCell' = true) := Lib.hid (by rw [← hp.out]; exact pk_one e)
        clear b2 I
        go_wp2_with (first
          | (at_builtin; go_loud (refine wpList_append_own _ rfl (.tmp 18) (.tmp 21) 64 rfl w.heap.size 72 i3 zP 24 280 Tryz.underlying64 hi3 hz0 hz1 hz2 rfl (by decide) (.slice va M.length vc) M.length (pkC M) rfl oA.out ⟨w2.heap.size, 0, none⟩ 1 1 [.int .i64 3, .int .i64 e.i, .bool true, .string e.t, .string e.x, .int .i64 e.q, .bool e.r, .int .i64 0, .bool false, .int .i64 0, .string { data := #[] }, .bool false, .string { data := #[] }, .string { data := #[] }, .int .i64 0, .bool false, .bool false, .string { data := #[] }, .bool false, .string { data := #[] }, .bool false, .int .i64 0, .slice none 0 0, .slice none 0 0] rfl rfl hnew.out hpo.out (by unfold maxLen; omega) (by omega) (by have := sz2.out; simp; omega) ?_); intro v3 w3 o3 g3 _))
        go_roundw
        case rel => exact ⟨k + 1, by simp, by omega, by rw [E.out, pkC_snoc, hp.out]; simpa using o3, (((HB.out.trans (B2.out.mono sz)).alloc sz2.out _).grown g3 (by have := sz2.out; simp; omega) (fun j hj => (oA.out.lt j hj).1))⟩
        case measure => simp [intOf]; omega
    · obtain rfl : k = L.length := by omega
      rw [List.take_length] at hM
      subst hM
      have o' := Lib.hid o
      clear hb hk o
      go_wp2_with fail
      go_ret
      exact ⟨_, rfl, o'.out, HB.out⟩
theorem f_again (h : Fs A w f g T L) : Calls Tryz.prog 40 #[.pointer (some ⟨f, 0, none⟩)] w (AgF L w) := by
  obtain ⟨v, r, d, av⟩ := h.ex
  exact again_any r h.le
end
end Go.Proofs.YtceiipcdkonnlaaGreat.Fli
