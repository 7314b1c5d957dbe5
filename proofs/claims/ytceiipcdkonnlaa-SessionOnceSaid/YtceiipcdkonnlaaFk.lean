/-
  LAYER 23: Again.
-/
import Derived.Test.YtceiipcdkonnlaaFj
namespace Go.Proofs.Ytceiipcdkonnlaa.Fli
set_option linter.unusedSimpArgs false
set_option linter.unusedVariables false
open Go.RowKit Que Hp Ids
def AgF (L : List Se) (w : World) (e : Ending) (w' : World) : Prop := ∃ v, e = .returned v ∧ w'.ownsRow w.heap.size 78 24 v L.length (pkC L) ∧ Below w.heap.size w w'
section
variable {A : Nat → Prop} {w w' : World} {f g : Nat} {T : List Bool} {L : List Se} {v : Value}
set_option maxHeartbeats 8000000 in
set_option maxRecDepth 100000 in
theorem again_any (h : Fw 0 w f g v L) (hL : L.length ≤ 8) : Calls Try.prog 37 #[.pointer (some ⟨f, 0, none⟩)] w (AgF L w) := by
  obtain ⟨i3, hi3, hz0, hz1, hz2⟩ := info_parts info78
  have N := Lib.hid (none_any h)
  have AO := Lib.hid again_one
  have c1 := h.c1
  have flt := h.lt
  obtain ⟨a, c, rfl⟩ := own_slice h.its
  have hL' : (L.length : Int) ≤ 8 := by omega
  replace h := Lib.hid h
  go_enter Try.func37, Try.ntmps37
  go_wp2_with fail
  refine N.out.mono ?_
  rintro e w1 ⟨rfl, rfl⟩
  go_wp2_with fail
  go_loopw [3, 14] (fun v iv wr => ∃ k : Nat, iv = .int .i64 (k : Int) ∧ k ≤ L.length ∧ wr.ownsRow w.heap.size 78 24 v (L.take k).length (pkC (L.take k)) ∧ Below w.heap.size w wr) (fun _ iv _ => L.length - (intOf iv).toNat)
  case atStart => exact ⟨0, rfl, by omega, World.ownsRow_nil _ _ _ _, Below.refl _ _⟩
  case round =>
    obtain ⟨k, rfl, hk, o, hb⟩ := hrel
    have HB := Lib.hid hb
    have hll : (L.take k).length ≤ 8 := by rw [List.length_take]; omega
    obtain ⟨M, hM⟩ : ∃ M, M = L.take k := ⟨_, rfl⟩
    rw [← hM] at o hll
    obtain ⟨va, vc, rfl⟩ := own_slice o
    by_cases hlt : k < L.length
    · have hlt' : (k : Int) < (L.length : Int) := by omega
      obtain ⟨e, he⟩ : ∃ e, L[k]? = some e := ⟨_, List.getElem?_eq_getElem hlt⟩
      obtain ⟨gb, cb, hv⟩ := own_slice' h.out.its (by omega)
      obtain ⟨q0, q1, q2, q3, q4, q5⟩ := (h.out.keep hb).at hv he
      simp only [Value.slice.injEq] at hv
      obtain ⟨rfl, -, rfl⟩ := hv
      have sz := hb.size
      have E : L.take (k + 1) = M ++ [e] := by
        obtain ⟨h1, h2⟩ := List.getElem?_eq_some_iff.1 he
        rw [List.take_succ_eq_append_getElem h1, h2, hM]
      have hba := ext_alloc wr (.cells #[.int .i64 e.i, .int .i64 e.s, .string e.t, .string e.x, .int .i64 e.q, .bool e.r] 101)
      by_cases hs : e.s = 3
      · have hp : pk e = [.int .i64 6, .int .i64 e.i, .bool false, .string { data := #[] }, .string { data := #[] }, .int .i64 0, .bool false, .int .i64 0, .bool false, .int .i64 0, .string { data := #[] }, .bool false, .string { data := #[] }, .string { data := #[] }, .int .i64 0, .bool false, .bool false, .string { data := #[] }, .bool false, .string { data := #[] }, .bool false, .int .i64 0, .slice none 0 0, .slice none 0 0] := if_pos hs
        have I := AO.out e (wr.alloc (.cells #[.int .i64 e.i, .int .i64 e.s, .string e.t, .string e.x, .int .i64 e.q, .bool e.r] 101))
        rw [hp] at I
        replace I : Hid (Calls Try.prog 58 #[.agg #[.int .i64 e.i, .int .i64 e.s, .string e.t, .string e.x, .int .i64 e.q, .bool e.r]] (wr.alloc (.cells #[.int .i64 e.i, .int .i64 e.s, .string e.t, .string e.x, .int .i64 e.q, .bool e.r] 101)) fun x w' => x = .returned (.agg #[.int .i64 6, .int .i64 e.i, .bool false, .string { data := #[] }, .string { data := #[] }, .int .i64 0, .bool false, .int .i64 0, .bool false, .int .i64 0, .string { data := #[] }, .bool false, .string { data := #[] }, .string { data := #[] }, .int .i64 0, .bool false, .bool false, .string { data := #[] }, .bool false, .string { data := #[] }, .bool false, .int .i64 0, .slice none 0 0, .slice none 0 0]) ∧ Below (wr.alloc (.cells #[.int .i64 e.i, .int .i64 e.s, .string e.t, .string e.x, .int .i64 e.q, .bool e.r] 101)).heap.size (wr.alloc (.cells #[.int .i64 e.i, .int .i64 e.s, .string e.t, .string e.x, .int .i64 e.q, .bool e.r] 101)) w') := Lib.hid I
        replace hp := Lib.hid hp
        replace hs := Lib.hid hs
        replace E := Lib.hid E
        replace hM := Lib.hid hM
        replace hba := Lib.hid hba
        replace o := Lib.hid o
        clear hb he
        go_wp2_with fail
        refine I.out.mono ?_
        rintro x w2 ⟨rfl, b2⟩
        have B2 := Lib.hid (ext_trans hba.out b2)
        have oA := Lib.hid (own_keep (own_keep o.out B2.out) (ext_alloc w2 (.cells #[.int .i64 6, .int .i64 e.i, .bool false, .string { data := #[] }, .string { data := #[] }, .int .i64 0, .bool false, .int .i64 0, .bool false, .int .i64 0, .string { data := #[] }, .bool false, .string { data := #[] }, .string { data := #[] }, .int .i64 0, .bool false, .bool false, .string { data := #[] }, .bool false, .string { data := #[] }, .bool false, .int .i64 0, .slice none 0 0, .slice none 0 0] 78)))
        have sz2 := Lib.hid (show w.heap.size ≤ w2.heap.size from Nat.le_trans sz B2.out.size)
        have hnew : Hid (∀ j u, ([.int .i64 6, .int .i64 e.i, .bool false, .string { data := #[] }, .string { data := #[] }, .int .i64 0, .bool false, .int .i64 0, .bool false, .int .i64 0, .string { data := #[] }, .bool false, .string { data := #[] }, .string { data := #[] }, .int .i64 0, .bool false, .bool false, .string { data := #[] }, .bool false, .string { data := #[] }, .bool false, .int .i64 0, .slice none 0 0, .slice none 0 0] : List Value)[j]? = some u → (w2.alloc (.cells #[.int .i64 6, .int .i64 e.i, .bool false, .string { data := #[] }, .string { data := #[] }, .int .i64 0, .bool false, .int .i64 0, .bool false, .int .i64 0, .string { data := #[] }, .bool false, .string { data := #[] }, .string { data := #[] }, .int .i64 0, .bool false, .bool false, .string { data := #[] }, .bool false, .string { data := #[] }, .bool false, .int .i64 0, .slice none 0 0, .slice none 0 0] 78)).cell? ((⟨w2.heap.size, 0, none⟩ : Addr).add j) = some u) := Lib.hid (by
          intro j u hj
          have := cell_of_row (w2.alloc (.cells #[.int .i64 6, .int .i64 e.i, .bool false, .string { data := #[] }, .string { data := #[] }, .int .i64 0, .bool false, .int .i64 0, .bool false, .int .i64 0, .string { data := #[] }, .bool false, .string { data := #[] }, .string { data := #[] }, .int .i64 0, .bool false, .bool false, .string { data := #[] }, .bool false, .string { data := #[] }, .bool false, .int .i64 0, .slice none 0 0, .slice none 0 0] 78)) w2.heap.size j _ 78 (0, 0) (heap_alloc_new w2 _)
          rw [add_off', Nat.zero_add, this, ← hj]
          exact List.getElem?_toArray)
        have hpo : Hid (∀ u ∈ ([.int .i64 6, .int .i64 e.i, .bool false, .string { data := #[] }, .string { data := #[] }, .int .i64 0, .bool false, .int .i64 0, .bool false, .int .i64 0, .string { data := #[] }, .bool false, .string { data := #[] }, .string { data := #[] }, .int .i64 0, .bool false, .bool false, .string { data := #[] }, .bool false, .string { data := #[] }, .bool false, .int .i64 0, .slice none 0 0, .slice none 0 0] : List Value), u.oneCell' = true) := Lib.hid (by rw [← hp.out]; exact pk_one e)
        clear b2 I
        go_wp2_with (first
          | (at_builtin; go_loud (refine wpList_append_own _ rfl (.tmp 18) (.tmp 21) 31 rfl w.heap.size 78 i3 zP 24 280 Try.underlying31 hi3 hz0 hz1 hz2 rfl (by decide) (.slice va M.length vc) M.length (pkC M) rfl oA.out ⟨w2.heap.size, 0, none⟩ 1 1 [.int .i64 6, .int .i64 e.i, .bool false, .string { data := #[] }, .string { data := #[] }, .int .i64 0, .bool false, .int .i64 0, .bool false, .int .i64 0, .string { data := #[] }, .bool false, .string { data := #[] }, .string { data := #[] }, .int .i64 0, .bool false, .bool false, .string { data := #[] }, .bool false, .string { data := #[] }, .bool false, .int .i64 0, .slice none 0 0, .slice none 0 0] rfl rfl hnew.out hpo.out (by unfold maxLen; omega) (by omega) (by have := sz2.out; simp; omega) ?_); intro v3 w3 o3 g3 _))
        go_roundw
        case rel => exact ⟨k + 1, by simp, by omega, by rw [E.out, pkC_snoc, hp.out]; simpa using o3, (((HB.out.trans (B2.out.mono sz)).alloc sz2.out _).grown g3 (by have := sz2.out; simp; omega) (fun j hj => (oA.out.lt j hj).1))⟩
        case measure => simp [intOf]; omega
      · have hp : pk e = [.int .i64 3, .int .i64 e.i, .bool true, .string e.t, .string e.x, .int .i64 e.q, .bool e.r, .int .i64 0, .bool false, .int .i64 0, .string { data := #[] }, .bool false, .string { data := #[] }, .string { data := #[] }, .int .i64 0, .bool false, .bool false, .string { data := #[] }, .bool false, .string { data := #[] }, .bool false, .int .i64 0, .slice none 0 0, .slice none 0 0] := if_neg hs
        have I := AO.out e (wr.alloc (.cells #[.int .i64 e.i, .int .i64 e.s, .string e.t, .string e.x, .int .i64 e.q, .bool e.r] 101))
        rw [hp] at I
        replace I : Hid (Calls Try.prog 58 #[.agg #[.int .i64 e.i, .int .i64 e.s, .string e.t, .string e.x, .int .i64 e.q, .bool e.r]] (wr.alloc (.cells #[.int .i64 e.i, .int .i64 e.s, .string e.t, .string e.x, .int .i64 e.q, .bool e.r] 101)) fun x w' => x = .returned (.agg #[.int .i64 3, .int .i64 e.i, .bool true, .string e.t, .string e.x, .int .i64 e.q, .bool e.r, .int .i64 0, .bool false, .int .i64 0, .string { data := #[] }, .bool false, .string { data := #[] }, .string { data := #[] }, .int .i64 0, .bool false, .bool false, .string { data := #[] }, .bool false, .string { data := #[] }, .bool false, .int .i64 0, .slice none 0 0, .slice none 0 0]) ∧ Below (wr.alloc (.cells #[.int .i64 e.i, .int .i64 e.s, .string e.t, .string e.x, .int .i64 e.q, .bool e.r] 101)).heap.size (wr.alloc (.cells #[.int .i64 e.i, .int .i64 e.s, .string e.t, .string e.x, .int .i64 e.q, .bool e.r] 101)) w') := Lib.hid I
        replace hp := Lib.hid hp
        replace hs := Lib.hid hs
        replace E := Lib.hid E
        replace hM := Lib.hid hM
        replace hba := Lib.hid hba
        replace o := Lib.hid o
        clear hb he
        go_wp2_with fail
        refine I.out.mono ?_
        rintro x w2 ⟨rfl, b2⟩
        have B2 := Lib.hid (ext_trans hba.out b2)
        have oA := Lib.hid (own_keep (own_keep o.out B2.out) (ext_alloc w2 (.cells #[.int .i64 3, .int .i64 e.i, .bool true, .string e.t, .string e.x, .int .i64 e.q, .bool e.r, .int .i64 0, .bool false, .int .i64 0, .string { data := #[] }, .bool false, .string { data := #[] }, .string { data := #[] }, .int .i64 0, .bool false, .bool false, .string { data := #[] }, .bool false, .string { data := #[] }, .bool false, .int .i64 0, .slice none 0 0, .slice none 0 0] 78)))
        have sz2 := Lib.hid (show w.heap.size ≤ w2.heap.size from Nat.le_trans sz B2.out.size)
        have hnew : Hid (∀ j u, ([.int .i64 3, .int .i64 e.i, .bool true, .string e.t, .string e.x, .int .i64 e.q, .bool e.r, .int .i64 0, .bool false, .int .i64 0, .string { data := #[] }, .bool false, .string { data := #[] }, .string { data := #[] }, .int .i64 0, .bool false, .bool false, .string { data := #[] }, .bool false, .string { data := #[] }, .bool false, .int .i64 0, .slice none 0 0, .slice none 0 0] : List Value)[j]? = some u → (w2.alloc (.cells #[.int .i64 3, .int .i64 e.i, .bool true, .string e.t, .string e.x, .int .i64 e.q, .bool e.r, .int .i64 0, .bool false, .int .i64 0, .string { data := #[] }, .bool false, .string { data := #[] }, .string { data := #[] }, .int .i64 0, .bool false, .bool false, .string { data := #[] }, .bool false, .string { data := #[] }, .bool false, .int .i64 0, .slice none 0 0, .slice none 0 0] 78)).cell? ((⟨w2.heap.size, 0, none⟩ : Addr).add j) = some u) := Lib.hid (by
          intro j u hj
          have := cell_of_row (w2.alloc (.cells #[.int .i64 3, .int .i64 e.i, .bool true, .string e.t, .string e.x, .int .i64 e.q, .bool e.r, .int .i64 0, .bool false, .int .i64 0, .string { data := #[] }, .bool false, .string { data := #[] }, .string { data := #[] }, .int .i64 0, .bool false, .bool false, .string { data := #[] }, .bool false, .string { data := #[] }, .bool false, .int .i64 0, .slice none 0 0, .slice none 0 0] 78)) w2.heap.size j _ 78 (0, 0) (heap_alloc_new w2 _)
          rw [add_off', Nat.zero_add, this, ← hj]
          exact List.getElem?_toArray)
        have hpo : Hid (∀ u ∈ ([.int .i64 3, .int .i64 e.i, .bool true, .string e.t, .string e.x, .int .i64 e.q, .bool e.r, .int .i64 0, .bool false, .int .i64 0, .string { data := #[] }, .bool false, .string { data := #[] }, .string { data := #[] }, .int .i64 0, .bool false, .bool false, .string { data := #[] }, .bool false, .string { data := #[] }, .bool false, .int .i64 0, .slice none 0 0, .slice none 0 0] : List Value), u.oneCell' = true) := Lib.hid (by rw [← hp.out]; exact pk_one e)
        clear b2 I
        go_wp2_with (first
          | (at_builtin; go_loud (refine wpList_append_own _ rfl (.tmp 18) (.tmp 21) 31 rfl w.heap.size 78 i3 zP 24 280 Try.underlying31 hi3 hz0 hz1 hz2 rfl (by decide) (.slice va M.length vc) M.length (pkC M) rfl oA.out ⟨w2.heap.size, 0, none⟩ 1 1 [.int .i64 3, .int .i64 e.i, .bool true, .string e.t, .string e.x, .int .i64 e.q, .bool e.r, .int .i64 0, .bool false, .int .i64 0, .string { data := #[] }, .bool false, .string { data := #[] }, .string { data := #[] }, .int .i64 0, .bool false, .bool false, .string { data := #[] }, .bool false, .string { data := #[] }, .bool false, .int .i64 0, .slice none 0 0, .slice none 0 0] rfl rfl hnew.out hpo.out (by unfold maxLen; omega) (by omega) (by have := sz2.out; simp; omega) ?_); intro v3 w3 o3 g3 _))
        go_roundw
        case rel => exact ⟨k + 1, by simp, by omega, by rw [E.out, pkC_snoc, hp.out]; simpa using o3, (((HB.out.trans (B2.out.mono sz)).alloc sz2.out _).grown g3 (by have := sz2.out; simp; omega) (fun j hj => (oA.out.lt j hj).1))⟩
        case measure => simp [intOf]; omega
    · obtain rfl : k = L.length := by omega
      rw [List.take_length] at hM
      subst hM
      have o' := Lib.hid o
      clear hb hk o
      go_wp2_with fail
      go_ret
      exact ⟨_, rfl, o'.out, HB.out⟩
theorem f_again (h : Fs A w f g T L) : Calls Try.prog 37 #[.pointer (some ⟨f, 0, none⟩)] w (AgF L w) := by
  obtain ⟨v, r, d, av⟩ := h.ex
  exact again_any r h.le
end
end Go.Proofs.Ytceiipcdkonnlaa.Fli
