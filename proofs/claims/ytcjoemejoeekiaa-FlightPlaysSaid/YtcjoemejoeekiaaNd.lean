/-
  LAYER 23: the document's Again.
-/
import Derived.Test.YtcjoemejoeekiaaNc
import Derived.Test.YtcjoemejoeekiaaFk
namespace Go.Proofs.Ytcjoemejoeekiaa.Fli
open Go.RowKit Que Hp Ids
section
variable {w w' : World} {x : Nat} {L : List Se} {v : Value} {B : Nat}
set_option maxHeartbeats 8000000 in
set_option maxRecDepth 100000 in
theorem xagain_any (h : Xf B w x v L) (hL : L.length ≤ 8) : Calls Try.prog 33 #[.pointer (some ⟨x, 0, none⟩)] w (AgF L w) := by
  obtain ⟨i3, hi3, hz0, hz1, hz2⟩ := info_parts info78
  have c1 := h.c0
  have flt := h.lt
  obtain ⟨a, c, rfl⟩ := own_slice h.its
  have hL' : (L.length : Int) ≤ 8 := by omega
  replace h := Lib.hid h
  go_enter Try.func33, Try.ntmps33
  go_wp2_with fail
  go_loopw [3, 4] (fun v iv wr => ∃ k : Nat, iv = .int .i64 (k : Int) ∧ k ≤ L.length ∧ wr.ownsRow w.heap.size 78 24 v (L.take k).length (pkC (L.take k)) ∧ Below w.heap.size w wr) (fun _ iv _ => L.length - (intOf iv).toNat)
  case atStart => exact ⟨0, rfl, by omega, World.ownsRow_nil _ _ _ _, Below.refl _ _⟩
  case round =>
    obtain ⟨k, rfl, hk, o, hb⟩ := hrel
    have HB := Lib.hid hb
    have hll : (L.take k).length ≤ 8 := by rw [List.length_take]; omega
    obtain ⟨M, hM⟩ : ∃ M, M = L.take k := ⟨_, rfl⟩
    rw [← hM] at o hll
    obtain ⟨va, vc, rfl⟩ := own_slice o
    have c2 := (hb.cell (p := ⟨x, 0, none⟩) flt).trans c1
    by_cases hlt : k < L.length
    · have hlt' : (k : Int) < (L.length : Int) := by omega
      obtain ⟨e, he⟩ : ∃ e, L[k]? = some e := ⟨_, List.getElem?_eq_getElem hlt⟩
      obtain ⟨gb, cb, hv⟩ := own_slice' h.out.its (by omega)
      have hk2 := h.out.keep hb
      have q0 : wr.cell? ⟨gb, k * 6, none⟩ = some (.int .i64 e.i) := hk2.at hv he (j := 0) (by omega)
      have q1 : wr.cell? ⟨gb, k * 6 + 1, none⟩ = some (.int .i64 e.s) := hk2.at hv he (j := 1) (by omega)
      have q2 : wr.cell? ⟨gb, k * 6 + 2, none⟩ = some (.string e.t) := hk2.at hv he (j := 2) (by omega)
      have q3 : wr.cell? ⟨gb, k * 6 + 3, none⟩ = some (.string e.x) := hk2.at hv he (j := 3) (by omega)
      have q4 : wr.cell? ⟨gb, k * 6 + 4, none⟩ = some (.int .i64 e.q) := hk2.at hv he (j := 4) (by omega)
      have q5 : wr.cell? ⟨gb, k * 6 + 5, none⟩ = some (.bool e.r) := hk2.at hv he (j := 5) (by omega)
      simp only [Value.slice.injEq] at hv
      obtain ⟨rfl, -, rfl⟩ := hv
      have sz := hb.size
      have E : L.take (k + 1) = M ++ [e] := by
        obtain ⟨h1, h2⟩ := List.getElem?_eq_some_iff.1 he
        rw [List.take_succ_eq_append_getElem h1, h2, hM]
      by_cases hs : e.s = 3
      · have hp : pk e = [.int .i64 6, .int .i64 e.i, .bool false, .string { data := #[] }, .string { data := #[] }, .int .i64 0, .bool false, .int .i64 0, .bool false, .int .i64 0, .string { data := #[] }, .bool false, .string { data := #[] }, .string { data := #[] }, .int .i64 0, .bool false, .bool false, .string { data := #[] }, .bool false, .string { data := #[] }, .bool false, .int .i64 0, .slice none 0 0, .slice none 0 0] := if_pos hs
        have hsb : (e.s == 3) = true := by simpa using hs
        have oA := Lib.hid (own_keep o (ext_alloc wr (.cells #[.int .i64 6, .int .i64 e.i, .bool false, .string { data := #[] }, .string { data := #[] }, .int .i64 0, .bool false, .int .i64 0, .bool false, .int .i64 0, .string { data := #[] }, .bool false, .string { data := #[] }, .string { data := #[] }, .int .i64 0, .bool false, .bool false, .string { data := #[] }, .bool false, .string { data := #[] }, .bool false, .int .i64 0, .slice none 0 0, .slice none 0 0] 78)))
        have hnew : Hid (∀ j u, ([.int .i64 6, .int .i64 e.i, .bool false, .string { data := #[] }, .string { data := #[] }, .int .i64 0, .bool false, .int .i64 0, .bool false, .int .i64 0, .string { data := #[] }, .bool false, .string { data := #[] }, .string { data := #[] }, .int .i64 0, .bool false, .bool false, .string { data := #[] }, .bool false, .string { data := #[] }, .bool false, .int .i64 0, .slice none 0 0, .slice none 0 0] : List Value)[j]? = some u → (wr.alloc (.cells #[.int .i64 6, .int .i64 e.i, .bool false, .string { data := #[] }, .string { data := #[] }, .int .i64 0, .bool false, .int .i64 0, .bool false, .int .i64 0, .string { data := #[] }, .bool false, .string { data := #[] }, .string { data := #[] }, .int .i64 0, .bool false, .bool false, .string { data := #[] }, .bool false, .string { data := #[] }, .bool false, .int .i64 0, .slice none 0 0, .slice none 0 0] 78)).cell? ((⟨wr.heap.size, 0, none⟩ : Addr).add j) = some u) := Lib.hid (by
          intro j u hj
          have := cell_of_row (wr.alloc (.cells #[.int .i64 6, .int .i64 e.i, .bool false, .string { data := #[] }, .string { data := #[] }, .int .i64 0, .bool false, .int .i64 0, .bool false, .int .i64 0, .string { data := #[] }, .bool false, .string { data := #[] }, .string { data := #[] }, .int .i64 0, .bool false, .bool false, .string { data := #[] }, .bool false, .string { data := #[] }, .bool false, .int .i64 0, .slice none 0 0, .slice none 0 0] 78)) wr.heap.size j _ 78 (0, 0) (heap_alloc_new wr _)
          rw [add_off', Nat.zero_add, this, ← hj]
          exact List.getElem?_toArray)
        have hpo : Hid (∀ u ∈ ([.int .i64 6, .int .i64 e.i, .bool false, .string { data := #[] }, .string { data := #[] }, .int .i64 0, .bool false, .int .i64 0, .bool false, .int .i64 0, .string { data := #[] }, .bool false, .string { data := #[] }, .string { data := #[] }, .int .i64 0, .bool false, .bool false, .string { data := #[] }, .bool false, .string { data := #[] }, .bool false, .int .i64 0, .slice none 0 0, .slice none 0 0] : List Value), u.oneCell' = true) := Lib.hid (by rw [← hp]; exact pk_one e)
        replace hp := Lib.hid hp
        replace hs := Lib.hid hs
        replace E := Lib.hid E
        replace hM := Lib.hid hM
        clear hb he hk2 o
        go_wp2_with (first
          | (at_builtin; go_loud (refine wpList_append_own _ rfl (.tmp 23) (.tmp 33) 71 rfl w.heap.size 78 i3 zP 24 280 Try.underlying71 hi3 hz0 hz1 hz2 rfl (by decide) (.slice va M.length vc) M.length (pkC M) rfl oA.out ⟨wr.heap.size, 0, none⟩ 1 1 [.int .i64 6, .int .i64 e.i, .bool false, .string { data := #[] }, .string { data := #[] }, .int .i64 0, .bool false, .int .i64 0, .bool false, .int .i64 0, .string { data := #[] }, .bool false, .string { data := #[] }, .string { data := #[] }, .int .i64 0, .bool false, .bool false, .string { data := #[] }, .bool false, .string { data := #[] }, .bool false, .int .i64 0, .slice none 0 0, .slice none 0 0] rfl rfl hnew.out hpo.out (by unfold maxLen; omega) (by omega) (by simp; omega) ?_); intro v3 w3 o3 g3 _))
        go_roundw
        case rel => exact ⟨k + 1, by simp, by omega, by rw [E.out, pkC_snoc, hp.out]; simpa using o3, (HB.out.alloc sz _).grown g3 (by simp; omega) (fun j hj => (oA.out.lt j hj).1)⟩
        case measure => simp [intOf]; omega
      · have hp : pk e = [.int .i64 3, .int .i64 e.i, .bool true, .string e.t, .string e.x, .int .i64 e.q, .bool e.r, .int .i64 0, .bool false, .int .i64 0, .string { data := #[] }, .bool false, .string { data := #[] }, .string { data := #[] }, .int .i64 0, .bool false, .bool false, .string { data := #[] }, .bool false, .string { data := #[] }, .bool false, .int .i64 0, .slice none 0 0, .slice none 0 0] := if_neg hs
        have hsb : (e.s == 3) = false := by simpa using hs
        have KB : Hid (∀ W : World, Below wr.heap.size wr W → W.ownsRow w.heap.size 78 24 (.slice va M.length vc) M.length (pkC M)) := Lib.hid fun W hW => own_keep o hW
        have KN : Hid (∀ W : World, W.heap[wr.heap.size]? = some (.cells #[.int .i64 3, .int .i64 e.i, .bool true, .string e.t, .string e.x, .int .i64 e.q, .bool e.r, .int .i64 0, .bool false, .int .i64 0, .string { data := #[] }, .bool false, .string { data := #[] }, .string { data := #[] }, .int .i64 0, .bool false, .bool false, .string { data := #[] }, .bool false, .string { data := #[] }, .bool false, .int .i64 0, .slice none 0 0, .slice none 0 0] 78 (0, 0)) → ∀ j u, ([.int .i64 3, .int .i64 e.i, .bool true, .string e.t, .string e.x, .int .i64 e.q, .bool e.r, .int .i64 0, .bool false, .int .i64 0, .string { data := #[] }, .bool false, .string { data := #[] }, .string { data := #[] }, .int .i64 0, .bool false, .bool false, .string { data := #[] }, .bool false, .string { data := #[] }, .bool false, .int .i64 0, .slice none 0 0, .slice none 0 0] : List Value)[j]? = some u → W.cell? ((⟨wr.heap.size, 0, none⟩ : Addr).add j) = some u) := Lib.hid (by
          intro W hW j u hj
          have := cell_of_row W wr.heap.size j _ 78 (0, 0) hW
          rw [add_off', Nat.zero_add, this, ← hj]
          exact List.getElem?_toArray)
        have hpo : Hid (∀ u ∈ ([.int .i64 3, .int .i64 e.i, .bool true, .string e.t, .string e.x, .int .i64 e.q, .bool e.r, .int .i64 0, .bool false, .int .i64 0, .string { data := #[] }, .bool false, .string { data := #[] }, .string { data := #[] }, .int .i64 0, .bool false, .bool false, .string { data := #[] }, .bool false, .string { data := #[] }, .bool false, .int .i64 0, .slice none 0 0, .slice none 0 0] : List Value), u.oneCell' = true) := Lib.hid (by rw [← hp]; exact pk_one e)
        have hlts : Hid (∀ j, (Value.slice va M.length vc).ownBlock = some j → w.heap.size ≤ j) := Lib.hid fun j hj => (o.lt j hj).1
        replace hp := Lib.hid hp
        replace hs := Lib.hid hs
        replace E := Lib.hid E
        replace hM := Lib.hid hM
        clear hb he hk2 o
        go_wp2_with fail
        go_region_law (go_must (refine step_append_lies _ rfl (.tmp 35) (.tmp 53) 71 rfl w.heap.size 78 i3 zP 24 280 Try.underlying71 hi3 hz0 hz1 hz2 rfl (by decide) (.slice va M.length vc) M.length (pkC M) rfl (KB.out _ (by first | exact ext_alloc wr _ | exact ext_trans (ext_alloc wr _) (ext_drew _) | exact ext_trans (ext_drew wr) (ext_alloc wr.drew _))) ⟨wr.heap.size, 0, none⟩ 1 1 [.int .i64 3, .int .i64 e.i, .bool true, .string e.t, .string e.x, .int .i64 e.q, .bool e.r, .int .i64 0, .bool false, .int .i64 0, .string { data := #[] }, .bool false, .string { data := #[] }, .string { data := #[] }, .int .i64 0, .bool false, .bool false, .string { data := #[] }, .bool false, .string { data := #[] }, .bool false, .int .i64 0, .slice none 0 0, .slice none 0 0] rfl rfl (KN.out _ (by first | exact heap_alloc_new wr _ | exact heap_alloc_new wr.drew _)) hpo.out (by decide) (by unfold maxLen; omega) (by omega) (by simp; omega) (wr.heap.size + 1) (by simp) ?_); intro gg cap w3 hown1 hgrow hat hlt1)
        all_goals go_wp2_with fail
        all_goals go_roundw
        all_goals first
          | (case rel => exact ⟨k + 1, by simp, by omega, by rw [E.out, pkC_snoc, hp.out]; simpa using hown1, (by first | exact HB.out.drew.alloc sz _ | exact (HB.out.alloc sz _).drew | exact HB.out.alloc sz _ : Below w.heap.size w _).grown hgrow (by simp; omega) (fun j hj => hlts.out j hj)⟩)
          | (case measure => simp [intOf]; omega)
    · obtain rfl : k = L.length := by omega
      rw [List.take_length] at hM
      subst hM
      have o' := Lib.hid o
      clear hb hk o
      go_wp2_with fail
      go_ret
      exact ⟨_, rfl, o'.out, HB.out⟩
end
end Go.Proofs.Ytcjoemejoeekiaa.Fli
