/-
  LAYER 35: the document's May, Ask.
-/
import Derived.Test.YtoijdmchkjmpgaaRh
import Derived.Laws.AppendOwnNone
namespace Go.Proofs.Ytoijdmchkjmpgaa.Rte
open Go.RowKit Que Hp Hg
section
variable {L G : List Gr} {k : ByteArray} {now : Int}
theorem pos (hs : Srt L) (ht : thr L k = false) {j : Nat} {e : Gr} (he : L[j]? = some e) : (j < px L k → e.k.toList < k.toList) ∧ (px L k ≤ j → k.toList < e.k.toList) := by
  refine ⟨fun h => ?_, fun h => ?_⟩
  · have := px_lo h he
    rw [ltS_iff] at this
    exact of_decide_eq_true this
  · have hj := (List.getElem?_eq_some_iff.1 he).1
    have hp : px L k < L.length := by omega
    have hx : L[px L k]? = some L[px L k] := List.getElem?_eq_getElem hp
    have h1 := px_hit hx
    rw [ltS_iff] at h1
    have h2 : L[px L k].k ≠ k := by
      unfold thr at ht
      rw [hx] at ht
      exact of_decide_eq_false ht
    have h3 : k.toList < L[px L k].k.toList := lt_tri (of_decide_eq_false h1) (fun e => h2 (kl_inj e))
    by_cases e1 : j = px L k
    · subst e1
      rw [hx] at he
      obtain rfl := Option.some.inj he
      exact h3
    · obtain ⟨-, rfl⟩ := List.getElem?_eq_some_iff.1 he
      exact List.lt_trans h3 (List.pairwise_iff_getElem.1 hs (px L k) j hp hj (by omega))
theorem thr_no (hs : Srt L) (ht : thr L k = false) : lst L k = none := by
  refine lst_no fun e he e2 => ?_
  obtain ⟨j, hj, rfl⟩ := List.getElem_of_mem he
  obtain ⟨h1, h2⟩ := pos hs ht (List.getElem?_eq_getElem hj)
  rw [e2] at h1 h2
  by_cases h : j < px L k
  · exact List.lt_irrefl _ (h1 h)
  · exact List.lt_irrefl _ (h2 (by omega))
theorem thr_yes (hs : Srt L) (ht : thr L k = true) : ∃ e, L[px L k]? = some e ∧ e.k = k ∧ lst L k = some e.t := by
  unfold thr at ht
  cases hx : L[px L k]? with
  | none => rw [hx] at ht; cases ht
  | some e =>
    rw [hx] at ht
    have := of_decide_eq_true ht
    subst this
    exact ⟨e, rfl, rfl, lst_of hs.nd (List.mem_of_getElem? hx)⟩
def ins (L : List Gr) (k : ByteArray) (now : Int) : List Gr := L.take (px L k) ++ [⟨k, now⟩] ++ L.drop (px L k)
theorem srt_ins (hs : Srt L) (ht : thr L k = false) : Srt (ins L k now) := by
  unfold ins Srt at *
  rw [List.append_assoc, List.pairwise_append]
  refine ⟨hs.sublist (List.take_sublist _ _), ?_, ?_⟩
  · rw [List.singleton_append, List.pairwise_cons]
    refine ⟨fun e he => ?_, hs.sublist (List.drop_sublist _ _)⟩
    obtain ⟨j, hj⟩ := List.mem_iff_getElem?.1 he
    rw [List.getElem?_drop] at hj
    exact (pos hs ht hj).2 (by omega)
  · intro a ha b hb
    obtain ⟨j, hj⟩ := List.mem_iff_getElem?.1 ha
    have hjp : j < px L k := by
      have := (List.getElem?_eq_some_iff.1 hj).1
      rw [List.length_take] at this
      omega
    rw [List.getElem?_take_of_lt hjp] at hj
    have h1 := (pos hs ht hj).1 hjp
    rcases List.mem_append.1 hb with hb | hb
    · rw [List.mem_singleton.1 hb]; exact h1
    · obtain ⟨i, hi⟩ := List.mem_iff_getElem?.1 hb
      rw [List.getElem?_drop] at hi
      exact List.lt_trans h1 ((pos hs ht hi).2 (by omega))
theorem ins_upd (hs : Srt L) (ht : thr L k = false) : Upd k now L (ins L k now) := by
  have hno := thr_no hs ht
  have hsi := srt_ins (now := now) hs ht
  have hm : ∀ e, e ∈ ins L k now ↔ e = ⟨k, now⟩ ∨ e ∈ L := fun e => by
    have h2 : e ∈ L ↔ e ∈ L.take (px L k) ∨ e ∈ L.drop (px L k) := by rw [← List.mem_append, List.take_append_drop]
    unfold ins
    rw [List.mem_append, List.mem_append, List.mem_singleton, h2]
    constructor
    · rintro ((h | h) | h)
      · exact .inr (.inl h)
      · exact .inl h
      · exact .inr (.inr h)
    · rintro (h | h | h)
      · exact .inl (.inr h)
      · exact .inl (.inl h)
      · exact .inr h
  refine ⟨fun x => ?_, ?_⟩
  · by_cases e : k = x
    · subst e
      rw [if_pos rfl]
      exact lst_of hsi.nd (e := ⟨k, now⟩) ((hm _).2 (.inl rfl))
    · rw [if_neg e]
      cases hl : lst L x with
      | none =>
        refine lst_no fun y hy hyx => ?_
        rcases (hm y).1 hy with rfl | hy
        · exact e hyx
        · exact lst_none hl y hy hyx
      | some t =>
        obtain ⟨y, hy, rfl, rfl⟩ := lst_some hl
        exact lst_of hsi.nd ((hm _).2 (.inr hy))
  · rw [hno, if_pos rfl]
    unfold ins
    have hp : px L k ≤ L.length := List.findIdx_le_length
    simp
    omega
theorem srt_set (hs : Srt L) {j : Nat} {e : Gr} (he : L[j]? = some e) (t : Int) : Srt (L.set j ⟨e.k, t⟩) := by
  have hk : (L.set j ⟨e.k, t⟩).map Gr.k = L.map Gr.k := by
    rw [List.map_set]
    apply List.ext_getElem?
    intro i
    by_cases h : j = i
    · subst h
      rw [List.getElem?_set_self (by simpa using (List.getElem?_eq_some_iff.1 he).1), List.getElem?_map, he]; rfl
    · rw [List.getElem?_set_ne h]
  have h1 : List.Pairwise (fun a b : ByteArray => a.toList < b.toList) (L.map Gr.k) := List.pairwise_map.2 hs
  rw [← hk] at h1
  unfold Srt
  exact (List.pairwise_map (f := Gr.k) (R := fun a b : ByteArray => a.toList < b.toList)).1 h1
theorem set_upd (hs : Srt L) {j : Nat} {e : Gr} (he : L[j]? = some e) (t : Int) : Upd e.k t L (L.set j ⟨e.k, t⟩) := by
  refine ⟨fun x => lst_set hs.nd he t x, ?_⟩
  rw [lst_of hs.nd (List.mem_of_getElem? he), if_neg (by simp), List.length_set]
end
section
variable {B : Nat} {w w' : World} {x : Nat} {gap : Int} {v : Value} {L : List Gr}
theorem xtimeF {now : Int} (h : ¬ (0 ≤ now ∧ now ≤ 1073741824)) : (decide (now < 0) || decide (1073741824 < now)) = true := by
  simp; omega
set_option maxHeartbeats 2000000 in
set_option maxRecDepth 100000 in
theorem xmay (h : Xr B w x gap v L) (hs : Srt L) (hL : L.length ≤ 8) (hge : ∀ e ∈ L, 0 ≤ e.t ∧ e.t ≤ 1073741824) (hgp : 0 ≤ gap ∧ gap ≤ 1073741824) (k : ByteArray) (now : Int) : Calls Try.prog 45 #[.pointer (some ⟨x, 0, none⟩), .string k, .int .i64 now] w fun e w' => e = .returned (.bool (may gap L k now)) ∧ ∃ m, w.drewN m = w' := by
  by_cases ht : 0 ≤ now ∧ now ≤ 1073741824
  · have F := Lib.hid (xfind_any h (by omega) k)
    have c0 := h.c0
    have c1 := h.c1
    obtain ⟨t0, t1⟩ := ht
    obtain ⟨gp0, gp1⟩ := hgp
    have hL' : (L.length : Int) ≤ 8 := by omega
    cases htr : thr L k
    · have hm : may gap L k now = decide (L.length < 8) := may_new (thr_no hs htr) ⟨t0, t1⟩
      rw [hm]
      rw [htr] at F
      obtain ⟨a, c, rfl⟩ := own_slice h.its
      have K1 := Lib.hid (fun m => (h.keep (ext_drewN w m)).c1)
      clear h hs hge htr hm
      go_enter Try.func45, Try.ntmps45
      go_wp2_with fail
      refine F.out.mono ?_
      rintro e w1 ⟨rfl, m, rfl⟩
      have k1 := K1.out m
      go_wp2_with fail
      go_ret
      refine ⟨?_, _, rfl⟩
      simp
      omega
    · obtain ⟨e, he, rfl, hl⟩ := thr_yes hs htr
      have hm : may gap L e.k now = decide (gap ≤ now - e.t) := may_one hl ⟨t0, t1⟩
      rw [hm]
      rw [htr] at F
      obtain ⟨g0, g1⟩ := hge e (List.mem_of_getElem? he)
      have hpl := (List.getElem?_eq_some_iff.1 he).1
      obtain ⟨gb, cb, hv⟩ := own_slice' h.its (by omega)
      have cc := (h.at hv he).2
      rw [hv] at c1
      have hpl' : (px L e.k : Int) < (L.length : Int) := by omega
      generalize px L e.k = p at *
      have ew : IntKind.i64.wrap (now - e.t) = now - e.t := IntWalk.i64_in _ (by omega)
      clear h hs hge htr hm hv he hl
      go_enter Try.func45, Try.ntmps45
      go_wp2_with fail
      refine F.out.mono ?_
      rintro y w1 ⟨rfl, m, rfl⟩
      clear F
      go_wp2_with fail
      go_quiet (fail)
      go_wp2_with fail
      go_ret
      exact ⟨rfl, _, by rw [← World.drewN_drewN]⟩
  · have hm : may gap L k now = false := by unfold may; rw [decide_eq_false ht]; rfl
    rw [hm]
    by_cases h0 : now < 0
    · clear h hs hge hm ht
      go_enter Try.func45, Try.ntmps45
      go_wp2_with fail
      go_ret
      exact ⟨rfl, 0, rfl⟩
    · have h1 : 1073741824 < now := by omega
      clear h hs hge hm ht
      go_enter Try.func45, Try.ntmps45
      go_wp2_with fail
      go_ret
      exact ⟨rfl, 0, rfl⟩
end
end Go.Proofs.Ytoijdmchkjmpgaa.Rte
