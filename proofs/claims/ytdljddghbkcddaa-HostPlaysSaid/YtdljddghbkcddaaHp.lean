/-
  LAYER 34: a round's Take on both sides.
-/
import Derived.Test.YtdljddghbkcddaaHo
namespace Go.Proofs.Ytdljddghbkcddaa.Hst
open Go.RowKit Go.Maps Go.WideMaps
section
variable {w W W' : World} {g m n : Nat} {kn : List Host} {D : DataW Unit} {x : Nat} {v : Value} {L : List Host}
theorem HR.mid (h : HR w W g m n kn D x v L) : HM w W g m n kn D x v L := ⟨h.hs, h.xh, h.bw⟩
theorem HM.kg {n' : Nat} {kn' : List Host} {D' : DataW Unit} (h : HM w W g m n kn D x v L) (hs : Hs W' g m n' kn' D') (hb : Below w.heap.size W W') (k : Kg g m W W') : HM w W' g m n' kn' D' x v L := ⟨hs, h.xh.kg h.hs k, h.bw.trans hb⟩
def Both (w W : World) (g m x : Nat) (v : Value) (L : List Host) (k t : ByteArray) (c : Int) (n' : Nat) (kn' : List Host) (D' : DataW Unit) (L' : List Host) : Prop :=
  (∀ W1, Below W.heap.size W W1 → Calls Try.prog 21 #[.pointer (some ⟨g, 0, none⟩), .string k, .string t] W1 fun e w' => e = .returned (.int .i64 c) ∧ HM w w' g m n' kn' D' x v L) ∧
  (∀ W1, HM w W1 g m n' kn' D' x v L → Calls Try.prog 22 #[.pointer (some ⟨x, 0, none⟩), .string k, .string t] W1 fun e w' => e = .returned (.int .i64 c) ∧ ∃ v', HR w w' g m n' kn' D' x v' L')
theorem xnew_any {B : Nat} (h : Xh B W x v L) (hnl : L = [] → v = .slice none 0 0) (hB : B ≤ W.heap.size) (hL : L.length < 4) {k : ByteArray} (hk : k.toList.isEmpty = false) (on : Bool) (hno : Not L k) :
    Calls Try.prog 22 #[.pointer (some ⟨x, 0, none⟩), .string k, .string (tOf on)] W fun y w' => y = .returned (.int .i64 1) ∧ ∃ v', XNw B W w' x v (ins L k on) v' := by
  by_cases h0 : L = []
  · subst h0
    obtain rfl := hnl rfl
    cases on
    · exact xtake_nil_off h hB hk
    · exact xtake_nil_on h hB hk
  · cases on
    · exact xtake_new_off h hB hL (List.length_pos_iff.2 h0) hk hno
    · exact xtake_new_on h hB hL (List.length_pos_iff.2 h0) hk hno
theorem take_both (h : HR w W g m n kn D x v L) (k t : ByteArray) (hs : k.size ≤ maxLen) : ∃ c n' kn' D' L', Both w W g m x v L k t c n' kn' D' L' := by
  obtain ⟨hlen, h4⟩ := h.len
  rcases empty_cases k with rfl | hk
  · refine ⟨7, n, kn, D, L, fun W1 hW => ?_, fun W1 hM => ?_⟩
    · exact (take_name g m n kn D t W1 (h.hs.keep hW)).mono fun e w' ⟨he, hw⟩ => ⟨he, by rw [← hw]; exact (h.ext hW).mid⟩
    · exact (xtake_name t x W1).mono fun e w' ⟨he, hw⟩ => ⟨he, v, by rw [← hw]; exact ⟨hM.hs, hM.xh, hM.bw, h.p, h.s, h.bg, h.bm, h.bx, h.nl⟩⟩
  rcases text_cases t with hb | ⟨on, rfl⟩
  · refine ⟨3, n, kn, D, L, fun W1 hW => ?_, fun W1 hM => ?_⟩
    · exact (take_text g m n kn D k t W1 (h.hs.keep hW) hk hb).mono fun e w' ⟨he, hw⟩ => ⟨he, by rw [← hw]; exact (h.ext hW).mid⟩
    · exact (xtake_text k t x W1 hk hb).mono fun e w' ⟨he, hw⟩ => ⟨he, v, by rw [← hw]; exact ⟨hM.hs, hM.xh, hM.bw, h.p, h.s, h.bg, h.bm, h.bx, h.nl⟩⟩
  have hnd := h.s.nd
  have hndk : (kn.take n).Pairwise fun a b => a.1 ≠ b.1 := (h.p.pairwise_iff (fun {_ _} hne => Ne.symm hne)).1 hnd
  cases hi : idx k (kn.take n) with
  | some i =>
    obtain ⟨o1, ho1⟩ := idx_name hi
    obtain ⟨j, hj⟩ := List.mem_iff_getElem?.1 (h.p.mem_iff.2 (List.mem_of_getElem? ho1))
    have hpx := h.s.px hj
    simp only at hpx
    have hj2 : L[px L k]? = some (k, o1) := by rw [hpx]; exact hj
    refine ⟨1, n, kn.set i (k, on), D, L.set (px L k) (k, on), fun W1 hW => ?_, fun W1 hM => ?_⟩
    · have h1 := h.ext hW
      refine (take_known2 w.heap.size g m n i kn D k on W1 h1.hs h.bg hk hs hi).mono ?_
      rintro e w' ⟨rfl, h2, b2, k2⟩
      exact ⟨rfl, h1.mid.kg h2 b2 k2⟩
    · refine (xtake_known hM.xh (by omega) hk on hj2 rfl).mono ?_
      rintro e w' ⟨rfl, v', nw⟩
      have hM2 := hM.nw h.bx nw
      refine ⟨rfl, v', hM2.hs, hM2.xh, hM2.bw, ?_, ?_, h.bg, h.bm, h.bx, fun e => ?_⟩
      · rw [List.take_set]
        have e1 := upd_set hnd on hj2
        have e2 := upd_set hndk on ho1
        simp only at e1 e2
        rw [e1, e2]
        exact h.p.map _
      · exact rise_set h.s hj2 on
      · have h0 : L.length = 0 := by have := congrArg List.length e; simpa using this
        have := (List.getElem?_eq_some_iff.1 hj2).1
        omega
  | none =>
    have hno : Not L k := fun e he => idx_none hi e (h.p.mem_iff.1 he)
    by_cases hn : n < 4
    · refine ⟨1, n + 1, kn.set n (k, on), D.put (kl k) (.lit (.int .i64 (n : Nat))), ins L k on, fun W1 hW => ?_, fun W1 hM => ?_⟩
      · have h1 := h.ext hW
        refine (take_new2 w.heap.size g m n kn D k on W1 h1.hs h.bg h.bm hk hs hn hi).mono ?_
        rintro e w' ⟨rfl, h2, b2, k2⟩
        exact ⟨rfl, h1.mid.kg h2 b2 k2⟩
      · refine (xnew_any hM.xh h.nl hM.bw.size (by omega) hk on hno).mono ?_
        rintro e w' ⟨rfl, v', nw⟩
        have hM2 := hM.nw h.bx nw
        refine ⟨rfl, v', hM2.hs, hM2.xh, hM2.bw, ?_, rise_ins h.s hno on, h.bg, h.bm, h.bx, fun e => by unfold ins at e; simp at e⟩
        have hln := h.hs.len
        have hlt : (kn.take n).length = n := by rw [List.length_take]; omega
        have e1 : (kn.set n (k, on)).take (n + 1) = kn.take n ++ [(k, on)] := by
          rw [List.take_set, List.take_succ_eq_append_getElem (show n < kn.length by omega), List.set_append_right _ _ (by omega), hlt, Nat.sub_self]
          rfl
        rw [e1]
        exact (ins_perm L k on).trans (h.p.append_right _)
    · have hn4 : n = 4 := by omega
      subst hn4
      refine ⟨8, 4, kn, D, L, fun W1 hW => ?_, fun W1 hM => ?_⟩
      · exact (take_full g m kn D k on W1 (h.hs.keep hW) hk hs hi).mono fun e w' ⟨he, hw⟩ => ⟨he, by rw [← hw]; exact (h.ext hW).mid⟩
      · exact (xtake_full hM.xh hlen hk on hno).mono fun e w' ⟨he, hw⟩ => ⟨he, v, by rw [← hw]; exact ⟨hM.hs, hM.xh, hM.bw, h.p, h.s, h.bg, h.bm, h.bx, h.nl⟩⟩
end
end Go.Proofs.Ytdljddghbkcddaa.Hst
