/-
  LAYER 24: the document's inbox: Done.
-/
import Derived.Test.YtceiipcdkonnlaaGreatJf
namespace Go.Proofs.YtceiipcdkonnlaaGreat.Inb
set_option linter.unusedSimpArgs false
set_option linter.unusedVariables false
open Go.RowKit

def outOf (t : Int) (l : List Int) : List Int := l.filter (fun x => x != t)
theorem outOf_len (t : Int) (l : List Int) : (outOf t l).length ≤ l.length := List.length_filter_le _ _
theorem outOf_snoc (t : Int) (l : List Int) (i : Nat) (h : i < l.length) : outOf t (l.take (i + 1)) = if l.getD i 0 != t then outOf t (l.take i) ++ [l.getD i 0] else outOf t (l.take i) := by
  have e : l.take (i + 1) = l.take i ++ [l.getD i 0] := by rw [List.take_succ_eq_append_getElem h]; simp [List.getD, List.getElem?_eq_getElem h]
  rw [e]
  unfold outOf
  rw [List.filter_append]
  obtain ⟨c, hc⟩ : ∃ c, c = l.getD i 0 := ⟨_, rfl⟩
  rw [← hc]
  by_cases hx : (c != t) = true
  · simp only [List.filter_cons, hx, if_true, List.filter_nil]
  · have hf : (c != t) = false := by simpa using hx
    simp only [List.filter_cons, hf, Bool.false_eq_true, if_false, List.filter_nil, List.append_nil]
theorem outOf_lt (t : Int) (l : List Int) : (outOf t l).length < l.length ↔ t ∈ l := by
  unfold outOf
  induction l with
  | nil => simp
  | cons x l ih =>
    have := outOf_len t l
    unfold outOf at this
    by_cases hx : x = t
    · subst hx; simp; omega
    · have hx' : (x != t) = true := by simpa using hx
      rw [List.filter_cons_of_pos (by simpa using hx)]
      simp only [List.length_cons, List.mem_cons, Nat.add_lt_add_iff_right]
      rw [ih]
      constructor
      · exact .inr
      · rintro (rfl | h)
        · exact absurd rfl hx
        · exact h
def XDone (t : Int) (l : List Int) (g : Nat) (w : World) (e : Ending) (w' : World) : Prop :=
  e = .returned (.bool (decide ((outOf t l).length < l.length))) ∧ (∃ v', Xb w' g v' (outOf t l) ∧ ∀ k, v'.ownBlock = some k → w.heap.size ≤ k) ∧ w.grownBy w' (some g)
set_option maxHeartbeats 4000000 in
set_option maxRecDepth 100000 in
theorem xdone_any {w : World} {g : Nat} {v : Value} {l : List Int} {t : Int} (h : Xb w g v l) (hl : l.length ≤ 16) :
    Calls Tryz.prog 27 #[.pointer (some ⟨g, 0, none⟩), .int .i64 t] w (XDone t l g w) := by
  obtain ⟨i0, hi, hz0, hz1, hz2⟩ := info_parts info3i
  obtain ⟨va, vc, rfl⟩ := own_slice h.its
  have c0 := h.cell
  have H := Lib.hid h
  have hl' : (l.length : Int) ≤ 16 := by omega
  have hlt := h.lt
  clear h
  go_enter Tryz.func27, Tryz.ntmps27
  go_wp2_with fail
  go_loopw [5, 6] (fun lv iv wr => ∃ (i : Nat), iv = .int .i64 (i : Int) ∧ i ≤ l.length ∧ wr.ownsRow w.heap.size 3 1 lv (outOf t (l.take i)).length (il (outOf t (l.take i))) ∧ Below w.heap.size w wr) (fun _ iv _ => l.length - (intOf iv).toNat)
  case atStart => exact ⟨0, rfl, by omega, by simpa [outOf, il] using World.ownsRow_nil _ _ _ _, Below.refl _ _⟩
  case round =>
    obtain ⟨i, rfl, hil, ho, hb⟩ := hrel
    have hk := outOf_len t (l.take i)
    rw [List.length_take] at hk
    obtain ⟨n, hn⟩ : ∃ n, n = (outOf t (l.take i)).length := ⟨_, rfl⟩
    rw [← hn] at hk ho
    obtain ⟨wa, wc, rfl⟩ := own_slice ho
    have c1 := (hb.cell (by simpa using hlt)).trans c0
    by_cases hlt' : i < l.length
    · obtain ⟨gl, gc, hva⟩ := own_slice' H.out.its (by omega)
      simp only [Value.slice.injEq] at hva
      obtain ⟨rfl, -, rfl⟩ := hva
      have hi' : (i : Int) < l.length := by omega
      have hcell := own_int H.out.its hlt'
      have hcell1 := (hb.cell (by simpa using (H.out.its.lt gl rfl).2)).trans hcell
      have hsn := outOf_snoc t l i hlt'
      obtain ⟨c, hcd⟩ : ∃ c, c = l.getD i 0 := ⟨_, rfl⟩
      rw [← hcd] at hcell hcell1 hsn
      have hcell2 : (wr.alloc (.cells #[.int .i64 c] 3)).cell? ⟨g, 0, none⟩ = some (.slice (some ⟨gl, 0, none⟩) l.length vc) := ((hb.alloc hb.size _).cell (by simpa using hlt)).trans c0
      have hnew := Lib.hid (cell_new wr c)
      have oA := Lib.hid (own_keep ho (ext_alloc wr (.cells #[.int .i64 c] 3)))
      have hn16 : n ≤ 16 := by omega
      replace hcd := Lib.hid hcd
      replace ho := Lib.hid ho
      replace hb := Lib.hid hb
      replace hn := Lib.hid hn
      replace hsn := Lib.hid hsn
      clear hcell
      by_cases hct : c = t
      · subst hct
        go_wp2_with fail
        go_roundw
        case rel =>
          refine ⟨i + 1, by simp, by omega, ?_, hb.out⟩
          have e := hsn.out
          simp only [bne_self_eq_false, Bool.false_eq_true, if_false] at e
          rw [e, ← hn.out]
          exact ho.out
        case measure => simp [intOf]; omega
      · have hbe : (c == t) = false := beq_eq_false_iff_ne.2 hct
        go_wp2_with (at_builtin; refine wpList_append_own _ rfl (.tmp 26) (.tmp 34) 59 rfl w.heap.size 3 i0 (.int .i64 0) 1 8 Tryz.underlying59 hi hz0 hz1 hz2 rfl (by decide) (.slice wa n wc) n (il (outOf t (l.take i))) rfl oA.out ⟨wr.heap.size, 0, none⟩ 1 1 [.int .i64 c] rfl rfl hnew.out (by intro u hu; simp at hu; subst hu; rfl) (by unfold maxLen; omega) (by omega) (by have := hb.out.size; simp; omega) ?_; intro v2 w2 o2 g2 _; obtain ⟨va2, vc2, rfl⟩ := own_slice o2; have b2 : Below w.heap.size w w2 := (hb.out.alloc hb.out.size _).grown g2 (by have := hb.out.size; simp; omega) (fun k hk => (oA.out.lt k hk).1); replace o2 := Lib.hid o2; replace b2 := Lib.hid b2; clear g2)
        go_roundw
        case rel =>
          refine ⟨i + 1, by simp, by omega, ?_, b2.out⟩
          have e := hsn.out
          have hne : (c != t) = true := by simpa using hct
          simp only [hne, if_true] at e
          rw [e, List.length_append, ← hn.out]
          have := o2.out
          simpa [il] using this
        case measure => simp [intOf]; omega
    · obtain rfl : i = l.length := by omega
      have hn2 : n = (outOf t l).length := by rw [hn]; simp
      have ho2 : wr.ownsRow 0 3 1 (.slice wa n wc) (outOf t l).length (il (outOf t l)) := by
        have := own_base ho (Nat.zero_le _)
        rw [List.take_length, hn2] at this
        rw [hn2]
        exact this
      obtain ⟨X, G⟩ := xstore H.out hb ho2
      have f1 := (H.out.keep hb).free 0
      have hd : (decide ((n : Int) < (l.length : Int))) = decide (n < l.length) := by simp
      replace hn2 := Lib.hid hn2
      replace X := Lib.hid X
      replace G := Lib.hid G
      replace ho := Lib.hid ho
      replace ho2 := Lib.hid ho2
      replace hb := Lib.hid hb
      replace hn := Lib.hid hn
      clear hlt'
      go_wp2_with fail
      go_ret
      exact ⟨by rw [← hn2.out]; rfl, ⟨_, X.out, fun k hk => (ho.out.lt k hk).1⟩, G.out⟩
end Go.Proofs.YtceiipcdkonnlaaGreat.Inb
