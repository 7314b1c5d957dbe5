/-
  LAYER 30: Find; how many are not an owner's.
-/
import Derived.Test.YtihblangceblhaaDoorAa
import Derived.Outline
namespace Go.Proofs.YtihblangceblhaaDoor
set_option linter.unusedSimpArgs false
set_option linter.unusedVariables false
open Go.RowKit Go.Maps Go.WideMaps

theorem str_eq (a : ByteArray) : (a.toList == a.toList) = true := by simp
theorem str_ne {a b : ByteArray} (h : a ≠ b) : (a.toList == b.toList) = false := by
  rw [ByteArray.toList_eq, ByteArray.toList_eq]
  rw [beq_eq_false_iff_ne]
  exact fun e => h (ba_ext e)
def findV (T : List En) (o : ByteArray) (a : Int) : ByteArray × Bool :=
  match findT T a with
  | some e => if e.o = o then (e.n, true) else ({ data := #[] }, false)
  | none => ({ data := #[] }, false)
set_option maxRecDepth 100000 in
theorem find_any {w : World} {g m : Nat} {T : List En} {D : DataW Unit} (h : Tb w g m T D) (o : ByteArray) (a : Int) (ha : (Lit.int .u64 a).wf = true) :
    Calls Tryd.prog 40 #[.pointer (some ⟨g, 0, none⟩), .string o, .int .u64 a] w fun e w' => e = .returned (.tuple #[.string (findV T o a).1, .bool (findV T o a).2]) ∧ Below w.heap.size w w' := by
  have N := Lib.hid (none_any h)
  have ca := h.at
  have lk := h.look ha
  unfold lookV at lk
  unfold findV
  clear h
  cases hf : findT T a with
  | none =>
    rw [hf] at lk
    simp only at lk ⊢
    replace hf := Lib.hid hf
    go_enter Tryd.func40, Tryd.ntmps40
    go_wp2_with (first | (go_at_call 35; refine N.out.mono ?_; rintro e w' ⟨rfl, rfl⟩))
    go_ret2
    exact ⟨rfl, (Below.refl _ _).alloc (Nat.le_refl _) _⟩
  | some e =>
    rw [hf] at lk
    simp only at lk ⊢
    replace hf := Lib.hid hf
    obtain ⟨ea, eo, en⟩ := e
    simp only at lk ⊢
    by_cases he : eo = o
    · subst he
      rw [if_pos rfl]
      have hd := str_eq eo
      go_enter Tryd.func40, Tryd.ntmps40
      go_wp2_with (first | (go_at_call 35; refine N.out.mono ?_; rintro e w' ⟨rfl, rfl⟩))
      go_ret2
      exact ⟨rfl, (Below.refl _ _).alloc (Nat.le_refl _) _⟩
    · rw [if_neg he]
      have hd := str_ne he
      go_enter Tryd.func40, Tryd.ntmps40
      go_wp2_with (first | (go_at_call 35; refine N.out.mono ?_; rintro e w' ⟨rfl, rfl⟩))
      go_ret2
      exact ⟨rfl, (Below.refl _ _).alloc (Nat.le_refl _) _⟩
/-- Those that have come, of those that are not an owner's. -/
def cnt (T : List En) (o : ByteArray) (left : Lit → Bool) : Nat := (T.filter fun e => !left (ky e.a) && decide (e.o ≠ o)).length
theorem cnt_le (T : List En) (o : ByteArray) (left : Lit → Bool) : cnt T o left ≤ T.length := List.length_filter_le _ _
theorem sameKey_ky (a b : Int) : (ky a).sameKey (ky b) = decide (a = b) := by
  by_cases h : a = b
  · subst h; simp [ky, Lit.sameKey]
  · rw [sameKey_ne (ky_ne h)]; simp [h]
theorem cnt_none (T : List En) (o : ByteArray) (left : Lit → Bool) (h : ∀ k, left k = false) : cnt T o left = (T.filter fun e => decide (e.o ≠ o)).length := by
  unfold cnt; simp [h]
theorem cnt_all (D : DataW Unit) (T : List En) (o : ByteArray) (h : Rd D T) : cnt T o (has D) = 0 := by
  unfold cnt
  rw [List.length_eq_zero_iff, List.filter_eq_nil_iff]
  intro e he
  simp [((h e.a).1 e he rfl).1]
theorem cnt_step {T : List En} {o : ByteArray} {left : Lit → Bool} {e : En} (hn : Nd T) (he : e ∈ T) (hl : left (ky e.a) = true) :
    cnt T o (fun z => left z && !z.sameKey (ky e.a)) = cnt T o left + if e.o = o then 0 else 1 := by
  unfold Nd at hn
  induction T with
  | nil => cases he
  | cons x T ih =>
    rw [List.pairwise_cons] at hn
    have hc : ∀ L, cnt (x :: T) o L = cnt T o L + if (!L (ky x.a) && decide (x.o ≠ o)) = true then 1 else 0 := fun L => by
      unfold cnt; rw [List.filter_cons]; split <;> simp
    rw [hc, hc, sameKey_ky]
    rcases List.mem_cons.1 he with he | he
    · subst he
      have e1 : cnt T o (fun z => left z && !z.sameKey (ky e.a)) = cnt T o left := by
        unfold cnt
        congr 1
        apply List.filter_congr
        intro y hy
        have := hn.1 y hy
        simp only [sameKey_ky]
        simp [Ne.symm this]
      rw [e1, hl]
      by_cases ho : e.o = o <;> simp [ho]
    · have hne : x.a ≠ e.a := hn.1 e he
      rw [ih hn.2 he]
      simp [hne]
      omega
theorem mR_invV (v : Value) (y : DataW Unit × List MemPlace) (h : mR v = some y) : ∃ c : ByteArray × ByteArray, v = .agg #[.string c.1, .string c.2] := by
  obtain ⟨o, n, rfl, -⟩ := mR_inv h; exact ⟨(o, n), rfl⟩
theorem key_invK (key : Value) (kl : Lit) (h : keyOf Tryd.prog 23 key = some kl) : ∃ x : Int, key = .int .u64 x := by
  obtain ⟨x, rfl, _⟩ := Maps.keyOf_int_inv Tryd.underlying23 h; exact ⟨x, rfl⟩
/-- What a step of a range hands out is one of the table's. -/
theorem step_mem {D : DataW Unit} {T : List En} (h : Rd D T) {x : Int} {c : ByteArray × ByteArray} {kl : Lit} {y : DataW Unit × List MemPlace} (hk : keyOf Tryd.prog 23 (.int .u64 x) = some kl) (hR : mR (.agg #[.string c.1, .string c.2]) = some y) (hat : ∀ zd, D.atKey kl zd = y.1) (hh : has D kl = true) :
    kl = ky x ∧ ∃ e ∈ T, e.a = x ∧ e.o = c.1 ∧ e.n = c.2 := by
  obtain ⟨x', ex, rfl, _⟩ := Maps.keyOf_int_inv Tryd.underlying23 hk
  cases ex
  refine ⟨rfl, ?_⟩
  have : ∃ e ∈ T, e.a = x := by
    apply Classical.byContradiction
    intro hn
    have := (h x).2 fun e he ha => hn ⟨e, he, ha⟩
    unfold ky at this
    rw [this] at hh; cases hh
  obtain ⟨e, he, rfl⟩ := this
  refine ⟨e, he, rfl, ?_⟩
  have h1 := ((h e.a).1 e he rfl).2 (.agg [])
  unfold ky at h1
  rw [hat] at h1
  rw [mR_mk] at hR
  cases hR
  simp only [En.enc, DataW.agg.injEq, List.cons.injEq, DataW.lit.injEq, Lit.string.injEq, and_true] at h1
  exact ⟨(ba_ext h1.1).symm, (ba_ext h1.2).symm⟩
/-- What is left of a range is in the map. -/
def LeftIn (D : DataW Unit) (left : Lit → Bool) : Prop := ∀ kl, left kl = true → has D kl = true
def notO (T : List En) (o : ByteArray) : List En := T.filter fun e => decide (e.o ≠ o)
set_option maxHeartbeats 1000000 in
set_option maxRecDepth 100000 in
theorem others_any {w : World} {g m : Nat} {T : List En} {D : DataW Unit} (h : Tb w g m T D) (o : ByteArray) :
    Calls Tryd.prog 36 #[.pointer (some ⟨g, 0, none⟩), .string o] w fun e w' => e = .returned (.int .i64 ((notO T o).length : Nat)) ∧ Below w.heap.size w w' := by
  have ca := h.at
  have hm := h.map
  have hle : T.length ≤ 64 := h.le
  have H := Lib.hid h
  clear h
  go_enter Tryd.func36, Tryd.ntmps36
  go_wp2_with (first | (at_range; refine wpList_range_own _ rfl _ 67 rfl 23 72 law23 Tryd.underlying67 _ m _ D rfl hm ?_; intro w0 hrg0 hg0 hs0) | go_in)
  go_frame
  go_loopw [5] (fun c wr => ∃ left n, wr.ranges Tryd.prog 23 mR m w.heap.size T.length D left n ∧ LeftIn D left ∧ c = .int .i64 (cnt T o left : Nat) ∧ Below w.heap.size w wr ∧ w.heap.size < wr.heap.size) (fun _ wr => wr.rangeLeft m w.heap.size)
  case atStart => exact ⟨_, _, hrg0, fun _ h => h, by rw [cnt_all D T o H.out.rd]; rfl, ⟨hg0.os, hg0.tape, hg0.output, hg0.size, fun k hk => hg0.block k hk (by simp)⟩, by omega⟩
  case round =>
    obtain ⟨left, n, hrg, hli, rfl, hb, hsz⟩ := hrel
    have hcl := cnt_le T o left
    replace hb := Lib.hid hb
    replace hli := Lib.hid hli
    go_wp2_with (at_next; refine wpList_next_ranges _ rfl _ rfl 23 law23 mR (Value.int .u64) (fun c : ByteArray × ByteArray => .agg #[.string c.1, .string c.2]) key_invK mR_invV m w.heap.size _ D left n rfl hrg ?_ ?_)
    · intro hc0 hl0
      have e : cnt T o left = (notO T o).length := cnt_none T o left hl0
      replace hl0 := Lib.hid hl0
      replace hrg := Lib.hid hrg
      replace hc0 := Lib.hid hc0
      replace e := Lib.hid e
      go_wp2
      go_ret
      exact ⟨by rw [e.out]; rfl, hb.out⟩
    · intro x c1 c2 kl y1 y2 w1 n1 hk hlk hR hat hrg1 hlt hg1 hs1 hen
      obtain ⟨rfl, e, he, rfl, heo, -⟩ := step_mem (c := (c1, c2)) H.out.rd hk hR hat (hli.out _ hlk)
      have hst := cnt_step (o := o) H.out.nd he hlk
      have hcl2 := cnt_le T o (fun z => left z && !z.sameKey (ky e.a))
      simp only at heo
      have hli2 : LeftIn D (fun z => left z && !z.sameKey (ky e.a)) := fun z hz => hli.out z (by simp at hz; exact hz.1)
      have hb1 : Below w.heap.size w w1 := hb.out.grown hg1 (by omega) (fun k hk => by cases hk; exact Nat.le_refl _)
      have hsz1 : w.heap.size < w1.heap.size := by omega
      have hl1 := hrg1.left_eq
      have hl2 := hrg.left_eq
      have hl3 := (hrg1.alloc (.cells #[.string c1, .string c2] 72)).left_eq
      replace hrg1 := Lib.hid hrg1
      replace hrg := Lib.hid hrg
      replace hb1 := Lib.hid hb1
      replace hl1 := Lib.hid hl1
      replace hl2 := Lib.hid hl2
      replace hl3 := Lib.hid hl3
      replace hli2 := Lib.hid hli2
      replace hk := Lib.hid hk
      replace hR := Lib.hid hR
      replace hat := Lib.hid hat
      replace hlk := Lib.hid hlk
      replace he := Lib.hid he
      replace hs1 := Lib.hid hs1
      clear hg1
      by_cases ho : e.o = o
      · rw [if_pos ho, Nat.add_zero] at hst
        rw [heo] at ho
        subst ho
        have hd := str_eq c1
        replace heo := Lib.hid heo
        replace hst := Lib.hid hst
        go_wp2
        go_roundw
        case rel => exact ⟨_, _, hrg1.out.alloc _, hli2.out, by rw [hst.out], hb1.out.alloc (by omega) _, by simp; omega⟩
        case measure => rw [hl3.out, hl2.out]; omega
      · rw [if_neg ho] at hst
        rw [heo] at ho
        have hd := str_ne ho
        replace ho := Lib.hid ho
        replace heo := Lib.hid heo
        replace hst := Lib.hid hst
        go_wp2
        go_roundw
        case rel => exact ⟨_, _, hrg1.out.alloc _, hli2.out, by rw [hst.out]; simp, hb1.out.alloc (by omega) _, by simp; omega⟩
        case measure => rw [hl3.out, hl2.out]; omega
end Go.Proofs.YtihblangceblhaaDoor
