/-
  LAYER 30: Drop.
-/
import Derived.Test.YtihblangceblhaaDoorAb
namespace Go.Proofs.YtihblangceblhaaDoor
set_option linter.unusedSimpArgs false
set_option linter.unusedVariables false
open Go.RowKit Go.Maps Go.WideMaps

theorem owns_size {w : World} {b n : Nat} {D : DataW Unit} {R : Value → Option (DataW Unit × List MemPlace)} {k : TypeId} (h : w.ownsMap Tryd.prog k R b n D) : w.ownsMap Tryd.prog k R b (Maps.size D) D := by
  obtain ⟨es, clock, hb, F, hs, rfl⟩ := h
  exact ⟨es, clock, hb, F, by rw [size_eq, length_sorted]; simp, rfl⟩
theorem grown_trans {a b c : World} {m : Nat} (h : a.grownBy b (some m)) (k : b.grownBy c (some m)) : a.grownBy c (some m) :=
  ⟨k.os.trans h.os, k.tape.trans h.tape, k.output.trans h.output, Nat.le_trans h.size k.size, fun i hi hne => (k.block i (Nat.lt_of_lt_of_le hi h.size) hne).trans (h.block i hi hne)⟩
theorem grown_below {a b : World} {m B : Nat} (h : Below B a b) (hB : a.heap.size ≤ B) : a.grownBy b (some m) :=
  ⟨h.os, h.tape, h.output, h.size, fun i hi _ => h.block i (Nat.lt_of_lt_of_le hi hB)⟩
/-- What is still there, as long as these are to come. -/
def tl (T : List En) (o : ByteArray) (left : Lit → Bool) : List En := T.filter fun e => left (ky e.a) || decide (e.o ≠ o)
theorem tl_none (T : List En) (o : ByteArray) (left : Lit → Bool) (h : ∀ k, left k = false) : tl T o left = notO T o := by
  unfold tl notO; simp [h]
theorem tl_all (D : DataW Unit) (T : List En) (o : ByteArray) (h : Rd D T) : tl T o (has D) = T := by
  unfold tl
  rw [List.filter_eq_self]
  intro e he
  simp [((h e.a).1 e he rfl).1]
theorem tl_keep {T : List En} {o : ByteArray} {left : Lit → Bool} {e : En} (hn : Nd T) (he : e ∈ T) (ho : e.o ≠ o) : tl T o (fun z => left z && !z.sameKey (ky e.a)) = tl T o left := by
  unfold tl
  apply List.filter_congr
  intro y hy
  simp only [sameKey_ky]
  by_cases hya : y.a = e.a
  · rw [hn.eq hy he hya]; simp [ho]
  · simp [hya]
theorem tl_strike {T : List En} {o : ByteArray} {left : Lit → Bool} {e : En} (hn : Nd T) (he : e ∈ T) (ho : e.o = o) : tl T o (fun z => left z && !z.sameKey (ky e.a)) = (tl T o left).filter fun y => decide (y.a ≠ e.a) := by
  unfold tl
  rw [List.filter_filter]
  apply List.filter_congr
  intro y hy
  simp only [sameKey_ky]
  by_cases hya : y.a = e.a
  · rw [hn.eq hy he hya]; simp [ho]
  · simp [hya]
theorem tl_sub {T : List En} {o : ByteArray} {left : Lit → Bool} {e : En} (h : e ∈ tl T o left) : e ∈ T := (List.mem_filter.1 h).1
theorem strike_len {T : List En} {e : En} (hn : Nd T) (he : e ∈ T) : (T.filter fun y => decide (y.a ≠ e.a)).length + 1 = T.length := by
  unfold Nd at hn
  induction T with
  | nil => cases he
  | cons x T ih =>
    rw [List.pairwise_cons] at hn
    rw [List.filter_cons]
    rcases List.mem_cons.1 he with he | he
    · subst he
      rw [if_neg (by simp), List.filter_eq_self.2 (fun y hy => by simp; exact Ne.symm (hn.1 y hy))]
      rfl
    · rw [if_pos (by simpa using hn.1 e he), List.length_cons, ih hn.2 he]; rfl
theorem Nd.sub {T S : List En} (h : Nd T) (hs : S.Sublist T) : Nd S := List.Pairwise.sublist hs h
/-- What Drop's round holds. -/
structure Dr (w wr : World) (m : Nat) (T : List En) (o : ByteArray) (D : DataW Unit) (left : Lit → Bool) (n : Nat) : Prop where
  rg : wr.ranges Tryd.prog 23 mR m w.heap.size T.length D left n
  li : LeftIn D left
  rd : Rd D (tl T o left)
  sz : Maps.size D = (tl T o left).length
  gr : w.grownBy wr (some m)
  lt : w.heap.size < wr.heap.size
def DropP (g m : Nat) (T : List En) (o : ByteArray) (w : World) (e : Ending) (w' : World) : Prop :=
  e = .returned (.int .i64 ((T.length : Int) - ((notO T o).length : Nat))) ∧ (∃ D', Tb w' g m (notO T o) D') ∧ w.grownBy w' (some m)
set_option maxHeartbeats 2000000 in
set_option maxRecDepth 100000 in
theorem drop_any {w : World} {g m : Nat} {T : List En} {D : DataW Unit} (h : Tb w g m T D) (o : ByteArray) :
    Calls Tryd.prog 27 #[.pointer (some ⟨g, 0, none⟩), .string o] w (DropP g m T o w) := by
  have L := Lib.hid (len_any h)
  have ca := h.at
  have hm := h.map
  have hle : T.length ≤ 64 := h.le
  have H := Lib.hid h
  by_cases h0 : T.length = 0
  · have e0 : T = [] := List.eq_nil_of_length_eq_zero h0
    have hd : ((T.length : Int) == 0) = true := by simp; omega
    replace h0 := Lib.hid h0
    clear h hm
    go_enter Tryd.func27, Tryd.ntmps27
    go_wp2_with (first | (go_at_call 37; refine L.out.mono ?_; rintro e w' ⟨rfl, rfl⟩))
    go_ret
    subst e0
    exact ⟨rfl, ⟨D, H.out⟩, ⟨rfl, rfl, rfl, Nat.le_refl _, fun _ _ _ => rfl⟩⟩
  have hd : ((T.length : Int) == 0) = false := by rw [beq_eq_false_iff_ne]; omega
  replace h0 := Lib.hid h0
  clear h
  go_enter Tryd.func27, Tryd.ntmps27
  go_wp2_with (first | (go_at_call 37; refine L.out.mono ?_; rintro e w' ⟨rfl, rfl⟩) | (at_range; refine wpList_range_own _ rfl _ 67 rfl 23 72 law23 Tryd.underlying67 _ m _ D rfl hm ?_; intro w0 hrg0 hg0 hs0))
  go_frame
  go_loopw [] (fun wr => ∃ D' left n, Dr w wr m T o D' left n) (fun wr => wr.rangeLeft m w.heap.size)
  case atStart => exact ⟨_, _, _, hrg0, fun _ h => h, by rw [tl_all D T o H.out.rd]; exact H.out.rd, by rw [tl_all D T o H.out.rd]; exact H.out.size, hg0.but _, by omega⟩
  case round =>
    obtain ⟨D', left, n, hrg, hli, hrd, hsz, hgr, hlt0⟩ := hrel
    have hmg : m ≠ g := H.out.ne
    have row' : wr.heap[g]? = some (.cells #[.map (some m)] 69 (0, 0)) := (hgr.block g H.out.lt (fun e => hmg (Option.some.inj e).symm)).trans H.out.row
    have ca' : wr.cell? ⟨g, 0, none⟩ = some (.map (some m)) := by rw [cell_of_row wr g _ _ 69 (0, 0) row']; simp
    replace hli := Lib.hid hli
    replace hrd := Lib.hid hrd
    replace hgr := Lib.hid hgr
    replace row' := Lib.hid row'
    go_wp2_with (at_next; refine wpList_next_ranges _ rfl _ rfl 23 law23 mR (Value.int .u64) (fun c : ByteArray × ByteArray => .agg #[.string c.1, .string c.2]) key_invK mR_invV m w.heap.size _ D' left n rfl hrg ?_ ?_)
    · intro hc0 hl0
      have e : tl T o left = notO T o := tl_none T o left hl0
      have ho := hrg.owns
      have hrd' := hrd.out
      rw [e] at hsz hrd'
      have hle2 : (notO T o).length ≤ T.length := List.length_filter_le _ _
      replace hl0 := Lib.hid hl0
      replace hrg := Lib.hid hrg
      replace hc0 := Lib.hid hc0
      replace e := Lib.hid e
      replace hrd' := Lib.hid hrd'
      have hsz' := Lib.hid hsz
      clear hsz
      go_wp2_with (first | (at_len; refine wpList_len_own _ rfl _ 67 rfl 23 72 Tryd.underlying67 _ m _ D' rfl ho ?_; rw [hsz'.out]))
      go_ret
      refine ⟨rfl, ⟨D', row'.out, ?_, hsz'.out, hmg, H.out.nd.sub (List.filter_sublist), by omega, fun e he => H.out.wf e (List.mem_filter.1 he).1, hrd'.out⟩, hgr.out⟩
      rw [← hsz'.out]
      exact owns_size ho
    · intro x c1 c2 kl y1 y2 w1 n1 hk hlk hR hat hrg1 hlt hg1 hs1 hen
      obtain ⟨rfl, e, he, rfl, heo, -⟩ := step_mem (c := (c1, c2)) hrd.out hk hR hat (hli.out _ hlk)
      have heT := tl_sub he
      simp only at heo
      have hgr1 : w.grownBy w1 (some m) := hgr.out.andThen hg1 (fun j hj => by cases hj; exact .inl (Nat.le_refl _))
      have rowA : (w1.alloc (.cells #[.string c1, .string c2] 72)).heap[g]? = some (.cells #[.map (some m)] 69 (0, 0)) := by
        rw [Below.heap_alloc _ _ _ (by have := H.out.lt; omega)]
        exact (hgr1.block g H.out.lt (fun e => hmg (Option.some.inj e).symm)).trans H.out.row
      have caA : (w1.alloc (.cells #[.string c1, .string c2] 72)).cell? ⟨g, 0, none⟩ = some (.map (some m)) := by rw [cell_of_row _ g _ _ 69 (0, 0) rowA]; simp
      have hgrA : w.grownBy (w1.alloc (.cells #[.string c1, .string c2] 72)) (some m) := hgr1.andThen (World.grownBy_alloc w1 _ none) (fun j hj => by cases hj)
      have hli2 : LeftIn D' (fun z => left z && !z.sameKey (ky e.a)) := fun z hz => hli.out z (by simp at hz; exact hz.1)
      have hrgA := hrg1.alloc (.cells #[.string c1, .string c2] 72)
      have hl2 := hrg.left_eq
      have hszA : w.heap.size < (w1.alloc (.cells #[.string c1, .string c2] 72)).heap.size := by simp; omega
      have hhas := hli.out _ hlk
      replace hrgA := Lib.hid hrgA
      replace hrg := Lib.hid hrg
      replace hl2 := Lib.hid hl2
      replace rowA := Lib.hid rowA
      replace hgrA := Lib.hid hgrA
      replace hli2 := Lib.hid hli2
      replace hR := Lib.hid hR
      replace hat := Lib.hid hat
      replace hlk := Lib.hid hlk
      replace he := Lib.hid he
      replace heT := Lib.hid heT
      replace hs1 := Lib.hid hs1
      replace hsz := Lib.hid hsz
      replace hk := Lib.hid hk
      replace hhas := Lib.hid hhas
      clear hg1 hrg1 hgr1 ca'
      by_cases ho : e.o = o
      · have hst := tl_strike (left := left) H.out.nd heT.out ho
        have hsl := strike_len (H.out.nd.sub (List.filter_sublist (p := fun e => left (ky e.a) || decide (e.o ≠ o)))) he.out
        rw [heo] at ho
        subst ho
        have hd := str_eq c1
        replace heo := Lib.hid heo
        replace hst := Lib.hid hst
        replace hsl := Lib.hid hsl
        go_wp2_with (at_delete; refine wpList_delete_ranges _ rfl _ _ 67 23 rfl 72 law23 Tryd.underlying67 mR m w.heap.size _ D' _ n1 rfl hrgA.out _ (ky e.a) rfl hk.out ?_; intro w2 n2 hrg2 hle2 hturn)
        have hrg2' := Lib.hid hrg2
        rw [Maps.strike_twice] at hrg2
        have htidy := hrgA.out.owns.tidy law23
        have hsd := size_del (k := ky e.a) htidy
        rw [if_pos hhas.out, hsz.out] at hsd
        go_frame
        go_roundw
        case rel =>
          refine ⟨_, _, _, hrg2, ?_, ?_, ?_, hgrA.out.andThen hturn.grown (fun j hj => by cases hj; exact .inr rfl), by have := hturn.grown.size; omega⟩
          · intro z hz
            have hz1 := hli2.out z hz
            have hne : z ≠ ky e.a := by
              intro e'; subst e'
              simp [sameKey_ky] at hz
            rw [has_del_other hne]; exact hz1
          · rw [hst.out]; exact hrd.out.del e.a
          · rw [hst.out]; have := hsl.out; unfold tl at *; omega
        case measure => rw [hrg2.left_eq, hl2.out]; omega
      · have hst := tl_keep (left := left) H.out.nd heT.out ho
        rw [heo] at ho
        have hd := str_ne ho
        replace ho := Lib.hid ho
        replace heo := Lib.hid heo
        replace hst := Lib.hid hst
        go_wp2
        go_roundw
        case rel => exact ⟨_, _, _, hrgA.out, hli2.out, by rw [hst.out]; exact hrd.out, by rw [hst.out]; exact hsz.out, hgrA.out, hszA⟩
        case measure => rw [hrgA.out.left_eq, hl2.out]; omega
end Go.Proofs.YtihblangceblhaaDoor
