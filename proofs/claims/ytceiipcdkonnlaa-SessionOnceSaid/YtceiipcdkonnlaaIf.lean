/-
  LAYER 21: the heap's own Push and Pop.
-/
import Derived.Test.YtceiipcdkonnlaaIe
namespace Go.Proofs.Ytceiipcdkonnlaa.Ids
set_option linter.unusedSimpArgs false
set_option linter.unusedVariables false
open Go.RowKit Que Hp
def SI (g : Nat) (bv : Value) (k : Nat) : Prop := k = g ∨ bv.ownBlock = some k
section
variable {B : Nat} {w w' : World} {g : Nat} {most c : Int} {tv bv : Value} {T : List Bool} {H : List Int}
/-- The numbers that came back are others; they stand in the same block or in a new one. -/
structure INew (B : Nat) (w w' : World) (g : Nat) (most : Int) (tv : Value) (T : List Bool) (bv : Value) (H : List Int) (c : Int) (bv' : Value) : Prop where
  i : Id B w' g most tv T bv' H c
  far : Far (SI g bv) w w'
  nb : ∀ k, bv'.ownBlock = some k → bv.ownBlock = some k ∨ w.heap.size ≤ k
theorem as_int (v : Value) (w : World) : (Instr.typeAssert (.iface 3 v) 20 3 false).run Try.prog w = .ok v w := by kernel_rfl
theorem setI {w : World} {g j : Nat} {cs : Array Value} (h : w.heap[g]? = some (.cells cs 112 (0, 0))) (u : Value) : (w.setCell ⟨g, j, none⟩ u).heap[g]? = some (.cells (cs.setIfInBounds j u) 112 (0, 0)) :=
  heap_setCell_same w g j _ 112 u h
theorem push_end {Wx w1 : World} {x : Int} {gg cap : Nat} (h : Id B w g most tv T bv H c) (hx : Below w.heap.size w Wx) (hgrow : Wx.grownBy w1 bv.ownBlock)
    (hown1 : w1.ownsRow B 3 1 (.slice (some ⟨gg, 0, none⟩) (H.length + 1) cap) (H.length + 1) (il H ++ [.int .i64 x])) (hat : bv.ownBlock = some gg ∨ gg = w.heap.size + 1) :
    INew B w (w1.setCell ⟨g, 2, none⟩ (.slice (some ⟨gg, 0, none⟩) (H.length + 1) cap)) g most tv T bv (H ++ [x]) c (.slice (some ⟨gg, 0, none⟩) (H.length + 1) cap) := by
  have Rx := (hx.block g h.lt).trans h.row
  have hne := own_far h.bk h.row (by decide : (112 : TypeId) ≠ 3)
  have R1 := (hgrow.block g (Nat.lt_of_lt_of_le h.lt hx.size) hne).trans Rx
  have T1 := (own_keep h.tk hx).kept hgrow (by
    by_cases e : tv.ownBlock = none
    · exact .inl e
    · refine .inr (fun e2 => ?_)
      obtain ⟨k, hk⟩ := Option.ne_none_iff_exists'.1 e
      exact own_apart h.bk h.tk (by decide) k (e2 ▸ hk) hk)
  have G : w1.grownBy (w1.setCell ⟨g, 2, none⟩ (.slice (some ⟨gg, 0, none⟩) (H.length + 1) cap)) (some g) := set_grownX
  refine ⟨⟨by simpa using setI R1 (j := 2) (.slice (some ⟨gg, 0, none⟩) (H.length + 1) cap), own_grown T1 R1 (by decide) G, ?_⟩, ?_, fun k hk => ?_⟩
  · have := own_grown hown1 R1 (by decide) G
    simpa [il] using this
  · exact ((Far.of_ext hx).trans (Far.of_grown (S := SI g bv) hgrow (fun k _ e => .inr e)) (fun k _ h => h)).trans (Far.of_grown (S := SI g bv) G (fun k _ e => .inl (by simpa using e.symm))) (fun k _ h => h)
  · obtain rfl : gg = k := by simpa [Value.ownBlock] using hk
    rcases hat with h | h
    · exact .inl h
    · exact .inr (by omega)
set_option maxHeartbeats 4000000 in
set_option maxRecDepth 100000 in
theorem lpush_any (h : Id B w g most tv T bv H c) (x : Int) (hl : H.length ≤ 1000) (hB : B ≤ w.heap.size) :
    Calls Try.prog 128 #[.pointer (some ⟨g, 2, none⟩), .iface 3 (.int .i64 x)] w fun e w' => e = .returned (.tuple #[]) ∧ ∃ bv', INew B w w' g most tv T bv (H ++ [x]) c bv' := by
  obtain ⟨i3, hi3, hz0, hz1, hz2⟩ := info_parts info3
  have ka := as_int
  have c2 := h.c2
  have f2 := h.fz 2
  have hlt := h.lt
  have far : bv.ownBlock ≠ some g := Ne.symm (own_far h.bk h.row (by decide))
  have KB : Hid (∀ W : World, Below w.heap.size w W → W.ownsRow B 3 1 bv H.length (il H)) := Lib.hid fun W hW => own_keep h.bk hW
  have KN : Hid (∀ W : World, W.heap[w.heap.size]? = some (.cells #[.int .i64 x] 3 (0, 0)) → ∀ j u, ([Value.int .i64 x] : List Value)[j]? = some u → W.cell? ((⟨w.heap.size, 0, none⟩ : Addr).add j) = some u) := Lib.hid (by
    intro W hW j u hj
    have := cell_of_row W w.heap.size j _ 3 (0, 0) hW
    rw [add_off', Nat.zero_add, this, ← hj]
    simp)
  have HH := Lib.hid h
  clear h
  go_enter Try.func128, Try.ntmps128
  go_wp2_with fail
  go_region_law (go_must (refine step_append_lies _ rfl (.tmp 7) (.tmp 10) 110 rfl B 3 i3 (.int .i64 0) 1 8 Try.underlying110 hi3 hz0 hz1 hz2 rfl (by decide) bv H.length (il H) rfl (KB.out _ (by first | exact ext_alloc w _ | exact ext_trans (ext_alloc w _) (ext_drew _) | exact ext_trans (ext_drew w) (ext_alloc w.drew _))) ⟨w.heap.size, 0, none⟩ 1 1 [.int .i64 x] rfl rfl (KN.out _ (by first | exact heap_alloc_new w _ | exact heap_alloc_new w.drew _)) (by intro u hu; simp at hu; subst hu; rfl) (by decide) (by unfold maxLen; omega) (by omega) (by simp; omega) (w.heap.size + 1) (by simp) ?_); intro gg cap w1 hown1 hgrow hat hlt1; have hc1 := (hgrow.cell_far ⟨g, 2, none⟩ (by simp; omega) (Ne.symm far)); have hf1 := (hgrow.frozen_far ⟨g, 2, none⟩ (by simp; omega) (Ne.symm far)); replace hat := Lib.hid hat; replace hgrow := Lib.hid hgrow; replace hown1 := Lib.hid hown1)
  all_goals go_end0
  all_goals exact ⟨rfl, _, push_end HH.out (by first | exact ext_trans (ext_alloc w _) (ext_drew _) | exact ext_alloc w _ | exact ext_trans (ext_drew w) (ext_alloc w.drew _)) hgrow.out hown1.out hat.out⟩
end
end Go.Proofs.Ytceiipcdkonnlaa.Ids
