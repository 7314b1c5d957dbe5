/-
  LAYER 35: the heap of grants answers; its own Push; heap.Push.
-/
import Derived.Test.YtoijdmchkjmpgaaRb
import Derived.Test.YtoijdmchkjmpgaaYb
import Derived.Deep.RegionHeld3
import Derived.Deep.AppendLies
import Derived.Deep.DeepMust
import Derived.Deep.RegionLaw
namespace Go.Proofs.Ytoijdmchkjmpgaa.Rte
open Go.RowKit Que Hp Hg
theorem m_len0 (g : Nat) (w : World) : (method 262 110 (.pointer (some ⟨g, 2, none⟩)) "Len").run Try.prog w = ((do let v ← loadVar 104 ⟨g, 2, none⟩; pure (108, v)) : Sem (FuncId × Value)).run Try.prog w := by kernel_rfl
theorem m_len (g : Nat) (w : World) (v : Value) (hc : w.cell? ⟨g, 2, none⟩ = some v) : (method 262 110 (.pointer (some ⟨g, 2, none⟩)) "Len").run Try.prog w = .ok (108, v) w := by
  rw [m_len0]; simp [go_sem, hc]
theorem m_less0 (g : Nat) (w : World) : (method 262 110 (.pointer (some ⟨g, 2, none⟩)) "Less").run Try.prog w = ((do let v ← loadVar 104 ⟨g, 2, none⟩; pure (109, v)) : Sem (FuncId × Value)).run Try.prog w := by kernel_rfl
theorem m_less (g : Nat) (w : World) (v : Value) (hc : w.cell? ⟨g, 2, none⟩ = some v) : (method 262 110 (.pointer (some ⟨g, 2, none⟩)) "Less").run Try.prog w = .ok (109, v) w := by
  rw [m_less0]; simp [go_sem, hc]
theorem m_swap0 (g : Nat) (w : World) : (method 262 110 (.pointer (some ⟨g, 2, none⟩)) "Swap").run Try.prog w = ((do let v ← loadVar 104 ⟨g, 2, none⟩; pure (110, v)) : Sem (FuncId × Value)).run Try.prog w := by kernel_rfl
theorem m_swap (g : Nat) (w : World) (v : Value) (hc : w.cell? ⟨g, 2, none⟩ = some v) : (method 262 110 (.pointer (some ⟨g, 2, none⟩)) "Swap").run Try.prog w = .ok (110, v) w := by
  rw [m_swap0]; simp [go_sem, hc]
theorem m_push (v : Value) (w : World) : (method 262 110 v "Push").run Try.prog w = .ok (112, v) w := by kernel_rfl
theorem as_gr (v : Value) (w : World) : (Instr.typeAssert (.iface 109 v) 20 109 false).run Try.prog w = .ok v w := by kernel_rfl
def zG : Value := .agg #[.string { data := #[] }, .int .i64 0]
theorem info109 : (Try.prog.info? 109).map (fun i => (i.zero, i.size, i.bytes)) = some (some zG, 2, 24) := by kernel_rfl
def SI (g : Nat) (v : Value) (k : Nat) : Prop := k = g ∨ v.ownBlock = some k
def IG (B g : Nat) (gap : Int) (v : Value) (n : Nat) (G : List Gr) (w : World) : Prop := Rt B w g gap v G ∧ G.length = n
section
variable {B : Nat} {w w' : World} {g : Nat} {gap : Int} {v : Value} {G : List Gr}
theorem hs_any (B g : Nat) (gap : Int) (v : Value) (n : Nat) (hn : n ≤ 1000) : HS key (IG B g gap v n) (Far (SV v)) 110 (.pointer (some ⟨g, 2, none⟩)) v where
  rr := fun w => Far.refl _ w
  rt := fun h k => h.trans k (fun _ _ h => h)
  mlen := fun h => m_len g _ _ h.1.c2
  mless := fun h => m_less g _ _ h.1.c2
  mswap := fun h => m_swap g _ _ h.1.c2
  len := fun h => hlen_any h.1
  less := fun h hi hj => (less_any h.1 hi hj (by have := h.2; omega)).mono fun e w' ⟨k, he, hw⟩ => ⟨he, by rw [← hw]; exact ⟨h.1.keep (ext_drewN _ _), h.2⟩, by rw [← hw]; exact Far.of_ext (ext_drewN _ _)⟩
  swap := fun h hi hj hne => (swap_any h.1 hi hj (by have := h.2; omega) hne).mono fun e w' ⟨he, r, f⟩ => ⟨he, ⟨r, by rw [sx_len]; exact h.2⟩, f⟩
/-- The grants are others; they stand in the same block or in a new one. -/
structure RNew (B : Nat) (w w' : World) (g : Nat) (gap : Int) (v : Value) (G : List Gr) (v' : Value) : Prop where
  r : Rt B w' g gap v' G
  far : Far (SI g v) w w'
  nb : ∀ k, v'.ownBlock = some k → v.ownBlock = some k ∨ w.heap.size ≤ k
theorem setR {w : World} {g j : Nat} {cs : Array Value} (h : w.heap[g]? = some (.cells cs 106 (0, 0))) (u : Value) : (w.setCell ⟨g, j, none⟩ u).heap[g]? = some (.cells (cs.setIfInBounds j u) 106 (0, 0)) :=
  heap_setCell_same w g j _ 106 u h
theorem push_end {Wx w1 : World} {x : Gr} {gg cap : Nat} (h : Rt B w g gap v G) (hx : Below w.heap.size w Wx) (hgrow : Wx.grownBy w1 v.ownBlock)
    (hown1 : w1.ownsRow B 109 2 (.slice (some ⟨gg, 0, none⟩) (G.length + 1) cap) (G.length + 1) (grC G ++ x.cells)) (hat : v.ownBlock = some gg ∨ gg = w.heap.size + 1) :
    RNew B w (w1.setCell ⟨g, 2, none⟩ (.slice (some ⟨gg, 0, none⟩) (G.length + 1) cap)) g gap v (G ++ [x]) (.slice (some ⟨gg, 0, none⟩) (G.length + 1) cap) := by
  have Rx := (hx.block g h.lt).trans h.row
  have hne := own_far h.its h.row (by decide : (106 : TypeId) ≠ 109)
  have R1 := (hgrow.block g (Nat.lt_of_lt_of_le h.lt hx.size) hne).trans Rx
  have GG : w1.grownBy (w1.setCell ⟨g, 2, none⟩ (.slice (some ⟨gg, 0, none⟩) (G.length + 1) cap)) (some g) := set_grownX
  refine ⟨⟨by simpa using setR R1 (j := 2) (.slice (some ⟨gg, 0, none⟩) (G.length + 1) cap), ?_⟩, ?_, fun k hk => ?_⟩
  · have := own_grown hown1 R1 (by decide) GG
    rw [grC_snoc]
    simpa using this
  · exact ((Far.of_ext hx).trans (Far.of_grown (S := SI g v) hgrow (fun k _ e => .inr e)) (fun k _ h => h)).trans (Far.of_grown (S := SI g v) GG (fun k _ e => .inl (by simpa using e.symm))) (fun k _ h => h)
  · obtain rfl : gg = k := by simpa [Value.ownBlock] using hk
    rcases hat with h | h
    · exact .inl h
    · exact .inr (by omega)
set_option maxHeartbeats 4000000 in
set_option maxRecDepth 100000 in
theorem lpush_any (h : Rt B w g gap v G) (x : Gr) (hl : G.length ≤ 900) (hB : B ≤ w.heap.size) :
    Calls Try.prog 112 #[.pointer (some ⟨g, 2, none⟩), .iface 109 (.agg #[.string x.k, .int .i64 x.t])] w fun e w' => e = .returned (.tuple #[]) ∧ ∃ v', RNew B w w' g gap v (G ++ [x]) v' := by
  obtain ⟨i3, hi3, hz0, hz1, hz2⟩ := info_parts info109
  have ka := as_gr
  have c2 := h.c2
  have f2 := h.fz 2
  have hlt := h.lt
  have far : v.ownBlock ≠ some g := Ne.symm (own_far h.its h.row (by decide))
  have KB : Hid (∀ W : World, Below w.heap.size w W → W.ownsRow B 109 2 v G.length (grC G)) := Lib.hid fun W hW => own_keep h.its hW
  have KN : Hid (∀ W : World, W.heap[w.heap.size]? = some (.cells #[.string x.k, .int .i64 x.t] 109 (0, 0)) → ∀ j u, x.cells[j]? = some u → W.cell? ((⟨w.heap.size, 0, none⟩ : Addr).add j) = some u) := Lib.hid (by
    intro W hW j u hj
    have := cell_of_row W w.heap.size j _ 109 (0, 0) hW
    rw [add_off', Nat.zero_add, this, ← hj]
    simp [Gr.cells])
  have HH := Lib.hid h
  clear h
  go_enter Try.func112, Try.ntmps112
  go_wp2_with fail
  go_region_law (go_must (refine step_append_lies _ rfl (.tmp 7) (.tmp 10) 104 rfl B 109 i3 zG 2 24 Try.underlying104 hi3 hz0 hz1 hz2 rfl (by decide) v G.length (grC G) rfl (KB.out _ (by first | exact ext_alloc w _ | exact ext_trans (ext_alloc w _) (ext_drew _) | exact ext_trans (ext_drew w) (ext_alloc w.drew _))) ⟨w.heap.size, 0, none⟩ 1 1 x.cells rfl rfl (KN.out _ (by first | exact heap_alloc_new w _ | exact heap_alloc_new w.drew _)) (by intro u hu; simp [Gr.cells] at hu; rcases hu with rfl | rfl <;> rfl) (by decide) (by unfold maxLen; omega) (by omega) (by simp; omega) (w.heap.size + 1) (by simp) ?_); intro gg cap w1 hown1 hgrow hat hlt1; have hc1 := (hgrow.cell_far ⟨g, 2, none⟩ (by simp; omega) (Ne.symm far)); have hf1 := (hgrow.frozen_far ⟨g, 2, none⟩ (by simp; omega) (Ne.symm far)); replace hat := Lib.hid hat; replace hgrow := Lib.hid hgrow; replace hown1 := Lib.hid hown1)
  all_goals go_end0
  all_goals exact ⟨rfl, _, push_end HH.out (by first | exact ext_trans (ext_alloc w _) (ext_drew _) | exact ext_alloc w _ | exact ext_trans (ext_drew w) (ext_alloc w.drew _)) hgrow.out hown1.out hat.out⟩
def HPush (B : Nat) (w : World) (g : Nat) (gap : Int) (v : Value) (G : List Gr) (x : Gr) (w' : World) : Prop :=
  ∃ v' G', List.Perm G' (G ++ [x]) ∧ HeapP (G'.map key) G'.length ∧ RNew B w w' g gap v G' v'
set_option maxHeartbeats 4000000 in
set_option maxRecDepth 100000 in
theorem hpush_any (h : Rt B w g gap v G) (hp : HeapP (G.map key) G.length) (x : Gr) (hl : G.length ≤ 500) (hB : B ≤ w.heap.size) :
    Calls Try.prog 54 #[.iface 110 (.pointer (some ⟨g, 2, none⟩)), .iface 109 (.agg #[.string x.k, .int .i64 x.t])] w fun e w' => e = .returned (.tuple #[]) ∧ HPush B w g gap v G x w' := by
  have km := m_push
  have P := Lib.hid (lpush_any h x (by omega) hB)
  have U : Hid (Up ((G ++ [x]).map key) (G ++ [x]).length G.length) := Lib.hid (by
    have := up_snoc (H := G.map key) (by simpa using hp) (key x)
    simpa using this)
  have hl2 : (G.length : Int) ≤ 500 := by omega
  clear h hp
  go_enter Try.func54, Try.ntmps54
  go_wp2_with fail
  refine P.out.mono ?_
  rintro e w1 ⟨rfl, v1, n1⟩
  have kl := m_len g w1 _ n1.r.c2
  have LL : Hid (Calls Try.prog 108 #[v1] w1 fun e w' => e = .returned (.int .i64 ((G.length : Int) + 1)) ∧ w1 = w') := Lib.hid (by
    have := hlen_any n1.r
    rwa [show (((G ++ [x]).length : Nat) : Int) = (G.length : Int) + 1 by simp] at this)
  have N1 := Lib.hid n1
  clear n1 P km
  go_wp2_with fail
  refine LL.out.mono ?_
  rintro e w2 ⟨rfl, rfl⟩
  have UP : Hid (Calls Try.prog 63 #[.iface 110 (.pointer (some ⟨g, 2, none⟩)), .int .i64 (G.length : Int)] w1 fun e w' => e = .returned (.tuple #[]) ∧ HPush B w g gap v G x w') := Lib.hid ((up_any (hs_any B g gap v1 (G ++ [x]).length (by simp; omega)) ⟨N1.out.r, rfl⟩ (Nat.le_refl _) U.out (by simp; omega)).mono fun e w' ⟨he, G', p, hh, _, i, f⟩ => ⟨he, v1, G', p, by rw [p.length_eq]; exact hh, i.1, N1.out.far.trans f (fun k hk e => by
    rcases N1.out.nb k e with e | e
    · exact .inr e
    · omega), N1.out.nb⟩)
  clear kl LL U
  go_wp2_with fail
  refine UP.out.mono ?_
  rintro e w3 ⟨rfl, h3⟩
  have H3 := Lib.hid h3
  clear h3
  go_wp2
  go_end0
  exact ⟨rfl, H3.out⟩
/-- An element's time is another, and the heap is put right. -/
theorem hfix_any (h : Rt B w g gap v G) (hp : HeapP (G.map key) G.length) {j : Nat} {e : Gr} (he : G[j]? = some e) (t : Int) (hl : G.length ≤ 500) {w1 : World} (r1 : Rt B w1 g gap v (G.set j ⟨e.k, t⟩)) (f1 : Far (SV v) w w1) :
    Calls Try.prog 60 #[.iface 110 (.pointer (some ⟨g, 2, none⟩)), .int .i64 j] w1 fun e' w' => e' = .returned (.tuple #[]) ∧ ∃ G', List.Perm G' (G.set j ⟨e.k, t⟩) ∧ HeapP (G'.map key) G'.length ∧ Rt B w' g gap v G' ∧ Far (SV v) w w' := by
  have hj := (List.getElem?_eq_some_iff.1 he).1
  refine (fix_any (hs_any B g gap v G.length (by omega)) (G := G.set j ⟨e.k, t⟩) ⟨r1, by simp⟩ (j := j) (by simpa using hj) ?_ (by simp; omega)).mono ?_
  · refine fx_of hp (by simp) (fun i hi hne => ?_)
    unfold at'
    rw [List.getD_eq_getElem?_getD, List.getD_eq_getElem?_getD, List.getElem?_map, List.getElem?_map, List.getElem?_set_ne (fun e => hne e.symm)]
  · rintro e' w' ⟨rfl, G', p, hh, _, i, f⟩
    exact ⟨rfl, G', p, by rw [p.length_eq]; exact hh, i.1, f1.trans f (fun _ _ h => h)⟩
end
end Go.Proofs.Ytoijdmchkjmpgaa.Rte
