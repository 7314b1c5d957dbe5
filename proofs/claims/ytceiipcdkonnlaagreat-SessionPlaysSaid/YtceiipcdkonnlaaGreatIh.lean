/-
  LAYER 21: the heap's own Push and Pop.
-/
import Derived.Test.YtceiipcdkonnlaaGreatIe
namespace Go.Proofs.YtceiipcdkonnlaaGreat.Ids
set_option linter.unusedSimpArgs false
set_option linter.unusedVariables false
open Go.RowKit Que Hp
def SI (g : Nat) (bv : Value) (k : Nat) : Prop := k = g ∨ bv.ownBlock = some k
section
variable {B : Nat} {w w' : World} {g : Nat} {most c : Int} {tv bv : Value} {T : List Bool} {H : List Int}
/-- The numbers that came back are others; they stand in the same block or in a new one. -/
structure INew (B : Nat) (w w' : World) (g : Nat) (most : Int) (tv : Value) (T : List Bool) (bv : Value) (H : List Int) (c : Int) (bv' : Value) : Prop where
  i : Id B w' g most tv T bv' H c
  far : Far (SI g bv) w w'
  nb : ∀ k, bv'.ownBlock = some k → bv.ownBlock = some k ∨ w.heap.size ≤ k
theorem as_int (v : Value) (w : World) : (Instr.typeAssert (.iface 3 v) 20 3 false).run Tryz.prog w = .ok v w := by kernel_rfl
theorem setI {w : World} {g j : Nat} {cs : Array Value} (h : w.heap[g]? = some (.cells cs 112 (0, 0))) (u : Value) : (w.setCell ⟨g, j, none⟩ u).heap[g]? = some (.cells (cs.setIfInBounds j u) 112 (0, 0)) :=
  heap_setCell_same w g j _ 112 u h
theorem push_end {Wx w1 : World} {x : Int} {gg cap : Nat} (h : Id B w g most tv T bv H c) (hx : Below w.heap.size w Wx) (hgrow : Wx.grownBy w1 bv.ownBlock)
    (hown1 : w1.ownsRow B 3 1 (.slice (some ⟨gg, 0, none⟩) (H.length + 1) cap) (H.length + 1) (il H ++ [.int .i64 x])) (hat : bv.ownBlock = some gg ∨ gg = w.heap.size + 1) :
    INew B w (w1.setCell ⟨g, 2, none⟩ (.slice (some ⟨gg, 0, none⟩) (H.length + 1) cap)) g most tv T bv (H ++ [x]) c (.slice (some ⟨gg, 0, none⟩) (H.length + 1) cap) := by
  have Rx := (hx.block g h.lt).trans h.row
  have hne := own_far h.bk h.row (by decide : (112 : TypeId) ≠ 3)
  have R1 := (hgrow.block g (Nat.lt_of_lt_of_le h.lt hx.size) hne).trans Rx
  have T1 := (own_keep h.tk hx).kept hgrow (by
    by_cases e : tv.ownBlock = none
    · exact .inl e
    · refine .inr (fun e2 => ?_)
      obtain ⟨k, hk⟩ := Option.ne_none_iff_exists'.1 e
      exact own_apart h.bk h.tk (by decide) k (e2 ▸ hk) hk)
  have G : w1.grownBy (w1.setCell ⟨g, 2, none⟩ (.slice (some ⟨gg, 0, none⟩) (H.length + 1) cap)) (some g) := set_grownX
  refine ⟨⟨by simpa using setI R1 (j := 2) (.slice (some ⟨gg, 0, none⟩) (H.length + 1) cap), own_grown T1 R1 (by decide) G, ?_⟩, ?_, fun k hk => ?_⟩
  · have := own_grown hown1 R1 (by decide) G
    simpa [il] using this
  · exact ((Far.of_ext hx).trans (Far.of_grown (S := SI g bv) hgrow (fun k _ e => .inr e)) (fun k _ h => h)).trans (Far.of_grown (S := SI g bv) G (fun k _ e => .inl (by simpa using e.symm))) (fun k _ h => h)
  · obtain rfl : gg = k := by simpa [Value.ownBlock] using hk
    rcases hat with h | h
    · exact .inl h
    · exact .inr (by omega)
set_option maxHeartbeats 4000000 in
set_option maxRecDepth 100000 in
theorem lpush_any (h : Id B w g most tv T bv H c) (x : Int) (hl : H.length ≤ 1000) (hB : B ≤ w.heap.size) :
    Calls Tryz.prog 119 #[.pointer (some ⟨g, 2, none⟩), .iface 3 (.int .i64 x)] w fun e w' => e = .returned (.tuple #[]) ∧ ∃ bv', INew B w w' g most tv T bv (H ++ [x]) c bv' := by
  obtain ⟨i3, hi3, hz0, hz1, hz2⟩ := info_parts info3
  have ka := as_int
  have c2 := h.c2
  have f2 := h.fz 2
  have hlt := h.lt
  have far : bv.ownBlock ≠ some g := Ne.symm (own_far h.bk h.row (by decide))
  have KB : Hid (∀ W : World, Below w.heap.size w W → W.ownsRow B 3 1 bv H.length (il H)) := Lib.hid fun W hW => own_keep h.bk hW
  have KN : Hid (∀ W : World, W.heap[w.heap.size]? = some (.cells #[.int .i64 x] 3 (0, 0)) → ∀ j u, ([Value.int .i64 x] : List Value)[j]? = some u → W.cell? ((⟨w.heap.size, 0, none⟩ : Addr).add j) = some u) := Lib.hid (by
    intro W hW j u hj
    have := cell_of_row W w.heap.size j _ 3 (0, 0) hW
    rw [add_off', Nat.zero_add, this, ← hj]
    simp)
  have HH := Lib.hid h
  clear h
  go_enter Tryz.func119, Tryz.ntmps119
  go_wp2_with fail
  go_region_law (go_must (refine step_append_lies _ rfl (.tmp 7) (.tmp 10) 110 rfl B 3 i3 (.int .i64 0) 1 8 Tryz.underlying110 hi3 hz0 hz1 hz2 rfl (by decide) bv H.length (il H) rfl (KB.out _ (by first | exact ext_alloc w _ | exact ext_trans (ext_alloc w _) (ext_drew _) | exact ext_trans (ext_drew w) (ext_alloc w.drew _))) ⟨w.heap.size, 0, none⟩ 1 1 [.int .i64 x] rfl rfl (KN.out _ (by first | exact heap_alloc_new w _ | exact heap_alloc_new w.drew _)) (by intro u hu; simp at hu; subst hu; rfl) (by decide) (by unfold maxLen; omega) (by omega) (by simp; omega) (w.heap.size + 1) (by simp) ?_); intro gg cap w1 hown1 hgrow hat hlt1; have hc1 := (hgrow.cell_far ⟨g, 2, none⟩ (by simp; omega) (Ne.symm far)); have hf1 := (hgrow.frozen_far ⟨g, 2, none⟩ (by simp; omega) (Ne.symm far)); replace hat := Lib.hid hat; replace hgrow := Lib.hid hgrow; replace hown1 := Lib.hid hown1)
  all_goals go_end0
  all_goals exact ⟨rfl, _, push_end HH.out (by first | exact ext_trans (ext_alloc w _) (ext_drew _) | exact ext_alloc w _ | exact ext_trans (ext_drew w) (ext_alloc w.drew _)) hgrow.out hown1.out hat.out⟩
end
end Go.Proofs.YtceiipcdkonnlaaGreat.Ids

/-
  LAYER 21: heap.Push, heap.Pop.
-/
namespace Go.Proofs.YtceiipcdkonnlaaGreat.Ids
set_option linter.unusedSimpArgs false
set_option linter.unusedVariables false
open Go.RowKit Que Hp
theorem at_left {A C : List Int} {i : Nat} (h : i < A.length) : at' (A ++ C) i = at' A i := by unfold at'; simp [List.getD_eq_getElem?_getD, List.getElem?_append_left h]
theorem at_take {G : List Int} {n i : Nat} (h : i < n) : at' (G.take n) i = at' G i := by unfold at'; simp [List.getD_eq_getElem?_getD, List.getElem?_take, h]
theorem up_snoc {H : List Int} (h : HeapP H H.length) (x : Int) : Up (H ++ [x]) (H ++ [x]).length H.length := by
  have e : (H ++ [x]).length = H.length + 1 := by simp
  refine ⟨by omega, fun i h0 hi hne => ?_, fun i h0 hi hp hj => by omega⟩
  rw [at_left (by omega), at_left (by omega)]
  exact h i h0 (by omega)
theorem dn_swap {H : List Int} {n : Nat} (h : HeapP H H.length) (hl : H.length = n + 1) (hn : 0 < n) : Dn (sw H 0 n) n 0 := by
  have S := sw_at (H := H) (i := 0) (j := n) (by omega) (by omega)
  refine ⟨fun i h0 hi hp => ?_, fun i h0 hi hp hj => by omega⟩
  rw [S, S, if_neg (by omega), if_neg (by omega), if_neg (by omega), if_neg (by omega)]
  exact h i h0 (by omega)
section
variable {B : Nat} {w w' : World} {g : Nat} {most c : Int} {tv bv : Value} {T : List Bool} {H : List Int}
theorem Id.nb_lt (h : Id B w g most tv T bv H c) {k : Nat} (hk : bv.ownBlock = some k) : k < w.heap.size := (h.bk.lt k hk).2
def HPush (B : Nat) (w : World) (g : Nat) (most : Int) (tv : Value) (T : List Bool) (bv : Value) (H : List Int) (c : Int) (x : Int) (w' : World) : Prop :=
  ∃ bv' G, List.Perm G (H ++ [x]) ∧ HeapP G G.length ∧ INew B w w' g most tv T bv G c bv'
set_option maxHeartbeats 4000000 in
set_option maxRecDepth 100000 in
theorem hpush_any (h : Id B w g most tv T bv H c) (hp : HeapP H H.length) (x : Int) (hl : H.length ≤ 500) (hB : B ≤ w.heap.size) :
    Calls Tryz.prog 87 #[.iface 137 (.pointer (some ⟨g, 2, none⟩)), .iface 3 (.int .i64 x)] w fun e w' => e = .returned (.tuple #[]) ∧ HPush B w g most tv T bv H c x w' := by
  have km := m_push
  have P := Lib.hid (lpush_any h x (by omega) hB)
  have U := Lib.hid (up_snoc hp x)
  have hl2 : (H.length : Int) ≤ 500 := by omega
  clear h hp
  go_enter Tryz.func87, Tryz.ntmps87
  go_wp2_with fail
  refine P.out.mono ?_
  rintro e w1 ⟨rfl, b1, n1⟩
  have kl := m_len g w1 _ n1.i.c2
  obtain ⟨a1, c1, rfl⟩ := own_slice n1.i.bk
  rw [show (H ++ [x]).length = H.length + 1 by simp] at kl
  have LL : Hid (Calls Tryz.prog 115 #[.slice a1 (H.length + 1) c1] w1 fun e w' => e = .returned (.int .i64 ((H.length : Int) + 1)) ∧ w1 = w') := Lib.hid (len_any (.slice a1 (H.length + 1) c1) (H.length + 1) a1 c1 rfl w1)
  have N1 := Lib.hid n1
  clear n1 P km
  go_wp2_with fail
  refine LL.out.mono ?_
  rintro e w2 ⟨rfl, rfl⟩
  have UP : Hid (Calls Tryz.prog 91 #[.iface 137 (.pointer (some ⟨g, 2, none⟩)), .int .i64 (H.length : Int)] w1 fun e w' => e = .returned (.tuple #[]) ∧ HPush B w g most tv T bv H c x w') := Lib.hid ((up_any N1.out.i U.out (by simp; omega)).mono fun e w' ⟨he, G, p, hh, _, i, f⟩ => ⟨he, _, G, p, by rw [p.length_eq]; exact hh, i, N1.out.far.trans f (fun k hk e => by
    rcases N1.out.nb k e with e | e
    · exact .inr e
    · omega), N1.out.nb⟩)
  clear kl LL U
  go_wp2_with fail
  refine UP.out.mono ?_
  rintro e w3 ⟨rfl, h3⟩
  have H3 := Lib.hid h3
  clear h3
  go_wp2
  go_end0
  exact ⟨rfl, H3.out⟩
end
end Go.Proofs.YtceiipcdkonnlaaGreat.Ids

/-
  LAYER 21: heap.Pop.
-/
namespace Go.Proofs.YtceiipcdkonnlaaGreat.Ids
set_option linter.unusedSimpArgs false
set_option linter.unusedVariables false
open Go.RowKit Que Hp
section
variable {B : Nat} {w w' : World} {g : Nat} {most c : Int} {tv bv : Value} {T : List Bool} {H : List Int}
set_option maxHeartbeats 2000000 in
set_option maxRecDepth 100000 in
theorem swap_one {x : Int} (h : Id B w g most tv T bv [x] c) :
    Calls Tryz.prog 117 #[bv, .int .i64 0, .int .i64 0] w fun e w' => e = .returned (.tuple #[]) ∧ Id B w' g most tv T bv [x] c ∧ Far (SB bv) w w' := by
  obtain ⟨gb, cb, hv⟩ := own_slice' h.bk (by simp)
  have ci : w.cell? ⟨gb, 0, none⟩ = some (.int .i64 x) := h.num hv (k := 0) (by simp)
  have S1 := Lib.hid (((h.store hv (k := 0) x).store hv (k := 0) x).keep (ext_drew _))
  have hb := h.bk
  simp only [List.length_singleton] at hv
  subst hv
  have fi : w.frozen? ⟨gb, 0, none⟩ = false := hb.frozenAt 0
  clear h hb
  go_enter Tryz.func117, Tryz.ntmps117
  go_wp2
  go_region
  go_end0
  refine ⟨rfl, S1.out, ?_⟩
  have F : ∀ (W : World) (k : Nat) (u : Value), Far (SB (.slice (some ⟨gb, 0, none⟩) 1 cb)) W (W.setCell ⟨gb, k, none⟩ u) := fun W k u => ⟨rfl, rfl, rfl, by simp [World.setCell], fun q _ hq => Below.heap_setCell _ _ _ _ (fun e => hq (by subst e; rfl))⟩
  exact ((F _ _ _).trans (F _ _ _) (fun _ _ h => h)).trans (Far.of_ext (S := SB _) (ext_drew _)) (fun _ _ h => h)
theorem own_short {e : TypeId} {gb n cb : Nat} {xs : List Value} {y : Value} (h : w.ownsRow B e 1 (.slice (some ⟨gb, 0, none⟩) (n + 1) cb) (n + 1) (xs ++ [y])) : w.ownsRow B e 1 (.slice (some ⟨gb, 0, none⟩) n cb) n xs := by
  obtain ⟨h1, h2⟩ := h
  have hx : xs.length = n := by simp at h1; omega
  refine ⟨by omega, ?_⟩
  rcases h2 with ⟨h, -⟩ | ⟨g', cap, cur, hv, hB, hcur, hn, hm, hs, ht⟩
  · cases h
  · simp only [Value.slice.injEq, Option.some.injEq, Addr.mk.injEq, and_true] at hv
    obtain ⟨rfl, -, rfl⟩ := hv
    refine .inr ⟨gb, cb, cur, rfl, hB, hcur, by omega, hm, hs, ?_⟩
    have := congrArg (List.take n) ht
    rw [List.take_take, List.take_left' hx] at this
    rw [← this, Nat.min_eq_left (by omega), Nat.mul_one]
set_option maxHeartbeats 2000000 in
set_option maxRecDepth 100000 in
theorem lpop_any {x : Int} (h : Id B w g most tv T bv (H ++ [x]) c) (hl : H.length ≤ 1000) :
    Calls Tryz.prog 118 #[.pointer (some ⟨g, 2, none⟩)] w fun e w' => e = .returned (.iface 3 (.int .i64 x)) ∧ ∃ bv', INew B w w' g most tv T bv H c bv' := by
  have c2 := h.c2
  have f2 := h.fz 2
  obtain ⟨gb, cb, hv⟩ := own_slice' h.bk (by simp)
  have cx : w.cell? ⟨gb, H.length, none⟩ = some (.int .i64 x) := by
    have := h.num hv (k := H.length) (by simp)
    rw [this]; simp [at']
  have hcap : H.length + 1 ≤ cb := by
    have hb := h.bk
    rw [hv] at hb
    rcases hb.2 with ⟨h, -⟩ | ⟨g', cap, cur, hv, _, _, hnc, _⟩
    · cases h
    · simp only [Value.slice.injEq] at hv
      simp at hnc
      omega
  have HH := Lib.hid h
  subst hv
  rw [show (H ++ [x]).length = H.length + 1 by simp] at c2
  have hl' : (H.length : Int) ≤ 1000 := by omega
  have hc' : (H.length : Int) + 1 ≤ (cb : Int) := by omega
  clear h
  go_enter Tryz.func118, Tryz.ntmps118
  go_wp2_with fail
  go_ret
  have G : w.grownBy (w.setCell ⟨g, 2, none⟩ (.slice (some ⟨gb, 0, none⟩) H.length cb)) (some g) := set_grownX
  have hb := HH.out.bk
  rw [show (H ++ [x]).length = H.length + 1 by simp, show il (H ++ [x]) = il H ++ [.int .i64 x] by simp [il]] at hb
  refine ⟨rfl, _, ⟨by simpa using setI HH.out.row (j := 2) (.slice (some ⟨gb, 0, none⟩) H.length cb), own_grown HH.out.tk HH.out.row (by decide) G, own_grown (own_short hb) HH.out.row (by decide) G⟩, Far.of_grown G (fun k _ e => .inl (by simpa using e.symm)), fun k hk => .inl hk⟩
def HPop (B : Nat) (w : World) (g : Nat) (most : Int) (tv : Value) (T : List Bool) (bv : Value) (H : List Int) (c : Int) (w' : World) : Prop :=
  ∃ bv' R, List.Perm (at' H 0 :: R) H ∧ HeapP R R.length ∧ INew B w w' g most tv T bv R c bv'
theorem pop_math {G0 G : List Int} {n : Nat} (hl : H.length = n + 1) (h0 : G0.Perm H) (hm : at' G0 n = at' H 0) (hp : G.Perm G0) (hh : HeapP G n) (hk : at' G n = at' G0 n) : ∃ R : List Int, G = R ++ [at' H 0] ∧ R.length = n ∧ HeapP R R.length ∧ List.Perm (at' H 0 :: R) H := by
  have hGl : G.length = n + 1 := by rw [hp.length_eq, h0.length_eq, hl]
  have e : G = G.take n ++ [at' H 0] := by
    have h1 := List.take_append_drop n G
    have h2 : G.drop n = [at' H 0] := by
      rw [List.drop_eq_getElem_cons (by omega), List.drop_eq_nil_of_le (by omega)]
      rw [← hm, ← hk]
      simp [at', List.getD_eq_getElem?_getD, hGl]
    rw [h2] at h1
    exact h1.symm
  have hr : (G.take n).length = n := by simp; omega
  refine ⟨G.take n, e, hr, ?_, ?_⟩
  · rw [hr]
    intro i hi0 hin
    rw [at_take (by omega), at_take hin]
    exact hh i hi0 hin
  · have : (G.take n ++ [at' H 0]).Perm H := by rw [← e]; exact hp.trans h0
    exact (List.perm_append_comm (l₁ := [at' H 0]) (l₂ := G.take n)).trans this
set_option maxHeartbeats 8000000 in
set_option maxRecDepth 100000 in
theorem hpop_any (h : Id B w g most tv T bv H c) (hp : HeapP H H.length) {n : Nat} (hn : H.length = n + 1) (hl : H.length ≤ 500) :
    Calls Tryz.prog 90 #[.iface 137 (.pointer (some ⟨g, 2, none⟩))] w fun e w' => e = .returned (.iface 3 (.int .i64 (at' H 0))) ∧ HPop B w g most tv T bv H c w' := by
  have km := m_pop
  have kl := m_len g w _ h.c2
  have ks := m_swap g w _ h.c2
  obtain ⟨gb, cb, hv⟩ := own_slice' h.bk (by omega)
  rw [hn] at hv
  have LL : Hid (Calls Tryz.prog 115 #[bv] w fun e w' => e = .returned (.int .i64 ((n : Int) + 1)) ∧ w = w') := Lib.hid (by
    have := len_any bv (n + 1) _ cb hv w
    exact this)
  have hn2 : (n : Int) ≤ 500 := by omega
  clear hv
  have SD : Hid (Calls Tryz.prog 117 #[bv, .int .i64 0, .int .i64 n] w fun e w' => e = .returned (.tuple #[]) ∧ ∃ G0 : List Int, G0.Perm H ∧ at' G0 n = at' H 0 ∧ (0 < n → Dn G0 n 0) ∧ Id B w' g most tv T bv G0 c ∧ Far (SB bv) w w') := Lib.hid (by
    by_cases h0 : n = 0
    · subst h0
      obtain ⟨x, rfl⟩ := List.length_eq_one_iff.1 hn
      exact (swap_one h).mono fun e w' ⟨he, i, f⟩ => ⟨he, _, List.Perm.refl _, rfl, fun h => by omega, i, f⟩
    · exact (swap_any h (i := 0) (j := n) (by omega) (by omega) (by omega) (by omega)).mono fun e w' ⟨he, i, f⟩ => ⟨he, _, sw_perm (by omega) (by omega), by rw [sw_at (by omega) (by omega), if_pos rfl], fun _ => dn_swap hp hn (by omega), i, f⟩)
  have hH := Lib.hid h
  replace hn := Lib.hid hn
  clear h hp
  go_enter Tryz.func90, Tryz.ntmps90
  go_wp2_with fail
  refine LL.out.mono ?_
  rintro e w1 ⟨rfl, rfl⟩
  go_wp2_with fail
  refine SD.out.mono ?_
  rintro e w1 ⟨rfl, G0, p0, m0, d0, i0, f0⟩
  have DD : Hid (Calls Tryz.prog 93 #[.iface 137 (.pointer (some ⟨g, 2, none⟩)), .int .i64 0, .int .i64 n] w1 (DownPost B w1 g most tv T bv G0 c n)) := Lib.hid (by
    have := down_any i0 (n := n) (i0 := 0) (by rw [p0.length_eq, hn.out]; omega) (by
      by_cases h : 0 < n
      · exact d0 h
      · exact ⟨fun i h1 h2 => by omega, fun i h1 h2 => by omega⟩) (by rw [p0.length_eq]; omega) (by omega)
    exact this)
  replace p0 := Lib.hid p0
  replace m0 := Lib.hid m0
  replace f0 := Lib.hid f0
  clear d0 i0 SD LL kl ks
  go_wp2_with fail
  refine DD.out.mono ?_
  rintro e w2 ⟨⟨bb, rfl⟩, G, p, hh, hk, i, f⟩
  obtain ⟨R, rfl, hR, hRh, hRp⟩ := pop_math hn.out p0.out m0.out p hh (hk n (Nat.le_refl _))
  have PP := Lib.hid (lpop_any i (by omega))
  have F := Lib.hid (f0.out.trans f (fun _ _ h => h))
  have hnb := Lib.hid (fun k (hk : bv.ownBlock = some k) => hH.out.nb_lt hk)
  replace hRh := Lib.hid hRh
  replace hRp := Lib.hid hRp
  clear p hh hk i f DD hR
  go_wp2_with fail
  refine PP.out.mono ?_
  rintro e w3 ⟨rfl, b3, n3⟩
  have Z : Hid (HPop B w g most tv T bv H c w3) := Lib.hid ⟨b3, R, hRp.out, hRh.out, n3.i, (F.out.mono (S' := SI g bv) (fun k _ e => .inr e)).trans n3.far (fun k _ h => h), fun k hk => (n3.nb k hk).imp id (fun h => Nat.le_trans F.out.size h)⟩
  clear n3 PP
  go_wp2
  go_ret
  exact ⟨rfl, Z.out⟩
end
end Go.Proofs.YtceiipcdkonnlaaGreat.Ids
