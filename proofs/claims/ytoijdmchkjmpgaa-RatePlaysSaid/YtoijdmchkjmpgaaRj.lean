/-
  LAYER 35: the document's Ask.
-/
import Derived.Test.YtoijdmchkjmpgaaRi
namespace Go.Proofs.Ytoijdmchkjmpgaa.Rte
open Go.RowKit Que Hp Hg
def zMk : Value := .agg #[.string { data := #[] }, .int .i64 0]
theorem info89 : (Try.prog.info? 89).map (fun i => (i.zero, i.size, i.bytes)) = some (some zMk, 2, 24) := by kernel_rfl
theorem grC_one (l : List Gr) : ∀ u ∈ grC l, u.oneCell' = true := by
  intro u hu
  unfold grC at hu
  obtain ⟨f, -, hf⟩ := List.mem_flatMap.1 hu
  simp only [Gr.cells, List.mem_cons, List.not_mem_nil, or_false] at hf
  rcases hf with rfl | rfl <;> rfl
section
variable {A : Nat → Prop} {B : Nat} {w w' : World} {x : Nat} {gap : Int} {v : Value} {L : List Gr}
/-- The document's list is another; it stands in the same block or in a new one. -/
structure XNw (B : Nat) (w w' : World) (x : Nat) (gap : Int) (v : Value) (L : List Gr) (v' : Value) : Prop where
  r : Xr B w' x gap v' L
  far : Far (SI x v) w w'
  nb : ∀ k, v'.ownBlock = some k → v.ownBlock = some k ∨ w.heap.size ≤ k
theorem setXr {w : World} {g j : Nat} {cs : Array Value} (h : w.heap[g]? = some (.cells cs 85 (0, 0))) (u : Value) : (w.setCell ⟨g, j, none⟩ u).heap[g]? = some (.cells (cs.setIfInBounds j u) 85 (0, 0)) :=
  heap_setCell_same w g j _ 85 u h
theorem xr_end {W : World} {v' : Value} {L' : List Gr} (h : Xr B w x gap v L) (hb : Below w.heap.size w W) (hB : B ≤ w.heap.size) (o : W.ownsRow w.heap.size 89 2 v' L'.length (grC L')) : XNw B w (W.setCell ⟨x, 1, none⟩ v') x gap v L' v' := by
  have R1 := (hb.block x h.lt).trans h.row
  have GG : W.grownBy (W.setCell ⟨x, 1, none⟩ v') (some x) := set_grownX
  refine ⟨⟨by simpa using setXr R1 (j := 1) v', own_base (own_grown o R1 (by decide) GG) hB⟩, ?_, fun k hk => .inr (o.lt k hk).1⟩
  exact (Far.of_ext hb).trans (Far.of_grown (S := SI x v) GG (fun k _ e => .inl (by simpa using e.symm))) (fun k _ h => h)
theorem Xr.fzr (h : Xr B w x gap v L) {gb cb n : Nat} (hv : v = .slice (some ⟨gb, 0, none⟩) n cb) (j : Nat) : w.frozen? ⟨gb, j, none⟩ = false := by
  have := h.its
  subst hv
  rcases this.2 with ⟨h, -⟩ | ⟨g', cap, cur, hv, hB, hcur, hn, hm, hs, ht⟩
  · cases h
  · simp only [Value.slice.injEq, Option.some.injEq, Addr.mk.injEq, and_true] at hv
    obtain ⟨rfl, -, -⟩ := hv
    exact frozen_of_row w gb j _ 89 hcur
theorem Xr.storeT (h : Xr B w x gap v L) {gb cb : Nat} (hv : v = .slice (some ⟨gb, 0, none⟩) L.length cb) {k : Nat} {e : Gr} (he : L[k]? = some e) (t : Int) : XNw B w (w.setCell ⟨gb, k * 2 + 1, none⟩ (.int .i64 t)) x gap v (L.set k ⟨e.k, t⟩) v := by
  subst hv
  have hne : x ≠ gb := fun e => own_far h.its h.row (by decide) (by rw [e]; rfl)
  refine ⟨⟨?_, ?_⟩, ⟨rfl, rfl, rfl, by simp [World.setCell], fun q _ hq => Below.heap_setCell _ _ _ _ (fun e => hq (by subst e; exact .inr rfl))⟩, fun k hk => .inl hk⟩
  · rw [Below.heap_setCell _ _ _ _ hne]; exact h.row
  · have := (h.its.stored (k * 2 + 1) (.int .i64 t)).1
    rw [grC_setT _ _ _ _ he] at this
    simpa using this
theorem own_cap {w : World} {B e size n g c : Nat} {xs : List Value} (h : w.ownsRow B e size (.slice (some ⟨g, 0, none⟩) n c) n xs) : n ≤ c ∧ c ≤ maxLen := by
  rcases h.2 with ⟨h, -⟩ | ⟨g', cap, cur, hv, _, _, h1, h2, _⟩
  · cases h
  · simp only [Value.slice.injEq] at hv
    obtain ⟨-, -, rfl⟩ := hv
    exact ⟨h1, h2⟩
set_option maxHeartbeats 8000000 in
set_option maxRecDepth 100000 in
/-- A key that was there. -/
theorem xask_there (h : Xr B w x gap v L) (hs : Srt L) (hL : L.length ≤ 8) (hge : ∀ e ∈ L, 0 ≤ e.t ∧ e.t ≤ 1073741824) (hgp : 0 ≤ gap ∧ gap ≤ 1073741824) {k : ByteArray} {now : Int} (hm : may gap L k now = true) {e : Gr} (he : L[px L k]? = some e) (hk : e.k = k) (htr : thr L k = true) :
    Calls Try.prog 47 #[.pointer (some ⟨x, 0, none⟩), .string k, .int .i64 now] w fun y w' => y = .returned (.bool true) ∧ ∃ v', XNw B w w' x gap v (L.set (px L k) ⟨e.k, now⟩) v' := by
  have M := xmay h hs hL hge hgp k now
  rw [hm] at M
  replace M := Lib.hid M
  have F := Lib.hid (fun m => xfind_any (h.keep (ext_drewN w m)) (by omega) k)
  rw [htr] at F
  have hpl := (List.getElem?_eq_some_iff.1 he).1
  obtain ⟨gb, cb, hv⟩ := own_slice' h.its (by omega)
  have c1 := h.c1
  rw [hv] at c1
  have f1 := h.fzr hv (px L k * 2 + 1)
  have cc := (h.at hv he).2
  have hpl' : (px L k : Int) < (L.length : Int) := by omega
  have hL' : (L.length : Int) ≤ 8 := by omega
  have Z : Hid (∀ m, XNw B w ((w.drewN m).setCell ⟨gb, px L k * 2 + 1, none⟩ (.int .i64 now)) x gap v (L.set (px L k) ⟨e.k, now⟩) v) := Lib.hid fun m => by
    have := (h.keep (ext_drewN w m)).storeT hv he now
    exact ⟨this.r, (Far.of_ext (ext_drewN w m)).trans this.far (fun _ _ h => h), this.nb⟩
  generalize px L k = p at *
  clear h hs hge hm he htr hv
  go_enter Try.func47, Try.ntmps47
  go_wp2_with fail
  refine M.out.mono ?_
  rintro y w1 ⟨rfl, m, rfl⟩
  go_wp2_with fail
  refine (F.out m).mono ?_
  rintro y w2 ⟨rfl, m2, rfl⟩
  go_wp2_with fail
  go_ret
  exact ⟨rfl, v, Z.out (m + m2)⟩
set_option maxHeartbeats 8000000 in
set_option maxRecDepth 100000 in
/-- A key that was not there. -/
theorem xask_new (h : Xr B w x gap v L) (hB : B ≤ w.heap.size) (hs : Srt L) (hL : L.length ≤ 8) (hn0 : 0 < L.length) (hge : ∀ e ∈ L, 0 ≤ e.t ∧ e.t ≤ 1073741824) (hgp : 0 ≤ gap ∧ gap ≤ 1073741824) {k : ByteArray} {now : Int} (hm : may gap L k now = true) (htr : thr L k = false) :
    Calls Try.prog 47 #[.pointer (some ⟨x, 0, none⟩), .string k, .int .i64 now] w fun y w' => y = .returned (.bool true) ∧ ∃ v', XNw B w w' x gap v (ins L k now) v' := by
  obtain ⟨i89, hi89, hz0, hz1, hz2⟩ := info_parts info89
  have M := xmay h hs hL hge hgp k now
  rw [hm] at M
  replace M := Lib.hid M
  have F := Lib.hid (fun m => xfind_any (h.keep (ext_drewN w m)) (by omega) k)
  rw [htr] at F
  have hpl : px L k ≤ L.length := List.findIdx_le_length
  obtain ⟨gb, cb, hv⟩ := own_slice' h.its hn0
  obtain ⟨hcb, hcm⟩ := own_cap (hv ▸ h.its)
  have c1 := h.c1
  have f1 := h.fz 1
  rw [hv] at c1
  have hpl' : (px L k : Int) ≤ (L.length : Int) := by omega
  have hL' : (L.length : Int) ≤ 8 := by omega
  have hcb' : (L.length : Int) ≤ (cb : Int) := by omega
  have hcm' : (cb : Int) ≤ 9223372036854775807 := by unfold maxLen at hcm; omega
  have H := Lib.hid h
  have HV := Lib.hid hv
  have hins : ins L k now = L.take (px L k) ++ [⟨k, now⟩] ++ L.drop (px L k) := rfl
  replace hins := Lib.hid hins
  generalize px L k = p at *
  clear h hs hge hm htr hv
  go_enter Try.func47, Try.ntmps47
  go_wp2_with fail
  refine M.out.mono ?_
  rintro y w1 ⟨rfl, m, rfl⟩
  go_wp2_with fail
  refine (F.out m).mono ?_
  rintro y w2 ⟨rfl, m2, hw2⟩
  have bw : Below w.heap.size w w2 := by rw [← hw2]; exact ext_trans (ext_drewN w m) (ext_drewN _ m2)
  have zw : w2.heap.size = w.heap.size := by rw [← hw2]; rfl
  have H2 := H.out.keep bw
  have d1 := H2.c1
  have g1 := H2.fz 1
  have xlt := H2.lt
  rw [HV.out] at d1
  replace H2 := Lib.hid H2
  replace bw := Lib.hid bw
  replace zw := Lib.hid zw
  clear c1 f1 M F hw2
  have oA := Lib.hid (show (w2.alloc (.cells #[] 89)).ownsRow w.heap.size 89 2 (.slice (some ⟨w2.heap.size, 0, none⟩) 0 0) 0 [] from ⟨rfl, .inr ⟨_, 0, #[], rfl, by rw [zw.out]; exact Nat.le_refl _, heap_alloc_new w2 _, Nat.le_refl _, Nat.zero_le _, rfl, rfl⟩⟩)
  have nA : Hid (∀ W : World, Below w2.heap.size w2 W → ∀ j u, (grC (L.take p))[j]? = some u → W.cell? ((⟨gb, 0, none⟩ : Addr).add j) = some u) := Lib.hid fun W hW j u hj => by
    have o := own_keep H2.out.its hW
    rw [HV.out] at o
    rw [add_off', Nat.zero_add]
    refine own_get o ?_
    have hjl := (List.getElem?_eq_some_iff.1 hj).1
    have e : grC L = grC (L.take p) ++ grC (L.drop p) := by rw [← grC_append, List.take_append_drop]
    rw [e, List.getElem?_append_left hjl]; exact hj
  have nC : Hid (∀ W : World, W.ownsRow B 89 2 v L.length (grC L) → ∀ j u, (grC (L.drop p))[j]? = some u → W.cell? ((⟨gb, p * 2, none⟩ : Addr).add j) = some u) := Lib.hid fun W o j u hj => by
    rw [HV.out] at o
    rw [add_off']
    refine own_get o ?_
    have e : grC L = grC (L.take p) ++ grC (L.drop p) := by rw [← grC_append, List.take_append_drop]
    have hl : (grC (L.take p)).length = p * 2 := by rw [grC_len, List.length_take]; omega
    rw [e, List.getElem?_append_right (by omega), hl, Nat.add_sub_cancel_left]; exact hj
  have ltA : (grC (L.take p)).length = p * 2 := by rw [grC_len, List.length_take]; omega
  have ltC : (grC (L.drop p)).length = (L.length - p) * 2 := by rw [grC_len, List.length_drop]
  replace ltA := Lib.hid ltA
  replace ltC := Lib.hid ltC
  have FIN : Hid (∀ (W : World) v', Below w2.heap.size w2 W → W.ownsRow w.heap.size 89 2 v' (ins L k now).length (grC (ins L k now)) → XNw B w (W.setCell ⟨x, 1, none⟩ v') x gap v (ins L k now) v') := Lib.hid fun W v' hW o => xr_end H.out (ext_trans bw.out hW) hB o
  have one2 : Hid (∀ u ∈ ([Value.string k, .int .i64 now] : List Value), u.oneCell' = true) := Lib.hid (by intro u hu; simp at hu; rcases hu with rfl | rfl <;> rfl)
  rcases Nat.lt_or_eq_of_le (show p ≤ cb by omega) with hcp | hcp
  · have hcp' : (p : Int) < (cb : Int) := by omega
    have hcp2 : ¬ cb = p := by omega
    go_wp2_with (first
      | (at_builtin; refine wpList_append_own _ rfl (.tmp 30) (.tmp 36) 83 rfl w.heap.size 89 i89 zMk 2 24 Try.underlying83 hi89 hz0 hz1 hz2 rfl (by decide) (.slice (some ⟨w2.heap.size, 0, none⟩) 0 0) 0 [] rfl oA.out ⟨gb, 0, none⟩ p cb (grC (L.take p)) rfl ltA.out (nA.out _ (ext_alloc w2 _)) (grC_one _) (by unfold maxLen; omega) (by omega) (by have := zw.out; simp; omega) ?_; intro v3 w3 o3 g3 _
         have BW3 := Lib.hid ((ext_alloc w2 (.cells #[] 89)).grown g3 (by simp) (fun k hk => by simp [Value.ownBlock] at hk; omega))
         have o3' : w3.ownsRow w.heap.size 89 2 v3 p (grC (L.take p)) := by simpa using o3
         obtain ⟨va3, vc3, rfl⟩ := own_slice o3'
         have oB := Lib.hid (own_keep o3' (ext_alloc w3 (.cells #[.string k, .int .i64 now] 89)))
         have z3 : w.heap.size ≤ w3.heap.size := by have := BW3.out.size; have := zw.out; omega
         have nB : Hid (∀ j u, ([Value.string k, .int .i64 now] : List Value)[j]? = some u → (w3.alloc (.cells #[.string k, .int .i64 now] 89)).cell? ((⟨w3.heap.size, 0, none⟩ : Addr).add j) = some u) := Lib.hid (by
           intro j u hj
           have := cell_of_row (w3.alloc (.cells #[.string k, .int .i64 now] 89)) w3.heap.size j _ 89 (0, 0) (heap_alloc_new w3 _)
           rw [add_off', Nat.zero_add, this, ← hj]
           simp)
         clear o3 o3' g3)
      | (at_builtin; refine wpList_append_own _ rfl (.tmp 38) (.tmp 42) 83 rfl w.heap.size 89 i89 zMk 2 24 Try.underlying83 hi89 hz0 hz1 hz2 rfl (by decide) (.slice va3 p vc3) p (grC (L.take p)) rfl oB.out ⟨w3.heap.size, 0, none⟩ 1 1 [.string k, .int .i64 now] rfl rfl nB.out one2.out (by unfold maxLen; omega) (by omega) (by simp; omega) ?_; intro v4 w4 o4 g4 _
         have BW4 := Lib.hid ((BW3.out.alloc BW3.out.size (.cells #[.string k, .int .i64 now] 89)).grown g4 (by have := BW3.out.size; simp; omega) (fun k hk => by have := (oB.out.lt k hk).1; have := zw.out; omega))
         obtain ⟨va4, vc4, rfl⟩ := own_slice o4
         have d4 := (BW4.out.cell (p := ⟨x, 1, none⟩) xlt).trans d1
         have n4 := Lib.hid (nC.out w4 (own_keep H2.out.its BW4.out))
         have o4' := Lib.hid o4
         have z4 : w.heap.size ≤ w4.heap.size := by have := BW4.out.size; have := zw.out; omega
         clear o4 g4)
      | (at_builtin; refine wpList_append_own _ rfl (.tmp 44) (.tmp 50) 83 rfl w.heap.size 89 i89 zMk 2 24 Try.underlying83 hi89 hz0 hz1 hz2 rfl (by decide) (.slice va4 (p + 1) vc4) (p + 1) (grC (L.take p) ++ [.string k, .int .i64 now]) rfl o4'.out ⟨gb, p * 2, none⟩ (L.length - p) (cb - p) (grC (L.drop p)) rfl ltC.out n4.out (grC_one _) (by unfold maxLen; omega) (by omega) (by omega) ?_; intro v5 w5 o5 g5 _
         have BW5 := Lib.hid (BW4.out.grown g5 (by have := BW4.out.size; omega) (fun k hk => by have := (o4'.out.lt k hk).1; have := zw.out; omega))
         obtain ⟨va5, vc5, rfl⟩ := own_slice o5
         have d5 := (BW5.out.cell (p := ⟨x, 1, none⟩) xlt).trans d1
         have f5 := (BW5.out.frozen (p := ⟨x, 1, none⟩) xlt).trans g1
         have o5' := Lib.hid o5
         clear o5 g5))
    go_ret
    exact ⟨rfl, _, FIN.out w5 _ BW5.out (by rw [hins.out]; rw [show (L.take p ++ [(⟨k, now⟩ : Gr)] ++ L.drop p).length = p + 1 + (L.length - p) by simp; omega, grC_append, grC_append]; exact o5'.out)⟩
  · subst hcp
    have vac : Hid (∀ (W : World) (ad : Addr) j u, (grC (L.drop p))[j]? = some u → W.cell? (ad.add j) = some u) := Lib.hid fun W ad j u hj => by
      rw [List.drop_eq_nil_of_le hcb] at hj
      simp [grC] at hj
    go_wp2_with (first
      | (at_builtin; refine wpList_append_own _ rfl (.tmp 30) (.tmp 36) 83 rfl w.heap.size 89 i89 zMk 2 24 Try.underlying83 hi89 hz0 hz1 hz2 rfl (by decide) (.slice (some ⟨w2.heap.size, 0, none⟩) 0 0) 0 [] rfl oA.out ⟨gb, 0, none⟩ p p (grC (L.take p)) rfl ltA.out (nA.out _ (ext_alloc w2 _)) (grC_one _) (by unfold maxLen; omega) (by omega) (by have := zw.out; simp; omega) ?_; intro v3 w3 o3 g3 _
         have BW3 := Lib.hid ((ext_alloc w2 (.cells #[] 89)).grown g3 (by simp) (fun k hk => by simp [Value.ownBlock] at hk; omega))
         have o3' : w3.ownsRow w.heap.size 89 2 v3 p (grC (L.take p)) := by simpa using o3
         obtain ⟨va3, vc3, rfl⟩ := own_slice o3'
         have oB := Lib.hid (own_keep o3' (ext_alloc w3 (.cells #[.string k, .int .i64 now] 89)))
         have z3 : w.heap.size ≤ w3.heap.size := by have := BW3.out.size; have := zw.out; omega
         have nB : Hid (∀ j u, ([Value.string k, .int .i64 now] : List Value)[j]? = some u → (w3.alloc (.cells #[.string k, .int .i64 now] 89)).cell? ((⟨w3.heap.size, 0, none⟩ : Addr).add j) = some u) := Lib.hid (by
           intro j u hj
           have := cell_of_row (w3.alloc (.cells #[.string k, .int .i64 now] 89)) w3.heap.size j _ 89 (0, 0) (heap_alloc_new w3 _)
           rw [add_off', Nat.zero_add, this, ← hj]
           simp)
         clear o3 o3' g3)
      | (at_builtin; refine wpList_append_own _ rfl (.tmp 38) (.tmp 42) 83 rfl w.heap.size 89 i89 zMk 2 24 Try.underlying83 hi89 hz0 hz1 hz2 rfl (by decide) (.slice va3 p vc3) p (grC (L.take p)) rfl oB.out ⟨w3.heap.size, 0, none⟩ 1 1 [.string k, .int .i64 now] rfl rfl nB.out one2.out (by unfold maxLen; omega) (by omega) (by simp; omega) ?_; intro v4 w4 o4 g4 _
         have BW4 := Lib.hid ((BW3.out.alloc BW3.out.size (.cells #[.string k, .int .i64 now] 89)).grown g4 (by have := BW3.out.size; simp; omega) (fun k hk => by have := (oB.out.lt k hk).1; have := zw.out; omega))
         obtain ⟨va4, vc4, rfl⟩ := own_slice o4
         have d4 := (BW4.out.cell (p := ⟨x, 1, none⟩) xlt).trans d1
         have n4 := Lib.hid (nC.out w4 (own_keep H2.out.its BW4.out))
         have o4' := Lib.hid o4
         have z4 : w.heap.size ≤ w4.heap.size := by have := BW4.out.size; have := zw.out; omega
         clear o4 g4)
      | (at_builtin; refine wpList_append_own _ rfl (.tmp 44) (.tmp 50) 83 rfl w.heap.size 89 i89 zMk 2 24 Try.underlying83 hi89 hz0 hz1 hz2 rfl (by decide) (.slice va4 (p + 1) vc4) (p + 1) (grC (L.take p) ++ [.string k, .int .i64 now]) rfl o4'.out _ 0 _ [] rfl rfl (by intro j u hj; simp at hj) (by intro u hu; simp at hu) (by unfold maxLen; omega) (by omega) (by omega) ?_; intro v5 w5 o5 g5 _
         have BW5 := Lib.hid (BW4.out.grown g5 (by have := BW4.out.size; omega) (fun k hk => by have := (o4'.out.lt k hk).1; have := zw.out; omega))
         obtain ⟨va5, vc5, rfl⟩ := own_slice o5
         have d5 := (BW5.out.cell (p := ⟨x, 1, none⟩) xlt).trans d1
         have f5 := (BW5.out.frozen (p := ⟨x, 1, none⟩) xlt).trans g1
         have o5' := Lib.hid o5
         clear o5 g5))
    go_ret
    exact ⟨rfl, _, FIN.out w5 _ BW5.out (by
      rw [hins.out, List.drop_eq_nil_of_le hcb, List.append_nil]
      rw [show (L.take p ++ [(⟨k, now⟩ : Gr)]).length = p + 1 + 0 by simp; omega, grC_append]
      have := o5'.out
      rw [List.append_nil] at this
      exact this)⟩
end
end Go.Proofs.Ytoijdmchkjmpgaa.Rte
