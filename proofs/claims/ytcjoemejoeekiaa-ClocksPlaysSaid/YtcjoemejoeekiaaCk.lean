/-
  LAYER 26: the list's own Pop.
-/
import Derived.Test.YtcjoemejoeekiaaCj
import Derived.Maps.OwnSet
namespace Go.Proofs.Ytcjoemejoeekiaa.Cl
open Go.RowKit Go.Maps Que Hp Hg Go.MapKept
/-- delete, as one step of a region that draws. -/
theorem step_delete_own {H : Type} {P : Program} {ops : Array Oper} {o : Oper} {a : Act} {w : World} {K : Act → World → Prop} {Q : Exit → Act → World → Prop} {E : Prop}
    (hg : o.guard = none) (m x : Operand) (t k : TypeId) (hop : o.op = Op.call { callee := Callee.builtin Builtin.delete, args := #[m, x], argTypes := #[t, k] })
    (e : TypeId) (KK : Keyed P k) (ht : P.underlying t = some (.map k e)) (R : Value → Option (DataW H × List MemPlace)) (b n : Nat) (D : DataW H)
    (hm : a.eval m = .map (some b)) (hown : w.ownsMap P k R b n D) (key : Value) (kl : Lit) (hx : a.eval x = key) (hkey : keyOf P k key = some kl)
    (hK : ∀ w', w'.ownsMap P k R b n (D.del kl) → w.mapTurned w' b → K (a.put o.dst (.tuple #[])) w') :
    if Region.wanted o (yielded ops a.tmps) = true then Oper.wp P o a w K Q else E := by
  have hw : Region.wanted o (yielded ops a.tmps) = true := by simp [Region.wanted, hg]
  rw [if_pos hw]
  obtain ⟨w', hrun, r1, r2⟩ := hown.drop KK ht hkey o.type
  unfold Oper.wp
  simp [execOp, hop, resolve, invoke, builtin, hm, hx, hrun, Result.andThen]
  exact hK w' r1 r2
section
variable {B : Nat} {w w' : World} {t m n : Nat} {v : Value} {L : List Tm}
theorem own_short {e : TypeId} {gb n cb sz : Nat} {xs ys : List Value} (h : w.ownsRow B e sz (.slice (some ⟨gb, 0, none⟩) (n + 1) cb) (n + 1) (xs ++ ys)) (hx : xs.length = n * sz) : w.ownsRow B e sz (.slice (some ⟨gb, 0, none⟩) n cb) n xs := by
  obtain ⟨h1, h2⟩ := h
  refine ⟨hx, ?_⟩
  rcases h2 with ⟨h, -⟩ | ⟨g', cap, cur, hv, hB, hcur, hn, hm, hs, ht⟩
  · cases h
  · simp only [Value.slice.injEq, Option.some.injEq, Addr.mk.injEq, and_true] at hv
    obtain ⟨rfl, -, rfl⟩ := hv
    refine .inr ⟨gb, cb, cur, rfl, hB, hcur, by omega, hm, hs, ?_⟩
    have := congrArg (List.take (n * sz)) ht
    rw [List.take_take, List.take_left' hx] at this
    rw [← this, Nat.min_eq_left (Nat.mul_le_mul_right sz (by omega))]
/-- The list is shorter by the last one; the map not yet. -/
theorem Ct.cut {x : Tm} (h : Ct B w t m n v (L ++ [x])) {gb cb : Nat} (hv : v = .slice (some ⟨gb, 0, none⟩) (L.length + 1) cb) :
    Mid B (w.setCell ⟨t, 0, none⟩ (.slice (some ⟨gb, 0, none⟩) L.length cb)) t m n (.slice (some ⟨gb, 0, none⟩) L.length cb) (L ++ [x]) L := by
  have GG : w.grownBy (w.setCell ⟨t, 0, none⟩ (.slice (some ⟨gb, 0, none⟩) L.length cb)) (some t) := set_grownX
  obtain ⟨D, o, p⟩ := h.mp
  have hb := h.its
  rw [hv, show (L ++ [x]).length = L.length + 1 by simp, tmC_snoc] at hb
  exact ⟨by simpa using setT h.row (j := 0) (.slice (some ⟨gb, 0, none⟩) L.length cb), own_grown (own_short hb (tmC_len L)) h.row (by decide) GG, D, map_grown o GG (by simpa using Ne.symm (map_ne o h.row)), p⟩
theorem Mid.keep {M : List Tm} (h : Mid B w t m n v L M) (hb : Below w.heap.size w w') : Mid B w' t m n v L M := by
  obtain ⟨D, o, p⟩ := h.mp
  exact ⟨(hb.block t (Array.getElem?_eq_some_iff.1 h.row).1).trans h.row, own_keep h.its hb, D, map_keep o hb, p⟩
theorem nd_cut {x : Tm} (h : ((L ++ [x]).map Tm.k).Nodup) : (L.map Tm.k).Nodup := by
  rw [List.map_append, List.nodup_append] at h
  exact h.1
theorem pop_end {x : Tm} {W w2 : World} {gb cb : Nat} {D : DataW Unit} (h : Ct B w t m n v (L ++ [x])) (hv : v = .slice (some ⟨gb, 0, none⟩) (L.length + 1) cb) (M : Mid B W t m n (.slice (some ⟨gb, 0, none⟩) L.length cb) (L ++ [x]) L)
    (F : Far (SI t m v) w W) (o : w2.ownsMap Try.prog 3 (plainElem (H := Unit) Try.prog 3) m n (D.del (ky x.k))) (p : Pos D (L ++ [x])) (G : W.grownBy w2 (some m)) : CNew B w w2 t m n v L (.slice (some ⟨gb, 0, none⟩) L.length cb) := by
  obtain ⟨D0, o0, -⟩ := M.mp
  have lt := (Array.getElem?_eq_some_iff.1 M.row).1
  refine ⟨⟨(G.block t lt (by simpa using Ne.symm (map_ne o0 M.row))).trans M.row, M.its.kept G (.inr (map_own (t2 := 95) o0 M.its)), ⟨_, o, p.pop h.nd⟩, nd_cut h.nd, fun y hy => h.rg y (List.mem_append_left _ hy)⟩,
    F.trans (Far.of_grown (S := SI t m v) G (fun k _ e => .inr (.inl (by simpa using e.symm)))) (fun _ _ h => h), fun k hk => .inl (by rw [hv]; exact hk)⟩
set_option maxHeartbeats 4000000 in
set_option maxRecDepth 100000 in
theorem lpop_any {x : Tm} (h : Ct B w t m n v (L ++ [x])) (hl : L.length ≤ 900) :
    Calls Try.prog 88 #[.pointer (some ⟨t, 0, none⟩)] w fun e w' => e = .returned (.iface 95 (.agg #[.int .i64 x.d, .int .i64 x.k])) ∧ ∃ v', CNew B w w' t m n v L v' := by
  have c0 := h.c0
  have c1 := h.c1
  have f0 := h.fz 0
  have lt := h.lt
  obtain ⟨gb, cb, hv⟩ := own_slice' h.its (by simp)
  rw [show (L ++ [x]).length = L.length + 1 by simp] at hv
  obtain ⟨z0, z1⟩ := h.at hv (k := L.length) (e := x) (by simp)
  obtain ⟨r1, r2, -, -⟩ := h.rg x (by simp)
  have hcap : L.length + 1 ≤ cb := by
    have hb := h.its
    rw [hv] at hb
    rcases hb.2 with ⟨h, -⟩ | ⟨g', cap, cur, hv, _, _, hnc, _⟩
    · cases h
    · simp only [Value.slice.injEq] at hv
      simp at hnc
      omega
  have htg : t ≠ gb := fun e => own_far h.its h.row (by decide) (by rw [hv, e]; rfl)
  have lg : gb < w.heap.size := World.block_lt_of_cell? w _ z0
  have M1 := (h.cut hv).keep (ext_alloc _ (.cells #[.int .i64 x.d, .int .i64 x.k] 95))
  have hb0 : ((w.setCell ⟨t, 0, none⟩ (.slice (some ⟨gb, 0, none⟩) L.length cb)).alloc (.cells #[.int .i64 x.d, .int .i64 x.k] 95)).drew.heap[w.heap.size]? = some (.cells #[.int .i64 x.d, .int .i64 x.k] 95 (0, 0)) := by
    have := heap_alloc_new (w.setCell ⟨t, 0, none⟩ (.slice (some ⟨gb, 0, none⟩) L.length cb)) (.cells #[.int .i64 x.d, .int .i64 x.k] 95 (0, 0))
    rw [show (w.setCell ⟨t, 0, none⟩ (.slice (some ⟨gb, 0, none⟩) L.length cb)).heap.size = w.heap.size by simp [World.setCell]] at this
    exact this
  have M2 := M1.keep (ext_drew _)
  have F2 : Far (SI t m v) w ((w.setCell ⟨t, 0, none⟩ (.slice (some ⟨gb, 0, none⟩) L.length cb)).alloc (.cells #[.int .i64 x.d, .int .i64 x.k] 95)).drew :=
    ((Far.of_grown (S := SI t m v) set_grownX (fun k _ e => .inl (by simpa using e.symm))).trans (Far.of_ext (S := SI t m v) (ext_alloc _ _)) (fun _ _ h => h)).trans (Far.of_ext (S := SI t m v) (ext_drew _)) (fun _ _ h => h)
  obtain ⟨D, o, p⟩ := M2.mp
  have HH := Lib.hid h
  replace M2 := Lib.hid M2
  replace F2 := Lib.hid F2
  replace p := Lib.hid p
  have hv' := Lib.hid hv
  have hl' : (L.length : Int) ≤ 900 := by omega
  have hc' : (L.length : Int) + 1 ≤ (cb : Int) := by omega
  subst hv
  clear h M1
  obtain ⟨dx, kx⟩ := x
  simp only at *
  go_enter Try.func88, Try.ntmps88
  go_wp2
  go_region_law (go_must (refine step_delete_own rfl (.tmp 30) (.tmp 32) 89 3 rfl 3 law3 Try.underlying89 (plainElem (H := Unit) Try.prog 3) m n D rfl o (.int .i64 kx) (ky kx) rfl (key_of r1 r2) ?_); intro w2 o2 T2; have G2 := T2.grown; have sz := G2.size; have hblk : w2.heap[w.heap.size]? = some (.cells #[.int .i64 dx, .int .i64 kx] 95 (0, 0)) := (G2.block _ (by simp [World.setCell]) (by simp; have := HH.out.mp.choose_spec.1.lt; omega)).trans hb0; have y0 : w2.cell? ⟨w.heap.size, 0, none⟩ = some (.int .i64 dx) := cell_of_row w2 _ 0 _ 95 (0, 0) hblk; have y1 : w2.cell? ⟨w.heap.size, 1, none⟩ = some (.int .i64 kx) := cell_of_row w2 _ 1 _ 95 (0, 0) hblk; replace o2 := Lib.hid o2; replace G2 := Lib.hid G2; clear T2)
  all_goals clear o
  all_goals go_wp2
  all_goals go_ret
  all_goals exact ⟨rfl, _, pop_end HH.out rfl M2.out F2.out o2.out p.out G2.out⟩
end
end Go.Proofs.Ytcjoemejoeekiaa.Cl
