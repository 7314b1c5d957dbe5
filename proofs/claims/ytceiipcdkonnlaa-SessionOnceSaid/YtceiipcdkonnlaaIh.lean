/-
  LAYER 21: heap.Pop.
-/
import Derived.Test.YtceiipcdkonnlaaIg
namespace Go.Proofs.Ytceiipcdkonnlaa.Ids
set_option linter.unusedSimpArgs false
set_option linter.unusedVariables false
open Go.RowKit Que Hp
section
variable {B : Nat} {w w' : World} {g : Nat} {most c : Int} {tv bv : Value} {T : List Bool} {H : List Int}
set_option maxHeartbeats 2000000 in
set_option maxRecDepth 100000 in
theorem swap_one {x : Int} (h : Id B w g most tv T bv [x] c) :
    Calls Try.prog 126 #[bv, .int .i64 0, .int .i64 0] w fun e w' => e = .returned (.tuple #[]) ∧ Id B w' g most tv T bv [x] c ∧ Far (SB bv) w w' := by
  obtain ⟨gb, cb, hv⟩ := own_slice' h.bk (by simp)
  have ci : w.cell? ⟨gb, 0, none⟩ = some (.int .i64 x) := h.num hv (k := 0) (by simp)
  have S1 := Lib.hid (((h.store hv (k := 0) x).store hv (k := 0) x).keep (ext_drew _))
  have hb := h.bk
  simp only [List.length_singleton] at hv
  subst hv
  have fi : w.frozen? ⟨gb, 0, none⟩ = false := hb.frozenAt 0
  clear h hb
  go_enter Try.func126, Try.ntmps126
  go_wp2
  go_region
  go_end0
  refine ⟨rfl, S1.out, ?_⟩
  have F : ∀ (W : World) (k : Nat) (u : Value), Far (SB (.slice (some ⟨gb, 0, none⟩) 1 cb)) W (W.setCell ⟨gb, k, none⟩ u) := fun W k u => ⟨rfl, rfl, rfl, by simp [World.setCell], fun q _ hq => Below.heap_setCell _ _ _ _ (fun e => hq (by subst e; rfl))⟩
  exact ((F _ _ _).trans (F _ _ _) (fun _ _ h => h)).trans (Far.of_ext (S := SB _) (ext_drew _)) (fun _ _ h => h)
theorem own_short {e : TypeId} {gb n cb : Nat} {xs : List Value} {y : Value} (h : w.ownsRow B e 1 (.slice (some ⟨gb, 0, none⟩) (n + 1) cb) (n + 1) (xs ++ [y])) : w.ownsRow B e 1 (.slice (some ⟨gb, 0, none⟩) n cb) n xs := by
  obtain ⟨h1, h2⟩ := h
  have hx : xs.length = n := by simp at h1; omega
  refine ⟨by omega, ?_⟩
  rcases h2 with ⟨h, -⟩ | ⟨g', cap, cur, hv, hB, hcur, hn, hm, hs, ht⟩
  · cases h
  · simp only [Value.slice.injEq, Option.some.injEq, Addr.mk.injEq, and_true] at hv
    obtain ⟨rfl, -, rfl⟩ := hv
    refine .inr ⟨gb, cb, cur, rfl, hB, hcur, by omega, hm, hs, ?_⟩
    have := congrArg (List.take n) ht
    rw [List.take_take, List.take_left' hx] at this
    rw [← this, Nat.min_eq_left (by omega), Nat.mul_one]
set_option maxHeartbeats 2000000 in
set_option maxRecDepth 100000 in
theorem lpop_any {x : Int} (h : Id B w g most tv T bv (H ++ [x]) c) (hl : H.length ≤ 1000) :
    Calls Try.prog 127 #[.pointer (some ⟨g, 2, none⟩)] w fun e w' => e = .returned (.iface 3 (.int .i64 x)) ∧ ∃ bv', INew B w w' g most tv T bv H c bv' := by
  have c2 := h.c2
  have f2 := h.fz 2
  obtain ⟨gb, cb, hv⟩ := own_slice' h.bk (by simp)
  have cx : w.cell? ⟨gb, H.length, none⟩ = some (.int .i64 x) := by
    have := h.num hv (k := H.length) (by simp)
    rw [this]; simp [at']
  have hcap : H.length + 1 ≤ cb := by
    have hb := h.bk
    rw [hv] at hb
    rcases hb.2 with ⟨h, -⟩ | ⟨g', cap, cur, hv, _, _, hnc, _⟩
    · cases h
    · simp only [Value.slice.injEq] at hv
      simp at hnc
      omega
  have HH := Lib.hid h
  subst hv
  rw [show (H ++ [x]).length = H.length + 1 by simp] at c2
  have hl' : (H.length : Int) ≤ 1000 := by omega
  have hc' : (H.length : Int) + 1 ≤ (cb : Int) := by omega
  clear h
  go_enter Try.func127, Try.ntmps127
  go_wp2_with fail
  go_ret
  have G : w.grownBy (w.setCell ⟨g, 2, none⟩ (.slice (some ⟨gb, 0, none⟩) H.length cb)) (some g) := set_grownX
  have hb := HH.out.bk
  rw [show (H ++ [x]).length = H.length + 1 by simp, show il (H ++ [x]) = il H ++ [.int .i64 x] by simp [il]] at hb
  refine ⟨rfl, _, ⟨by simpa using setI HH.out.row (j := 2) (.slice (some ⟨gb, 0, none⟩) H.length cb), own_grown HH.out.tk HH.out.row (by decide) G, own_grown (own_short hb) HH.out.row (by decide) G⟩, Far.of_grown G (fun k _ e => .inl (by simpa using e.symm)), fun k hk => .inl hk⟩
def HPop (B : Nat) (w : World) (g : Nat) (most : Int) (tv : Value) (T : List Bool) (bv : Value) (H : List Int) (c : Int) (w' : World) : Prop :=
  ∃ bv' R, List.Perm (at' H 0 :: R) H ∧ HeapP R R.length ∧ INew B w w' g most tv T bv R c bv'
theorem pop_math {G0 G : List Int} {n : Nat} (hl : H.length = n + 1) (h0 : G0.Perm H) (hm : at' G0 n = at' H 0) (hp : G.Perm G0) (hh : HeapP G n) (hk : at' G n = at' G0 n) : ∃ R : List Int, G = R ++ [at' H 0] ∧ R.length = n ∧ HeapP R R.length ∧ List.Perm (at' H 0 :: R) H := by
  have hGl : G.length = n + 1 := by rw [hp.length_eq, h0.length_eq, hl]
  have e : G = G.take n ++ [at' H 0] := by
    have h1 := List.take_append_drop n G
    have h2 : G.drop n = [at' H 0] := by
      rw [List.drop_eq_getElem_cons (by omega), List.drop_eq_nil_of_le (by omega)]
      rw [← hm, ← hk]
      simp [at', List.getD_eq_getElem?_getD, hGl]
    rw [h2] at h1
    exact h1.symm
  have hr : (G.take n).length = n := by simp; omega
  refine ⟨G.take n, e, hr, ?_, ?_⟩
  · rw [hr]
    intro i hi0 hin
    rw [at_take (by omega), at_take hin]
    exact hh i hi0 hin
  · have : (G.take n ++ [at' H 0]).Perm H := by rw [← e]; exact hp.trans h0
    exact (List.perm_append_comm (l₁ := [at' H 0]) (l₂ := G.take n)).trans this
set_option maxHeartbeats 8000000 in
set_option maxRecDepth 100000 in
theorem hpop_any (h : Id B w g most tv T bv H c) (hp : HeapP H H.length) {n : Nat} (hn : H.length = n + 1) (hl : H.length ≤ 500) :
    Calls Try.prog 90 #[.iface 120 (.pointer (some ⟨g, 2, none⟩))] w fun e w' => e = .returned (.iface 3 (.int .i64 (at' H 0))) ∧ HPop B w g most tv T bv H c w' := by
  have km := m_pop
  have kl := m_len g w _ h.c2
  have ks := m_swap g w _ h.c2
  obtain ⟨gb, cb, hv⟩ := own_slice' h.bk (by omega)
  rw [hn] at hv
  have LL : Hid (Calls Try.prog 124 #[bv] w fun e w' => e = .returned (.int .i64 ((n : Int) + 1)) ∧ w = w') := Lib.hid (by
    have := len_any bv (n + 1) _ cb hv w
    exact this)
  have hn2 : (n : Int) ≤ 500 := by omega
  clear hv
  have SD : Hid (Calls Try.prog 126 #[bv, .int .i64 0, .int .i64 n] w fun e w' => e = .returned (.tuple #[]) ∧ ∃ G0 : List Int, G0.Perm H ∧ at' G0 n = at' H 0 ∧ (0 < n → Dn G0 n 0) ∧ Id B w' g most tv T bv G0 c ∧ Far (SB bv) w w') := Lib.hid (by
    by_cases h0 : n = 0
    · subst h0
      obtain ⟨x, rfl⟩ := List.length_eq_one_iff.1 hn
      exact (swap_one h).mono fun e w' ⟨he, i, f⟩ => ⟨he, _, List.Perm.refl _, rfl, fun h => by omega, i, f⟩
    · exact (swap_any h (i := 0) (j := n) (by omega) (by omega) (by omega) (by omega)).mono fun e w' ⟨he, i, f⟩ => ⟨he, _, sw_perm (by omega) (by omega), by rw [sw_at (by omega) (by omega), if_pos rfl], fun _ => dn_swap hp hn (by omega), i, f⟩)
  have hH := Lib.hid h
  replace hn := Lib.hid hn
  clear h hp
  go_enter Try.func90, Try.ntmps90
  go_wp2_with fail
  refine LL.out.mono ?_
  rintro e w1 ⟨rfl, rfl⟩
  go_wp2_with fail
  refine SD.out.mono ?_
  rintro e w1 ⟨rfl, G0, p0, m0, d0, i0, f0⟩
  have DD : Hid (Calls Try.prog 98 #[.iface 120 (.pointer (some ⟨g, 2, none⟩)), .int .i64 0, .int .i64 n] w1 (DownPost B w1 g most tv T bv G0 c n)) := Lib.hid (by
    have := down_any i0 (n := n) (i0 := 0) (by rw [p0.length_eq, hn.out]; omega) (by
      by_cases h : 0 < n
      · exact d0 h
      · exact ⟨fun i h1 h2 => by omega, fun i h1 h2 => by omega⟩) (by rw [p0.length_eq]; omega) (by omega)
    exact this)
  replace p0 := Lib.hid p0
  replace m0 := Lib.hid m0
  replace f0 := Lib.hid f0
  clear d0 i0 SD LL kl ks
  go_wp2_with fail
  refine DD.out.mono ?_
  rintro e w2 ⟨⟨bb, rfl⟩, G, p, hh, hk, i, f⟩
  obtain ⟨R, rfl, hR, hRh, hRp⟩ := pop_math hn.out p0.out m0.out p hh (hk n (Nat.le_refl _))
  have PP := Lib.hid (lpop_any i (by omega))
  have F := Lib.hid (f0.out.trans f (fun _ _ h => h))
  have hnb := Lib.hid (fun k (hk : bv.ownBlock = some k) => hH.out.nb_lt hk)
  replace hRh := Lib.hid hRh
  replace hRp := Lib.hid hRp
  clear p hh hk i f DD hR
  go_wp2_with fail
  refine PP.out.mono ?_
  rintro e w3 ⟨rfl, b3, n3⟩
  have Z : Hid (HPop B w g most tv T bv H c w3) := Lib.hid ⟨b3, R, hRp.out, hRh.out, n3.i, (F.out.mono (S' := SI g bv) (fun k _ e => .inr e)).trans n3.far (fun k _ h => h), fun k hk => (n3.nb k hk).imp id (fun h => Nat.le_trans F.out.size h)⟩
  clear n3 PP
  go_wp2
  go_ret
  exact ⟨rfl, Z.out⟩
end
end Go.Proofs.Ytceiipcdkonnlaa.Ids
