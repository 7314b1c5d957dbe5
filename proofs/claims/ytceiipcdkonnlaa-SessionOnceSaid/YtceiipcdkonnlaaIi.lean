/-
  LAYER 21: free, none, Len, Has.
-/
import Derived.Test.YtceiipcdkonnlaaIh
namespace Go.Proofs.Ytceiipcdkonnlaa.Ids
set_option linter.unusedSimpArgs false
set_option linter.unusedVariables false
open Go.RowKit Que Hp
def S3 (g : Nat) (tv bv : Value) (k : Nat) : Prop := k = g ∨ tv.ownBlock = some k ∨ bv.ownBlock = some k
/-- The new row stands in the old block or in a new one. -/
def NB (w : World) (v v' : Value) : Prop := ∀ k, v'.ownBlock = some k → v.ownBlock = some k ∨ w.heap.size ≤ k
theorem nb_refl (w : World) (v : Value) : NB w v v := fun _ h => .inl h
theorem info4 : (Try.prog.info? 4).map (fun i => (i.zero, i.size, i.bytes)) = some (some (.bool false), 1, 1) := by kernel_rfl
section
variable {B : Nat} {w w' : World} {g : Nat} {most c : Int} {tv bv : Value} {T : List Bool} {H : List Int}
theorem none_no (h : Id B w g most tv T bv H c) (hm : 1 ≤ most) : Calls Try.prog 77 #[.pointer (some ⟨g, 0, none⟩)] w fun e w' => e = .returned (.bool false) ∧ w = w' := by
  have c0 := h.c0
  have hne : (most == 0) = false := by simp; omega
  clear h
  go_enter Try.func77, Try.ntmps77
  go_wp2
  go_ret
  exact ⟨rfl, rfl⟩
theorem len_ids (h : Id B w g most tv T bv H c) (hm : 1 ≤ most) : Calls Try.prog 123 #[.pointer (some ⟨g, 0, none⟩)] w fun e w' => e = .returned (.int .i64 c) ∧ w = w' := by
  have N := Lib.hid (none_no h hm)
  have c3 := h.c3
  clear h
  go_enter Try.func123, Try.ntmps123
  go_wp2_with fail
  refine N.out.mono ?_
  rintro e w1 ⟨rfl, rfl⟩
  go_wp2
  go_ret
  exact ⟨rfl, rfl⟩
theorem Id.below (h : Id B w g most tv T bv H c) (hg : B ≤ g) (hs : B ≤ w.heap.size) {S : Nat → Prop} (F : Far S w w') (hS : ∀ k, S k → k = g ∨ bv.ownBlock = some k) : Below B w w' :=
  F.below hs (fun k hk => by
    rcases hS k hk with e | e
    · omega
    · exact (h.bk.lt k e).1)
/-- A taken number. -/
theorem Id.flag (h : Id B w g most tv T bv H c) {gt cap n : Nat} (hv : tv = .slice (some ⟨gt, 0, none⟩) n cap) {k : Nat} (hk : k < T.length) : w.cell? ⟨gt, k, none⟩ = some (.bool (T.getD k false)) := by
  subst hv
  exact own_get h.tk (by simp [bl, hk])
theorem Id.mark (h : Id B w g most tv T bv H c) {gt cb : Nat} (hv : tv = .slice (some ⟨gt, 0, none⟩) T.length cb) {k : Nat} (x : Bool) : Id B (w.setCell ⟨gt, k, none⟩ (.bool x)) g most tv (T.set k x) bv H c := by
  subst hv
  have G : w.grownBy (w.setCell ⟨gt, k, none⟩ (.bool x)) (some gt) := ⟨rfl, rfl, rfl, by simp [World.setCell], fun j _ hne => Below.heap_setCell _ _ _ _ (by simpa using hne)⟩
  refine ⟨(G.block g h.lt (own_far h.tk h.row (by decide))).trans h.row, ?_, h.bk.kept G (.inr (own_apart h.tk h.bk (by decide) gt rfl))⟩
  have := (h.tk.stored k (.bool x)).1
  simpa [bl, List.map_set] using this
theorem Id.count (h : Id B w g most tv T bv H c) (d : Int) : Id B (w.setCell ⟨g, 3, none⟩ (.int .i64 d)) g most tv T bv H d := by
  have G : w.grownBy (w.setCell ⟨g, 3, none⟩ (.int .i64 d)) (some g) := set_grownX
  exact ⟨by simpa using setI h.row (j := 3) (.int .i64 d), own_grown h.tk h.row (by decide) G, own_grown h.bk h.row (by decide) G⟩
theorem free_end {w2 : World} {v2 : Value} (h : Id B w g most tv T bv H c) (g2 : (w.alloc (.cells #[.bool false] 4)).grownBy w2 tv.ownBlock) (o2 : w2.ownsRow B 4 1 v2 (T.length + 1) (bl T ++ [.bool false])) (hat : v2.ownBlock = tv.ownBlock ∨ v2.ownBlock = some (w.heap.size + 1)) :
    ∃ tv', Id B (w2.setCell ⟨g, 1, none⟩ v2) g most tv' (T ++ [false]) bv H c ∧ NB w tv tv' ∧ Far (S3 g tv bv) w (w2.setCell ⟨g, 1, none⟩ v2) := by
  have hb := ext_alloc w (.cells #[.bool false] 4)
  have Rx := (hb.block g h.lt).trans h.row
  have R2 := (g2.block g (Nat.lt_of_lt_of_le h.lt hb.size) (own_far h.tk h.row (by decide))).trans Rx
  have G : w2.grownBy (w2.setCell ⟨g, 1, none⟩ v2) (some g) := set_grownX
  have B2 := (own_keep h.bk hb).kept g2 (by
    by_cases e : bv.ownBlock = none
    · exact .inl e
    · refine .inr (fun e2 => ?_)
      obtain ⟨k, hk⟩ := Option.ne_none_iff_exists'.1 e
      exact own_apart h.tk h.bk (by decide) k (e2 ▸ hk) hk)
  refine ⟨v2, ⟨by simpa using setI R2 (j := 1) v2, ?_, own_grown B2 R2 (by decide) G⟩, fun k hk => ?_, ?_⟩
  · have := own_grown o2 R2 (by decide) G
    simpa [bl] using this
  · rcases hat with e | e
    · exact .inl (e ▸ hk)
    · rw [hk] at e
      simp only [Option.some.injEq] at e
      exact .inr (by omega)
  · exact ((Far.of_ext hb).trans (Far.of_grown (S := S3 g tv bv) g2 (fun k _ e => .inr (.inl e))) (fun k _ h => h)).trans (Far.of_grown (S := S3 g tv bv) G (fun k _ e => .inl (by simpa using e.symm))) (fun k _ h => h)
set_option maxHeartbeats 4000000 in
set_option maxRecDepth 100000 in
theorem free_new (h : Id B w g most tv T bv [] c) (hl : T.length ≤ 70000) (hB : B ≤ w.heap.size) :
    Calls Try.prog 78 #[.pointer (some ⟨g, 0, none⟩), .iface 120 (.pointer (some ⟨g, 2, none⟩))] w fun e w' => e = .returned (.int .i64 ((T.length : Int) + 1)) ∧ ∃ tv', Id B w' g most tv' (T ++ [false]) bv [] c ∧ NB w tv tv' ∧ Far (S3 g tv bv) w w' := by
  obtain ⟨i4, hi4, hz0, hz1, hz2⟩ := info_parts info4
  have kl := m_len g w _ h.c2
  have c1 := h.c1
  have f1 := h.fz 1
  have hlt := h.lt
  obtain ⟨a0, cb0, hv⟩ := own_slice h.bk
  have LL : Hid (Calls Try.prog 124 #[bv] w fun e w' => e = .returned (.int .i64 0) ∧ w = w') := Lib.hid (len_any bv 0 a0 cb0 hv w)
  have hl' : (T.length : Int) ≤ 70000 := by omega
  have far : tv.ownBlock ≠ some g := Ne.symm (own_far h.tk h.row (by decide))
  have oA := Lib.hid (own_keep h.tk (ext_alloc w (.cells #[.bool false] 4)))
  have hnew : Hid (∀ j u, ([Value.bool false] : List Value)[j]? = some u → (w.alloc (.cells #[.bool false] 4)).cell? ((⟨w.heap.size, 0, none⟩ : Addr).add j) = some u) := Lib.hid (by
    intro j u hj
    have := cell_of_row (w.alloc (.cells #[.bool false] 4)) w.heap.size j _ 4 (0, 0) (heap_alloc_new w _)
    rw [add_off', Nat.zero_add, this, ← hj]
    simp)
  have HH := Lib.hid h
  clear h hv
  go_enter Try.func78, Try.ntmps78
  go_wp2_with fail
  refine LL.out.mono ?_
  rintro e w1 ⟨rfl, rfl⟩
  go_wp2_with (first
    | (at_builtin; go_must (refine wpList_append_own_at _ rfl (.tmp 15) (.tmp 16) 22 rfl B 4 i4 (.bool false) 1 1 Try.underlying22 hi4 hz0 hz1 hz2 rfl (by decide) tv T.length (bl T) rfl oA.out ⟨w.heap.size, 0, none⟩ 1 1 [.bool false] rfl rfl hnew.out (by intro u hu; simp at hu; subst hu; rfl) (by unfold maxLen; omega) (by omega) (by simp; omega) ?_; intro v2 w2 o2 g2 _ hat; obtain ⟨a2, c2', rfl⟩ := own_slice o2; replace hat := Lib.hid hat; have hc1 := (g2.cell_far ⟨g, 1, none⟩ (by simp; omega) (Ne.symm far)); have hf1 := (g2.frozen_far ⟨g, 1, none⟩ (by simp; omega) (Ne.symm far)).trans (((ext_alloc w _).frozen (p := ⟨g, 1, none⟩) hlt).trans f1); replace g2 := Lib.hid g2; replace o2 := Lib.hid o2)))
  go_ret
  exact ⟨rfl, free_end HH.out g2.out o2.out (by have := hat.out; simpa using this)⟩
set_option maxHeartbeats 4000000 in
set_option maxRecDepth 100000 in
theorem free_old (h : Id B w g most tv T bv H c) (hp : HeapP H H.length) {n : Nat} (hn : H.length = n + 1) (hl : H.length ≤ 500) :
    Calls Try.prog 78 #[.pointer (some ⟨g, 0, none⟩), .iface 120 (.pointer (some ⟨g, 2, none⟩))] w fun e w' => e = .returned (.int .i64 (at' H 0)) ∧ ∃ bv' R, List.Perm (at' H 0 :: R) H ∧ HeapP R R.length ∧ Id B w' g most tv T bv' R c ∧ NB w bv bv' ∧ Far (S3 g tv bv) w w' := by
  have kl := m_len g w _ h.c2
  have ka := as_int
  obtain ⟨gb, cb, hv⟩ := own_slice' h.bk (by omega)
  have LL : Hid (Calls Try.prog 124 #[bv] w fun e w' => e = .returned (.int .i64 (H.length : Int)) ∧ w = w') := Lib.hid (len_any bv H.length _ cb hv w)
  have PP := Lib.hid (hpop_any h hp hn hl)
  have hpos : (0 : Int) < (H.length : Int) := by omega
  have HH := Lib.hid h
  replace hn := Lib.hid hn
  clear h hv hp
  go_enter Try.func78, Try.ntmps78
  go_wp2_with fail
  refine LL.out.mono ?_
  rintro e w1 ⟨rfl, rfl⟩
  go_wp2_with fail
  refine PP.out.mono ?_
  rintro e w2 ⟨rfl, b2, R, p, hh, n2⟩
  have Z : Hid (∃ bv' R, List.Perm (at' H 0 :: R) H ∧ HeapP R R.length ∧ Id B w2 g most tv T bv' R c ∧ NB w bv bv' ∧ Far (S3 g tv bv) w w2) := Lib.hid ⟨b2, R, p, hh, n2.i, n2.nb, n2.far.mono (fun k _ h => h.imp id .inr)⟩
  clear p hh n2 LL PP
  go_wp2
  go_ret
  exact ⟨rfl, Z.out⟩
end
end Go.Proofs.Ytceiipcdkonnlaa.Ids
