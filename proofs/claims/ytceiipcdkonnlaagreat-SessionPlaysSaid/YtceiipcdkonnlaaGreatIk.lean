/-
  LAYER 21: free, none, Len, Has.
-/
import Derived.Test.YtceiipcdkonnlaaGreatIh
namespace Go.Proofs.YtceiipcdkonnlaaGreat.Ids
set_option linter.unusedSimpArgs false
set_option linter.unusedVariables false
open Go.RowKit Que Hp
def S3 (g : Nat) (tv bv : Value) (k : Nat) : Prop := k = g ∨ tv.ownBlock = some k ∨ bv.ownBlock = some k
/-- The new row stands in the old block or in a new one. -/
def NB (w : World) (v v' : Value) : Prop := ∀ k, v'.ownBlock = some k → v.ownBlock = some k ∨ w.heap.size ≤ k
theorem nb_refl (w : World) (v : Value) : NB w v v := fun _ h => .inl h
theorem info4 : (Tryz.prog.info? 4).map (fun i => (i.zero, i.size, i.bytes)) = some (some (.bool false), 1, 1) := by kernel_rfl
section
variable {B : Nat} {w w' : World} {g : Nat} {most c : Int} {tv bv : Value} {T : List Bool} {H : List Int}
theorem none_no (h : Id B w g most tv T bv H c) (hm : 1 ≤ most) : Calls Tryz.prog 84 #[.pointer (some ⟨g, 0, none⟩)] w fun e w' => e = .returned (.bool false) ∧ w = w' := by
  have c0 := h.c0
  have hne : (most == 0) = false := by simp; omega
  clear h
  go_enter Tryz.func84, Tryz.ntmps84
  go_wp2
  go_ret
  exact ⟨rfl, rfl⟩
theorem len_ids (h : Id B w g most tv T bv H c) (hm : 1 ≤ most) : Calls Tryz.prog 114 #[.pointer (some ⟨g, 0, none⟩)] w fun e w' => e = .returned (.int .i64 c) ∧ w = w' := by
  have N := Lib.hid (none_no h hm)
  have c3 := h.c3
  clear h
  go_enter Tryz.func114, Tryz.ntmps114
  go_wp2_with fail
  refine N.out.mono ?_
  rintro e w1 ⟨rfl, rfl⟩
  go_wp2
  go_ret
  exact ⟨rfl, rfl⟩
theorem Id.below (h : Id B w g most tv T bv H c) (hg : B ≤ g) (hs : B ≤ w.heap.size) {S : Nat → Prop} (F : Far S w w') (hS : ∀ k, S k → k = g ∨ bv.ownBlock = some k) : Below B w w' :=
  F.below hs (fun k hk => by
    rcases hS k hk with e | e
    · omega
    · exact (h.bk.lt k e).1)
/-- A taken number. -/
theorem Id.flag (h : Id B w g most tv T bv H c) {gt cap n : Nat} (hv : tv = .slice (some ⟨gt, 0, none⟩) n cap) {k : Nat} (hk : k < T.length) : w.cell? ⟨gt, k, none⟩ = some (.bool (T.getD k false)) := by
  subst hv
  exact own_get h.tk (by simp [bl, hk])
theorem Id.mark (h : Id B w g most tv T bv H c) {gt cb : Nat} (hv : tv = .slice (some ⟨gt, 0, none⟩) T.length cb) {k : Nat} (x : Bool) : Id B (w.setCell ⟨gt, k, none⟩ (.bool x)) g most tv (T.set k x) bv H c := by
  subst hv
  have G : w.grownBy (w.setCell ⟨gt, k, none⟩ (.bool x)) (some gt) := ⟨rfl, rfl, rfl, by simp [World.setCell], fun j _ hne => Below.heap_setCell _ _ _ _ (by simpa using hne)⟩
  refine ⟨(G.block g h.lt (own_far h.tk h.row (by decide))).trans h.row, ?_, h.bk.kept G (.inr (own_apart h.tk h.bk (by decide) gt rfl))⟩
  have := (h.tk.stored k (.bool x)).1
  simpa [bl, List.map_set] using this
theorem Id.count (h : Id B w g most tv T bv H c) (d : Int) : Id B (w.setCell ⟨g, 3, none⟩ (.int .i64 d)) g most tv T bv H d := by
  have G : w.grownBy (w.setCell ⟨g, 3, none⟩ (.int .i64 d)) (some g) := set_grownX
  exact ⟨by simpa using setI h.row (j := 3) (.int .i64 d), own_grown h.tk h.row (by decide) G, own_grown h.bk h.row (by decide) G⟩
theorem free_end {w2 : World} {v2 : Value} (h : Id B w g most tv T bv H c) (g2 : (w.alloc (.cells #[.bool false] 4)).grownBy w2 tv.ownBlock) (o2 : w2.ownsRow B 4 1 v2 (T.length + 1) (bl T ++ [.bool false])) (hat : v2.ownBlock = tv.ownBlock ∨ v2.ownBlock = some (w.heap.size + 1)) :
    ∃ tv', Id B (w2.setCell ⟨g, 1, none⟩ v2) g most tv' (T ++ [false]) bv H c ∧ NB w tv tv' ∧ Far (S3 g tv bv) w (w2.setCell ⟨g, 1, none⟩ v2) := by
  have hb := ext_alloc w (.cells #[.bool false] 4)
  have Rx := (hb.block g h.lt).trans h.row
  have R2 := (g2.block g (Nat.lt_of_lt_of_le h.lt hb.size) (own_far h.tk h.row (by decide))).trans Rx
  have G : w2.grownBy (w2.setCell ⟨g, 1, none⟩ v2) (some g) := set_grownX
  have B2 := (own_keep h.bk hb).kept g2 (by
    by_cases e : bv.ownBlock = none
    · exact .inl e
    · refine .inr (fun e2 => ?_)
      obtain ⟨k, hk⟩ := Option.ne_none_iff_exists'.1 e
      exact own_apart h.tk h.bk (by decide) k (e2 ▸ hk) hk)
  refine ⟨v2, ⟨by simpa using setI R2 (j := 1) v2, ?_, own_grown B2 R2 (by decide) G⟩, fun k hk => ?_, ?_⟩
  · have := own_grown o2 R2 (by decide) G
    simpa [bl] using this
  · rcases hat with e | e
    · exact .inl (e ▸ hk)
    · rw [hk] at e
      simp only [Option.some.injEq] at e
      exact .inr (by omega)
  · exact ((Far.of_ext hb).trans (Far.of_grown (S := S3 g tv bv) g2 (fun k _ e => .inr (.inl e))) (fun k _ h => h)).trans (Far.of_grown (S := S3 g tv bv) G (fun k _ e => .inl (by simpa using e.symm))) (fun k _ h => h)
set_option maxHeartbeats 4000000 in
set_option maxRecDepth 100000 in
theorem free_new (h : Id B w g most tv T bv [] c) (hl : T.length ≤ 70000) (hB : B ≤ w.heap.size) :
    Calls Tryz.prog 85 #[.pointer (some ⟨g, 0, none⟩), .iface 137 (.pointer (some ⟨g, 2, none⟩))] w fun e w' => e = .returned (.int .i64 ((T.length : Int) + 1)) ∧ ∃ tv', Id B w' g most tv' (T ++ [false]) bv [] c ∧ NB w tv tv' ∧ Far (S3 g tv bv) w w' := by
  obtain ⟨i4, hi4, hz0, hz1, hz2⟩ := info_parts info4
  have kl := m_len g w _ h.c2
  have c1 := h.c1
  have f1 := h.fz 1
  have hlt := h.lt
  obtain ⟨a0, cb0, hv⟩ := own_slice h.bk
  have LL : Hid (Calls Tryz.prog 115 #[bv] w fun e w' => e = .returned (.int .i64 0) ∧ w = w') := Lib.hid (len_any bv 0 a0 cb0 hv w)
  have hl' : (T.length : Int) ≤ 70000 := by omega
  have far : tv.ownBlock ≠ some g := Ne.symm (own_far h.tk h.row (by decide))
  have oA := Lib.hid (own_keep h.tk (ext_alloc w (.cells #[.bool false] 4)))
  have hnew : Hid (∀ j u, ([Value.bool false] : List Value)[j]? = some u → (w.alloc (.cells #[.bool false] 4)).cell? ((⟨w.heap.size, 0, none⟩ : Addr).add j) = some u) := Lib.hid (by
    intro j u hj
    have := cell_of_row (w.alloc (.cells #[.bool false] 4)) w.heap.size j _ 4 (0, 0) (heap_alloc_new w _)
    rw [add_off', Nat.zero_add, this, ← hj]
    simp)
  have HH := Lib.hid h
  clear h hv
  go_enter Tryz.func85, Tryz.ntmps85
  go_wp2_with fail
  refine LL.out.mono ?_
  rintro e w1 ⟨rfl, rfl⟩
  go_wp2_with (first
    | (at_builtin; go_must (refine wpList_append_own_at _ rfl (.tmp 15) (.tmp 16) 109 rfl B 4 i4 (.bool false) 1 1 Tryz.underlying109 hi4 hz0 hz1 hz2 rfl (by decide) tv T.length (bl T) rfl oA.out ⟨w.heap.size, 0, none⟩ 1 1 [.bool false] rfl rfl hnew.out (by intro u hu; simp at hu; subst hu; rfl) (by unfold maxLen; omega) (by omega) (by simp; omega) ?_; intro v2 w2 o2 g2 _ hat; obtain ⟨a2, c2', rfl⟩ := own_slice o2; replace hat := Lib.hid hat; have hc1 := (g2.cell_far ⟨g, 1, none⟩ (by simp; omega) (Ne.symm far)); have hf1 := (g2.frozen_far ⟨g, 1, none⟩ (by simp; omega) (Ne.symm far)).trans (((ext_alloc w _).frozen (p := ⟨g, 1, none⟩) hlt).trans f1); replace g2 := Lib.hid g2; replace o2 := Lib.hid o2)))
  go_ret
  exact ⟨rfl, free_end HH.out g2.out o2.out (by have := hat.out; simpa using this)⟩
set_option maxHeartbeats 4000000 in
set_option maxRecDepth 100000 in
theorem free_old (h : Id B w g most tv T bv H c) (hp : HeapP H H.length) {n : Nat} (hn : H.length = n + 1) (hl : H.length ≤ 500) :
    Calls Tryz.prog 85 #[.pointer (some ⟨g, 0, none⟩), .iface 137 (.pointer (some ⟨g, 2, none⟩))] w fun e w' => e = .returned (.int .i64 (at' H 0)) ∧ ∃ bv' R, List.Perm (at' H 0 :: R) H ∧ HeapP R R.length ∧ Id B w' g most tv T bv' R c ∧ NB w bv bv' ∧ Far (S3 g tv bv) w w' := by
  have kl := m_len g w _ h.c2
  have ka := as_int
  obtain ⟨gb, cb, hv⟩ := own_slice' h.bk (by omega)
  have LL : Hid (Calls Tryz.prog 115 #[bv] w fun e w' => e = .returned (.int .i64 (H.length : Int)) ∧ w = w') := Lib.hid (len_any bv H.length _ cb hv w)
  have PP := Lib.hid (hpop_any h hp hn hl)
  have hpos : (0 : Int) < (H.length : Int) := by omega
  have HH := Lib.hid h
  replace hn := Lib.hid hn
  clear h hv hp
  go_enter Tryz.func85, Tryz.ntmps85
  go_wp2_with fail
  refine LL.out.mono ?_
  rintro e w1 ⟨rfl, rfl⟩
  go_wp2_with fail
  refine PP.out.mono ?_
  rintro e w2 ⟨rfl, b2, R, p, hh, n2⟩
  have Z : Hid (∃ bv' R, List.Perm (at' H 0 :: R) H ∧ HeapP R R.length ∧ Id B w2 g most tv T bv' R c ∧ NB w bv bv' ∧ Far (S3 g tv bv) w w2) := Lib.hid ⟨b2, R, p, hh, n2.i, n2.nb, n2.far.mono (fun k _ h => h.imp id .inr)⟩
  clear p hh n2 LL PP
  go_wp2
  go_ret
  exact ⟨rfl, Z.out⟩
end
end Go.Proofs.YtceiipcdkonnlaaGreat.Ids

/-
  LAYER 21: which numbers are taken: plain.
-/
namespace Go.Proofs.YtceiipcdkonnlaaGreat.Ids
set_option linter.unusedSimpArgs false
set_option linter.unusedVariables false
open Go.RowKit Que Hp
def trues (T : List Bool) : Nat := T.count true
/-- The place of the first that is free. -/
def nxt (T : List Bool) : Nat := T.findIdx (fun b => !b)
def tk (T : List Bool) : List Bool := if nxt T < T.length then T.set (nxt T) true else T ++ [true]
theorem trues_set_true {T : List Bool} {k : Nat} (hk : k < T.length) (hf : T.getD k true = false) : trues (T.set k true) = trues T + 1 := by
  unfold trues
  rw [List.getD_eq_getElem?_getD, List.getElem?_eq_getElem hk] at hf
  simp at hf
  rw [List.count_set hk]
  simp [hf]
theorem trues_set_false {T : List Bool} {k : Nat} (hk : k < T.length) (ht : T.getD k true = true) : trues (T.set k false) = trues T - 1 ∧ 0 < trues T := by
  unfold trues
  rw [List.getD_eq_getElem?_getD, List.getElem?_eq_getElem hk] at ht
  simp at ht
  rw [List.count_set hk]
  refine ⟨by simp [ht], List.count_pos_iff.2 (ht ▸ List.getElem_mem _)⟩
theorem trues_more (T : List Bool) : trues (T ++ [true]) = trues T + 1 := by simp [trues]
theorem trues_le (T : List Bool) : trues T ≤ T.length := List.count_le_length
theorem trues_full {T : List Bool} (h : ∀ k, k < T.length → T.getD k true = true) : trues T = T.length := by
  unfold trues
  rw [List.count_eq_length]
  intro b hb
  obtain ⟨k, hk, rfl⟩ := List.getElem_of_mem hb
  have := h k hk
  rw [List.getD_eq_getElem?_getD, List.getElem?_eq_getElem hk] at this
  simpa using this.symm
structure Good (T : List Bool) (H : List Int) : Prop where
  mem : ∀ x : Int, x ∈ H ↔ ∃ k : Nat, k < T.length ∧ T.getD k true = false ∧ x = k + 1
  nd : H.Nodup
  hp : HeapP H H.length
  ln : H.length + trues T = T.length
theorem good_nil : Good [] [] := ⟨fun x => by simp, List.nodup_nil, fun i h0 hi => by simp at hi, rfl⟩
theorem nxt_eq {T : List Bool} {k : Nat} (hk : k < T.length) (hf : T.getD k true = false) (hl : ∀ j, j < k → T.getD j true = true) : nxt T = k := by
  unfold nxt
  rw [List.findIdx_eq hk]
  refine ⟨?_, fun j hj => ?_⟩
  · rw [List.getD_eq_getElem?_getD, List.getElem?_eq_getElem hk] at hf
    simpa using hf
  · have := hl j hj
    rw [List.getD_eq_getElem?_getD, List.getElem?_eq_getElem (by omega)] at this
    simpa using this
theorem nxt_none {T : List Bool} (h : ∀ k, k < T.length → T.getD k true = true) : nxt T = T.length := by
  unfold nxt
  rw [List.findIdx_eq_length]
  intro b hb
  obtain ⟨k, hk, rfl⟩ := List.getElem_of_mem hb
  have := h k hk
  rw [List.getD_eq_getElem?_getD, List.getElem?_eq_getElem hk] at this
  simpa using this
theorem Good.none {T : List Bool} (h : Good T []) : ∀ k, k < T.length → T.getD k true = true := fun k hk => by
  cases e : T.getD k true with
  | true => rfl
  | false => have := (h.mem (k + 1)).2 ⟨k, hk, e, rfl⟩; simp at this
theorem Good.least {T : List Bool} {H : List Int} (h : Good T H) (hn : 0 < H.length) : at' H 0 = (nxt T : Int) + 1 ∧ nxt T < T.length ∧ T.getD (nxt T) true = false := by
  have h0 : at' H 0 ∈ H := by unfold at'; rw [List.getD_eq_getElem?_getD, List.getElem?_eq_getElem hn]; exact List.getElem_mem _
  obtain ⟨k, hk, hf, he⟩ := (h.mem _).1 h0
  have : nxt T = k := nxt_eq hk hf (fun j hj => by
    cases e : T.getD j true with
    | true => rfl
    | false =>
      have hm := (h.mem (j + 1)).2 ⟨j, by omega, e, rfl⟩
      obtain ⟨i, hi, hx⟩ := List.getElem_of_mem hm
      have := h.hp.min i hi
      rw [he] at this
      unfold at' at this
      rw [List.getD_eq_getElem?_getD, List.getElem?_eq_getElem hi] at this
      simp at this
      omega)
  rw [this]
  exact ⟨he, hk, hf⟩
theorem Good.taken {T : List Bool} {H R : List Int} (h : Good T H) (hn : 0 < H.length) (hp : List.Perm (at' H 0 :: R) H) (hh : HeapP R R.length) : Good (T.set (nxt T) true) R := by
  obtain ⟨he, hk, hf⟩ := h.least hn
  have hnd := (List.Perm.nodup_iff hp).2 h.nd
  rw [List.nodup_cons] at hnd
  refine ⟨fun x => ?_, hnd.2, hh, by have h1 := hp.length_eq; have h2 := h.ln; rw [trues_set_true hk hf, List.length_set]; simp at h1; omega⟩
  have hx : x ∈ R ↔ x ∈ H ∧ x ≠ at' H 0 := by
    rw [← hp.mem_iff, List.mem_cons]
    constructor
    · exact fun hx => ⟨.inr hx, fun e => hnd.1 (e ▸ hx)⟩
    · rintro ⟨hx | hx, hne⟩
      · exact absurd hx hne
      · exact hx
  rw [hx, h.mem, he]
  constructor
  · rintro ⟨⟨k, h1, h2, rfl⟩, h3⟩
    refine ⟨k, by simpa using h1, ?_, rfl⟩
    rw [List.getD_eq_getElem?_getD, List.getElem?_set_ne (by omega), ← List.getD_eq_getElem?_getD]; exact h2
  · rintro ⟨k, h1, h2, rfl⟩
    have h1' : k < T.length := by simpa using h1
    by_cases e : k = nxt T
    · subst e
      rw [List.getD_eq_getElem?_getD, List.getElem?_set_self hk] at h2
      simp at h2
    · rw [List.getD_eq_getElem?_getD, List.getElem?_set_ne (fun h => e h.symm), ← List.getD_eq_getElem?_getD] at h2
      exact ⟨⟨k, h1', h2, rfl⟩, by omega⟩
theorem Good.more {T : List Bool} (h : Good T []) : Good (T ++ [true]) [] := by
  refine ⟨fun x => ⟨fun hx => by simp at hx, ?_⟩, List.nodup_nil, fun i h0 hi => by simp at hi, by have h2 := h.ln; rw [trues_more]; simp at h2 ⊢; omega⟩
  rintro ⟨k, h1, h2, rfl⟩
  by_cases e : k < T.length
  · rw [List.getD_eq_getElem?_getD, List.getElem?_append_left e, ← List.getD_eq_getElem?_getD] at h2
    rw [h.none k e] at h2; cases h2
  · obtain rfl : k = T.length := by simp at h1; omega
    simp at h2
theorem Good.given {T : List Bool} {H G : List Int} (h : Good T H) {k : Nat} (hk : k < T.length) (ht : T.getD k true = true) (hp : List.Perm G (H ++ [(k : Int) + 1])) (hh : HeapP G G.length) : Good (T.set k false) G := by
  have hni : ((k : Int) + 1) ∉ H := fun hm => by
    obtain ⟨j, h1, h2, h3⟩ := (h.mem _).1 hm
    obtain rfl : j = k := by omega
    rw [ht] at h2; cases h2
  refine ⟨fun x => ?_, ?_, hh, by have h1 := hp.length_eq; have h2 := h.ln; have h3 := trues_set_false hk ht; rw [h3.1, List.length_set]; simp at h1; omega⟩
  · rw [hp.mem_iff, List.mem_append, h.mem]
    constructor
    · rintro (⟨j, h1, h2, rfl⟩ | hx)
      · refine ⟨j, by simpa using h1, ?_, rfl⟩
        by_cases e : k = j
        · subst e; rw [ht] at h2; cases h2
        · rw [List.getD_eq_getElem?_getD, List.getElem?_set_ne e, ← List.getD_eq_getElem?_getD]; exact h2
      · simp at hx
        refine ⟨k, by simpa using hk, ?_, hx⟩
        rw [List.getD_eq_getElem?_getD, List.getElem?_set_self hk]; rfl
    · rintro ⟨j, h1, h2, rfl⟩
      by_cases e : k = j
      · subst e; simp
      · rw [List.getD_eq_getElem?_getD, List.getElem?_set_ne e, ← List.getD_eq_getElem?_getD] at h2
        exact .inl ⟨j, by simpa using h1, h2, rfl⟩
  · rw [List.Perm.nodup_iff hp, List.nodup_append]
    exact ⟨h.nd, by simp, fun a ha b hb => by simp at hb; subst hb; exact fun e => hni (e ▸ ha)⟩
theorem Good.len {T : List Bool} {H : List Int} (h : Good T H) : H.length ≤ T.length := by have := h.ln; omega
end Go.Proofs.YtceiipcdkonnlaaGreat.Ids

/-
  LAYER 21: Take, Has, Give over the numbers that are taken.
-/
namespace Go.Proofs.YtceiipcdkonnlaaGreat.Ids
set_option linter.unusedSimpArgs false
set_option linter.unusedVariables false
open Go.RowKit Que Hp
/-- What A names has not changed. -/
def Kp (A : Nat → Prop) (w w' : World) : Prop := Far (fun k => ¬ A k) w w'
theorem Kp.trans {A : Nat → Prop} {a b c : World} (h : Kp A a b) (k : Kp A b c) : Kp A a c := Far.trans h k (fun _ _ h => h)
theorem Kp.below {A : Nat → Prop} {a b : World} {B : Nat} (h : Kp A a b) (hB : B ≤ a.heap.size) (hA : ∀ k, k < B → A k) : Below B a b :=
  Far.below h hB (fun k hk => Nat.le_of_not_lt (fun e => hk (hA k e)))
theorem Kp.of_ext {A : Nat → Prop} {a b : World} (h : Below a.heap.size a b) : Kp A a b := Far.of_ext h
structure Ds (A : Nat → Prop) (w : World) (g most : Nat) (T : List Bool) : Prop where
  ex : ∃ tv bv H, Id 0 w g most tv T bv H (trues T : Nat) ∧ Good T H ∧ ∀ k, A k → k < w.heap.size ∧ ¬ S3 g tv bv k
  le : T.length ≤ most
  m1 : 1 ≤ most
  m4 : most ≤ 400
section
variable {A : Nat → Prop} {w w' : World} {g most : Nat} {T : List Bool}
theorem Ds.ext (h : Ds A w g most T) (hb : Below w.heap.size w w') : Ds A w' g most T := by
  obtain ⟨tv, bv, H, i, G, av⟩ := h.ex
  exact ⟨⟨tv, bv, H, i.keep hb, G, fun k hk => ⟨Nat.lt_of_lt_of_le (av k hk).1 hb.size, (av k hk).2⟩⟩, h.le, h.m1, h.m4⟩
/-- One more block is to be kept: one that was made behind all of its own. -/
theorem Ds.more (h : Ds A w g most T) (hb : Below w.heap.size w w') {r : Nat} (h1 : w.heap.size ≤ r) (h2 : r < w'.heap.size) : Ds (fun k => A k ∨ k = r) w' g most T := by
  obtain ⟨tv, bv, H, i, G, av⟩ := h.ex
  refine ⟨⟨tv, bv, H, i.keep hb, G, ?_⟩, h.le, h.m1, h.m4⟩
  rintro k (hk | rfl)
  · exact ⟨Nat.lt_of_lt_of_le (av k hk).1 hb.size, (av k hk).2⟩
  · refine ⟨h2, ?_⟩
    rintro (e | e | e)
    · have := i.lt; omega
    · have := (i.tk.lt k e).2; omega
    · have := (i.bk.lt k e).2; omega
theorem ds_end {tv bv tv2 bv2 : Value} {W0 w2 w3 : World} (av : ∀ k, A k → k < w.heap.size ∧ ¬ S3 g tv bv k) (F1 : Far (S3 g tv bv) w W0) (n1 : NB W0 tv tv2) (n2 : NB W0 bv bv2) (F2 : Far (S3 g tv bv) W0 w2) (F3 : Far (SB tv2) w2 w3) : (∀ k, A k → k < w3.heap.size ∧ ¬ S3 g tv2 bv2 k) ∧ Kp A w w3 := by
  have s1 := F1.size
  have s2 := F2.size
  have s3 := F3.size
  refine ⟨fun k hk => ⟨by have := (av k hk).1; omega, ?_⟩, ?_⟩
  · rintro (e | e | e)
    · exact (av k hk).2 (.inl e)
    · rcases n1 k e with h | h
      · exact (av k hk).2 (.inr (.inl h))
      · have := (av k hk).1; omega
    · rcases n2 k e with h | h
      · exact (av k hk).2 (.inr (.inr h))
      · have := (av k hk).1; omega
  · have F : Far (S3 g tv bv) w w3 := (F1.trans F2 (fun _ _ h => h)).trans F3 (fun k hk e => by
      rcases n1 k e with h | h
      · exact .inr (.inl h)
      · omega)
    exact F.mono (fun k hk h hA => (av k hA).2 h)
def Freed (g most : Nat) (T : List Bool) (c : Int) (tv bv : Value) (W : World) (e : Ending) (W' : World) : Prop :=
  e = .returned (.int .i64 ((nxt T : Int) + 1)) ∧ ∃ tv' bv' T1 H, Id 0 W' g most tv' T1 bv' H c ∧ T1.set (nxt T) true = tk T ∧ nxt T < T1.length ∧ T1.length ≤ T.length + 1 ∧ Good (tk T) H ∧ NB W tv tv' ∧ NB W bv bv' ∧ Far (S3 g tv bv) W W'
theorem free_any {tv bv : Value} {H : List Int} {c : Int} (h : Id 0 w g most tv T bv H c) (G : Good T H) (hT : T.length ≤ 400) :
    Calls Tryz.prog 85 #[.pointer (some ⟨g, 0, none⟩), .iface 137 (.pointer (some ⟨g, 2, none⟩))] w (Freed g most T c tv bv w) := by
  have hl := G.len
  cases hH : H.length with
  | zero =>
    obtain rfl : H = [] := List.eq_nil_of_length_eq_zero hH
    have hn := nxt_none G.none
    have ht : tk T = T ++ [true] := by unfold tk; rw [if_neg (by omega)]
    refine (free_new h (by omega) (Nat.zero_le _)).mono ?_
    rintro e w2 ⟨he, tv', i, nb, F⟩
    exact ⟨by rw [he, hn], tv', bv, T ++ [false], [], i, by rw [ht, hn]; simp, by simp; omega, by simp, by rw [ht]; exact G.more, nb, nb_refl _ _, F⟩
  | succ n =>
    obtain ⟨h0, h1, h2⟩ := G.least (by omega)
    have ht : tk T = T.set (nxt T) true := by unfold tk; rw [if_pos h1]
    refine (free_old h G.hp hH (by omega)).mono ?_
    rintro e w2 ⟨he, bv', R, p, hh, i, nb, F⟩
    exact ⟨by rw [he, h0], tv, bv', T, R, i, ht.symm, h1, by omega, by rw [ht]; exact G.taken (by omega) p hh, nb_refl _ _, nb, F⟩
theorem trues_tk {H : List Int} (G : Good T H) : trues (tk T) = trues T + 1 := by
  cases hH : H.length with
  | zero =>
    obtain rfl : H = [] := List.eq_nil_of_length_eq_zero hH
    have hn := nxt_none G.none
    unfold tk; rw [if_neg (by omega)]
    exact trues_more T
  | succ n =>
    obtain ⟨-, h1, h2⟩ := G.least (by omega)
    unfold tk; rw [if_pos h1]
    exact trues_set_true h1 h2
theorem tk_len {H : List Int} (G : Good T H) (hlt : trues T < most) (hle : T.length ≤ most) : (tk T).length ≤ most := by
  cases hH : H.length with
  | zero =>
    obtain rfl : H = [] := List.eq_nil_of_length_eq_zero hH
    have hn := nxt_none G.none
    have := G.ln
    simp at this
    unfold tk; rw [if_neg (by omega)]
    simp; omega
  | succ n =>
    obtain ⟨-, h1, -⟩ := G.least (by omega)
    unfold tk; rw [if_pos h1]
    simpa using hle
set_option maxHeartbeats 4000000 in
set_option maxRecDepth 100000 in
theorem take_full (h : Ds A w g most T) (hf : trues T = most) : Calls Tryz.prog 79 #[.pointer (some ⟨g, 0, none⟩)] w fun e w' => ∃ k, e = .returned (.tuple #[.int .i64 0, .int .i64 6]) ∧ w.drewN k = w' := by
  obtain ⟨tv, bv, H, i, G, av⟩ := h.ex
  have hm := h.m1
  have N := Lib.hid (none_no i (by omega))
  have c0 := i.c0
  have c3 := i.c3
  rw [hf] at c3
  clear i G av h hf
  go_enter Tryz.func79, Tryz.ntmps79
  go_wp2_with fail
  refine N.out.mono ?_
  rintro e w1 ⟨rfl, rfl⟩
  go_wp2_with fail
  go_quiet (fail)
  go_wp2_with fail
  go_ret2
  exact ⟨_, rfl, rfl⟩
set_option maxHeartbeats 4000000 in
set_option maxRecDepth 100000 in
theorem take_ok (h : Ds A w g most T) (hf : trues T < most) : Calls Tryz.prog 79 #[.pointer (some ⟨g, 0, none⟩)] w fun e w' => e = .returned (.tuple #[.int .i64 ((nxt T : Int) + 1), .int .i64 0]) ∧ Ds A w' g most (tk T) ∧ Kp A w w' := by
  obtain ⟨tv, bv, H, i, G, av⟩ := h.ex
  have hm := h.m1
  have hm4 := h.m4
  have N := Lib.hid (none_no i (by omega))
  have c0 := i.c0
  have c3 := i.c3
  have f3 := i.fz 3
  have hne : ((trues T : Int) == (most : Int)) = false := by simp; omega
  have ht0 : (0 : Int) ≤ (trues T : Int) := by omega
  have ht1 : (trues T : Int) ≤ 400 := by omega
  have FR : Hid (∀ n, Calls Tryz.prog 85 #[.pointer (some ⟨g, 0, none⟩), .iface 137 (.pointer (some ⟨g, 2, none⟩))] ((w.drewN n).setCell ⟨g, 3, none⟩ (.int .i64 ((trues T : Int) + 1))) (Freed g most T ((trues T : Int) + 1) tv bv ((w.drewN n).setCell ⟨g, 3, none⟩ (.int .i64 ((trues T : Int) + 1))))) := Lib.hid fun n => free_any ((i.drewN n).count _) G (by have := h.le; omega)
  have F1 : Hid (∀ n, Far (S3 g tv bv) w ((w.drewN n).setCell ⟨g, 3, none⟩ (.int .i64 ((trues T : Int) + 1)))) := Lib.hid fun n => (Far.of_ext (S := S3 g tv bv) (ext_drewN w n)).trans (Far.of_grown (S := S3 g tv bv) set_grownX (fun k _ e => .inl (by simpa using e.symm))) (fun _ _ h => h)
  replace av := Lib.hid av
  have e1 := Lib.hid (trues_tk G)
  have e2 := Lib.hid (tk_len G hf h.le)
  have HD := Lib.hid h
  clear i G h
  go_enter Tryz.func79, Tryz.ntmps79
  go_wp2_with fail
  refine N.out.mono ?_
  rintro e w1 ⟨rfl, rfl⟩
  go_wp2_with fail
  go_quiet (fail)
  go_wp2_with fail
  refine (FR.out _).mono ?_
  rintro e w2 ⟨rfl, tv2, bv2, T1, H1, i2, hs, hlt, hle, G2, n1, n2, F2⟩
  have k1 := i2.c1
  obtain ⟨gt, ct, hv⟩ := own_slice' i2.tk (by omega)
  have kf := i2.flag hv hlt
  have kz : w2.frozen? ⟨gt, nxt T, none⟩ = false := by have := i2.tk; rw [hv] at this; exact this.frozenAt _
  have M2 := i2.mark hv (k := nxt T) true
  rw [hs] at M2
  have F3 : Far (SB tv2) w2 (w2.setCell ⟨gt, nxt T, none⟩ (.bool true)) := ⟨rfl, rfl, rfl, by simp [World.setCell], fun q _ hq => Below.heap_setCell _ _ _ _ (fun e => hq (by subst e; rw [hv]; rfl))⟩
  obtain ⟨av2, kp2⟩ := ds_end av.out (F1.out _) n1 n2 F2 F3
  have D2 : Hid (Ds A (w2.setCell ⟨gt, nxt T, none⟩ (.bool true)) g most (tk T)) := Lib.hid ⟨⟨_, _, _, by rw [e1.out]; exact M2, G2, av2⟩, e2.out, hm, hm4⟩
  have B2 := Lib.hid kp2
  rw [hv] at k1
  have hlt' : (nxt T : Int) < (T1.length : Int) := by omega
  have hT1 : (T1.length : Int) ≤ 500 := by have := HD.out.le; omega
  generalize T1.getD (nxt T) false = yy at *
  clear i2 hs G2 M2 FR N hv hle F2 F3 n1 n2 av2 kp2
  go_wp2_with fail
  go_ret2
  exact ⟨rfl, D2.out, B2.out⟩
end
end Go.Proofs.YtceiipcdkonnlaaGreat.Ids
