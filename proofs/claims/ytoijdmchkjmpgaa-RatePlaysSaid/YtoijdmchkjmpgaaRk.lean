/-
  LAYER 35: the document's Ask, whole.
-/
import Derived.Test.YtoijdmchkjmpgaaRj
namespace Go.Proofs.Ytoijdmchkjmpgaa.Rte
open Go.RowKit Que Hp Hg
section
variable {B : Nat} {w w' : World} {x : Nat} {gap : Int} {v : Value} {L : List Gr}
set_option maxHeartbeats 8000000 in
set_option maxRecDepth 100000 in
/-- The first key of all. -/
theorem xask_nil (h : Xr B w x gap v []) (hv : v = .slice none 0 0) (hB : B ≤ w.heap.size) (hgp : 0 ≤ gap ∧ gap ≤ 1073741824) {k : ByteArray} {now : Int} (hm : may gap [] k now = true) :
    Calls Try.prog 47 #[.pointer (some ⟨x, 0, none⟩), .string k, .int .i64 now] w fun y w' => y = .returned (.bool true) ∧ ∃ v', XNw B w w' x gap v (ins [] k now) v' := by
  obtain ⟨i89, hi89, hz0, hz1, hz2⟩ := info_parts info89
  have M := xmay h List.Pairwise.nil (by simp) (by simp) hgp k now
  rw [hm] at M
  replace M := Lib.hid M
  have F := Lib.hid (fun m => xfind_any (h.keep (ext_drewN w m)) (by simp) k)
  rw [show px [] k = 0 from rfl, show thr [] k = false from rfl] at F
  have H := Lib.hid h
  have hins : ins [] k now = [⟨k, now⟩] := rfl
  replace hins := Lib.hid hins
  have c1 := h.c1
  have one2 : Hid (∀ u ∈ ([Value.string k, .int .i64 now] : List Value), u.oneCell' = true) := Lib.hid (by intro u hu; simp at hu; rcases hu with rfl | rfl <;> rfl)
  subst hv
  · clear h hm
    go_enter Try.func47, Try.ntmps47
    go_wp2_with fail
    refine M.out.mono ?_
    rintro y w1 ⟨rfl, m, rfl⟩
    go_wp2_with fail
    refine (F.out m).mono ?_
    rintro y w2 ⟨rfl, m2, hw2⟩
    have bw : Below w.heap.size w w2 := by rw [← hw2]; exact ext_trans (ext_drewN w m) (ext_drewN _ m2)
    have zw : w2.heap.size = w.heap.size := by rw [← hw2]; rfl
    have H2 := H.out.keep bw
    have d1 := H2.c1
    have g1 := H2.fz 1
    have xlt := H2.lt
    replace H2 := Lib.hid H2
    replace bw := Lib.hid bw
    replace zw := Lib.hid zw
    clear c1 M F hw2
    have oA := (show (w2.alloc (.cells #[] 89)).ownsRow w.heap.size 89 2 (.slice (some ⟨w2.heap.size, 0, none⟩) 0 0) 0 [] from ⟨rfl, .inr ⟨_, 0, #[], rfl, by rw [zw.out]; exact Nat.le_refl _, heap_alloc_new w2 _, Nat.le_refl _, Nat.zero_le _, rfl, rfl⟩⟩)
    have bA := Lib.hid (ext_alloc w2 (.cells #[] 89))
    have oB := Lib.hid (own_keep oA (ext_alloc (w2.alloc (.cells #[] 89)) (.cells #[.string k, .int .i64 now] 89)))
    replace oA := Lib.hid oA
    have nB : Hid (∀ j u, ([Value.string k, .int .i64 now] : List Value)[j]? = some u → ((w2.alloc (.cells #[] 89)).alloc (.cells #[.string k, .int .i64 now] 89)).cell? ((⟨w2.heap.size + 1, 0, none⟩ : Addr).add j) = some u) := Lib.hid (by
      intro j u hj
      have h2 := heap_alloc_new (w2.alloc (.cells #[] 89)) (.cells #[.string k, .int .i64 now] 89)
      rw [World.size_alloc] at h2
      have := cell_of_row ((w2.alloc (.cells #[] 89)).alloc (.cells #[.string k, .int .i64 now] 89)) (w2.heap.size + 1) j _ 89 (0, 0) h2
      rw [add_off', Nat.zero_add, this, ← hj]
      simp)
    have FIN : Hid (∀ (W : World) v', Below w2.heap.size w2 W → W.ownsRow w.heap.size 89 2 v' (ins [] k now).length (grC (ins [] k now)) → XNw B w (W.setCell ⟨x, 1, none⟩ v') x gap _ (ins [] k now) v') := Lib.hid fun W v' hW o => xr_end H.out (ext_trans bw.out hW) hB o
    go_wp2_with (first
      | (at_builtin; refine wpList_append_own_none rfl (.tmp 30) (.tmp 36) 83 rfl w.heap.size 89 i89 2 Try.underlying83 hi89 (.slice (some ⟨w2.heap.size, 0, none⟩) 0 0) 0 [] rfl oA.out rfl ?_)
      | (at_builtin; refine wpList_append_own _ rfl (.tmp 38) (.tmp 42) 83 rfl w.heap.size 89 i89 zMk 2 24 Try.underlying83 hi89 hz0 hz1 hz2 rfl (by decide) (.slice (some ⟨w2.heap.size, 0, none⟩) 0 0) 0 [] rfl oB.out ⟨w2.heap.size + 1, 0, none⟩ 1 1 [.string k, .int .i64 now] rfl rfl nB.out one2.out (by unfold maxLen; omega) (by omega) (by have := zw.out; simp; omega) ?_; intro v4 w4 o4 g4 _
         have BW4 := Lib.hid ((bA.out.alloc bA.out.size (.cells #[.string k, .int .i64 now] 89)).grown g4 (by simp; omega) (fun k hk => by have := (oB.out.lt k hk).1; have := zw.out; omega))
         obtain ⟨va4, vc4, rfl⟩ := own_slice o4
         have d4 := (BW4.out.cell (p := ⟨x, 1, none⟩) xlt).trans d1
         have f4 := (BW4.out.frozen (p := ⟨x, 1, none⟩) xlt).trans g1
         have o4' := Lib.hid o4
         clear o4 g4)
      | (at_builtin; refine wpList_append_own_none rfl (.tmp 44) (.tmp 50) 83 rfl w.heap.size 89 i89 2 Try.underlying83 hi89 (.slice va4 (0 + 1) vc4) (0 + 1) ([] ++ [.string k, .int .i64 now]) rfl o4'.out rfl ?_))
    go_ret
    exact ⟨rfl, _, FIN.out w4 _ BW4.out (by
      rw [hins.out]
      have := o4'.out
      simpa [grC, Gr.cells] using this)⟩
/-- The document's rate, sorted. -/
structure Xs (B : Nat) (w : World) (x : Nat) (gap : Int) (v : Value) (L : List Gr) : Prop where
  r : Xr B w x gap v L
  s : Srt L
  le : L.length ≤ 8
  ge : ∀ e ∈ L, 0 ≤ e.t ∧ e.t ≤ 1073741824
  gp : 0 ≤ gap ∧ gap ≤ 1073741824
  nl : L = [] → v = .slice none 0 0
theorem Xs.ext (h : Xs B w x gap v L) (hb : Below w.heap.size w w') : Xs B w' x gap v L := ⟨h.r.keep hb, h.s, h.le, h.ge, h.gp, h.nl⟩
theorem Xs.far {S : Nat → Prop} (h : Xs B w x gap v L) (F : Far S w w') (h1 : ¬ S x) (h2 : ∀ k, v.ownBlock = some k → ¬ S k) : Xs B w' x gap v L := ⟨h.r.far F h1 h2, h.s, h.le, h.ge, h.gp, h.nl⟩
def XAsk (B : Nat) (w : World) (x : Nat) (gap : Int) (v : Value) (L : List Gr) (k : ByteArray) (now : Int) (e : Ending) (w' : World) : Prop :=
  e = .returned (.bool (may gap L k now)) ∧ ∃ v' L', Xs B w' x gap v' L' ∧ Far (SI x v) w w' ∧ (∀ k, v'.ownBlock = some k → v.ownBlock = some k ∨ w.heap.size ≤ k) ∧ Asked (may gap L k now) k now L L'
theorem xmayS (h : Xs B w x gap v L) (k : ByteArray) (now : Int) : Calls Try.prog 45 #[.pointer (some ⟨x, 0, none⟩), .string k, .int .i64 now] w fun e w' => e = .returned (.bool (may gap L k now)) ∧ ∃ m, w.drewN m = w' := xmay h.r h.s h.le h.ge h.gp k now
theorem may_time {gap : Int} {L : List Gr} {k : ByteArray} {now : Int} (hm : may gap L k now = true) : 0 ≤ now ∧ now ≤ 1073741824 := by
  unfold may at hm
  rw [Bool.and_eq_true] at hm
  simpa using hm.1
theorem xask (h : Xs B w x gap v L) (hB : B ≤ w.heap.size) (k : ByteArray) (now : Int) : Calls Try.prog 47 #[.pointer (some ⟨x, 0, none⟩), .string k, .int .i64 now] w (XAsk B w x gap v L k now) := by
  unfold XAsk
  cases hm : may gap L k now
  · have M := xmayS h k now
    rw [hm] at M
    replace M := Lib.hid M
    have Z : Hid (∀ m, ∃ v' L', Xs B (w.drewN m) x gap v' L' ∧ Far (SI x v) w (w.drewN m) ∧ (∀ k, v'.ownBlock = some k → v.ownBlock = some k ∨ w.heap.size ≤ k) ∧ Asked false k now L L') := Lib.hid fun m => ⟨v, L, h.ext (ext_drewN _ _), Far.of_ext (ext_drewN _ _), fun _ h => .inl h, asked_no⟩
    clear h hm
    go_enter Try.func47, Try.ntmps47
    go_wp2_with fail
    refine M.out.mono ?_
    rintro e w1 ⟨rfl, m, rfl⟩
    go_wp2_with fail
    go_ret
    exact ⟨rfl, Z.out m⟩
  · have ht := may_time hm
    cases htr : thr L k
    · have hu := ins_upd (now := now) h.s htr
      have hl8 : (ins L k now).length ≤ 8 := by
        rw [hu.2, if_pos (thr_no h.s htr)]
        have hm2 := hm
        rw [may_new (thr_no h.s htr) ht] at hm2
        have := of_decide_eq_true hm2
        omega
      have hge : ∀ e ∈ ins L k now, 0 ≤ e.t ∧ e.t ≤ 1073741824 := fun e he => by
        have := lst_of (srt_ins (now := now) h.s htr).nd he
        rw [hu.1] at this
        by_cases e1 : k = e.k
        · rw [if_pos e1] at this
          obtain rfl := Option.some.inj this
          exact ht
        · rw [if_neg e1] at this
          obtain ⟨y, hy, -, hyt⟩ := lst_some this
          rw [← hyt]; exact h.ge y hy
      have hnn : ins L k now = [] → False := fun e => by unfold ins at e; simp at e
      have E : ∀ w', (∃ v', XNw B w w' x gap v (ins L k now) v') → ∃ v' L', Xs B w' x gap v' L' ∧ Far (SI x v) w w' ∧ (∀ k, v'.ownBlock = some k → v.ownBlock = some k ∨ w.heap.size ≤ k) ∧ Asked true k now L L' := fun w' ⟨v', n⟩ => ⟨v', _, ⟨n.r, srt_ins h.s htr, hl8, hge, h.gp, fun e => (hnn e).elim⟩, n.far, n.nb, asked_yes hu⟩
      by_cases hn : L = []
      · subst hn
        exact (xask_nil h.r (h.nl rfl) hB h.gp hm).mono fun e w' ⟨he, z⟩ => ⟨he, E w' z⟩
      · exact (xask_new h.r hB h.s h.le (List.length_pos_iff.2 hn) h.ge h.gp hm htr).mono fun e w' ⟨he, z⟩ => ⟨he, E w' z⟩
    · obtain ⟨e, he, hk, hl⟩ := thr_yes h.s htr
      refine (xask_there h.r h.s h.le h.ge h.gp hm he hk htr).mono ?_
      rintro y w' ⟨hy, v', n⟩
      have hu := set_upd h.s he now
      rw [hk] at hu
      refine ⟨hy, v', _, ⟨n.r, srt_set h.s he now, by simpa using h.le, fun y hy => ?_, h.gp, fun e2 => ?_⟩, n.far, n.nb, asked_yes (by rw [hk]; exact hu)⟩
      · rcases List.mem_or_eq_of_mem_set hy with hy | rfl
        · exact h.ge y hy
        · exact ht
      · have h0 : L.length = 0 := by have := congrArg List.length e2; simpa using this
        have := (List.getElem?_eq_some_iff.1 he).1
        omega
end
end Go.Proofs.Ytoijdmchkjmpgaa.Rte
