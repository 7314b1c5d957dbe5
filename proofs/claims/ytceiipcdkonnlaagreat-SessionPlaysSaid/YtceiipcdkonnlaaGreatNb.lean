/-
  LAYER 23: the document's flight: find, Rec.
-/
import Derived.Test.YtceiipcdkonnlaaGreatFk
namespace Go.Proofs.YtceiipcdkonnlaaGreat.Fli
set_option linter.unusedSimpArgs false
set_option linter.unusedVariables false
open Go.RowKit Que Hp Ids
/-- The document's flight in block x. -/
structure Xf (B : Nat) (w : World) (x : Nat) (v : Value) (L : List Se) : Prop where
  row : w.heap[x]? = some (.cells #[v] 57 (0, 0))
  its : w.ownsRow B 89 6 v L.length (seC L)
section
variable {B : Nat} {w w' : World} {x : Nat} {v : Value} {L : List Se}
theorem Xf.lt (h : Xf B w x v L) : x < w.heap.size := (Array.getElem?_eq_some_iff.1 h.row).1
theorem Xf.c0 (h : Xf B w x v L) : w.cell? ⟨x, 0, none⟩ = some v := cell_of_row w x 0 _ 57 (0, 0) h.row
theorem Xf.fz (h : Xf B w x v L) (j : Nat) : w.frozen? ⟨x, j, none⟩ = false := frozen_of_row w x j _ 57 h.row
theorem Xf.keep (h : Xf B w x v L) (hb : Below w.heap.size w w') : Xf B w' x v L := ⟨(hb.block x h.lt).trans h.row, own_keep h.its hb⟩
theorem Xf.far {S : Nat → Prop} (h : Xf B w x v L) (F : Far S w w') (h1 : ¬ S x) (h2 : ∀ k, v.ownBlock = some k → ¬ S k) : Xf B w' x v L :=
  ⟨(F.block x h.lt h1).trans h.row, own_fars h.its F h2⟩
theorem Xf.at (h : Xf B w x v L) {gb n cb : Nat} (hv : v = .slice (some ⟨gb, 0, none⟩) n cb) {k : Nat} {e : Se} (hk : L[k]? = some e) {j : Nat} (hj : j < 6) : w.cell? ⟨gb, k * 6 + j, none⟩ = e.cells[j]? := by
  subst hv
  have := seC_get L k e hk j hj
  obtain ⟨u, hu⟩ : ∃ u, e.cells[j]? = some u := ⟨_, List.getElem?_eq_getElem (by simp [Se.cells]; exact hj)⟩
  rw [hu] at this ⊢
  exact own_get h.its this
theorem Xf.fzr (h : Xf B w x v L) {gb cb n : Nat} (hv : v = .slice (some ⟨gb, 0, none⟩) n cb) (j : Nat) : w.frozen? ⟨gb, j, none⟩ = false := by
  have := h.its
  subst hv
  rcases this.2 with ⟨h, -⟩ | ⟨g', cap, cur, hv, hB, hcur, hn, hm, hs, ht⟩
  · cases h
  · simp only [Value.slice.injEq, Option.some.injEq, Addr.mk.injEq, and_true] at hv
    obtain ⟨rfl, -, -⟩ := hv
    exact frozen_of_row w gb j _ 89 hcur
/-- Where a number stands. -/
def ixS (L : List Se) (id : Int) : Nat := L.findIdx fun e => decide (e.i = id)
def fiS (L : List Se) (id : Int) : Int := if ixS L id < L.length then (ixS L id : Int) else -1
theorem ixS_lo {id : Int} {j : Nat} {e : Se} (h : j < ixS L id) (he : L[j]? = some e) : e.i ≠ id := by
  unfold ixS at h
  have := List.not_of_lt_findIdx (xs := L) (p := fun e : Se => decide (e.i = id)) (i := j) h
  rw [(List.getElem?_eq_some_iff.1 he).2] at this
  simpa using this
theorem ixS_hit {id : Int} {e : Se} (he : L[ixS L id]? = some e) : e.i = id := by
  have hj := (List.getElem?_eq_some_iff.1 he).1
  unfold ixS at hj he
  have := List.findIdx_getElem (xs := L) (p := fun e : Se => decide (e.i = id)) (w := hj)
  rw [(List.getElem?_eq_some_iff.1 he).2] at this
  simpa using this
theorem fiS_none {id : Int} (h : ∀ e ∈ L, e.i ≠ id) : fiS L id = -1 := by
  unfold fiS
  rw [if_neg fun hlt => h _ (List.getElem_mem hlt) (ixS_hit (List.getElem?_eq_getElem hlt))]
theorem fiS_some {q : Nat} {e : Se} (hn : L.Pairwise fun x y => x.i ≠ y.i) (he : L[q]? = some e) : fiS L e.i = (q : Int) ∧ ixS L e.i = q := by
  have hq := (List.getElem?_eq_some_iff.1 he).1
  have hpw := List.pairwise_iff_getElem.1 hn
  have hle : ixS L e.i ≤ q := by
    rcases Nat.lt_or_ge q (ixS L e.i) with h | h
    · exact absurd rfl (ixS_lo h he)
    · exact h
  have he2 : ixS L e.i = q := by
    rcases Nat.lt_or_eq_of_le hle with h | h
    · have h1 := ixS_hit (L := L) (id := e.i) (List.getElem?_eq_getElem (by omega))
      have h2 := hpw _ _ (by omega) hq h
      rw [(List.getElem?_eq_some_iff.1 he).2] at h2
      exact absurd h1 h2
    · exact h
  unfold fiS
  rw [he2, if_pos hq]
  exact ⟨rfl, rfl⟩
set_option maxHeartbeats 2000000 in
set_option maxRecDepth 100000 in
theorem xfind_any (h : Xf B w x v L) (hL : L.length ≤ 8) (id : Int) : Calls Tryz.prog 74 #[.pointer (some ⟨x, 0, none⟩), .int .i64 id] w fun e w' => e = .returned (.int .i64 (fiS L id)) ∧ w = w' := by
  have c0 := h.c0
  obtain ⟨a, c, hv⟩ := own_slice h.its
  rw [hv] at c0
  have hL' : (L.length : Int) ≤ 8 := by omega
  have hpl : ixS L id ≤ L.length := List.findIdx_le_length
  replace h := Lib.hid h
  replace hv := Lib.hid hv
  go_enter Tryz.func74, Tryz.ntmps74
  go_wp2_with fail
  go_loopw [5] (fun iv wr => ∃ i : Nat, iv = .int .i64 (i : Int) ∧ i ≤ ixS L id ∧ w = wr) (fun iv _ => L.length - (intOf iv).toNat)
  case atStart => exact ⟨0, rfl, by omega, rfl⟩
  case round =>
    obtain ⟨i, rfl, hi, rfl⟩ := hrel
    by_cases hlt : i < L.length
    · have hlt' : (i : Int) < (L.length : Int) := by omega
      obtain ⟨e, he⟩ : ∃ e, L[i]? = some e := ⟨_, List.getElem?_eq_getElem hlt⟩
      obtain ⟨gb, cb, hv2⟩ := own_slice' h.out.its (by omega)
      have q0 : w.cell? ⟨gb, i * 6, none⟩ = some (.int .i64 e.i) := h.out.at hv2 he (j := 0) (by omega)
      rw [hv.out] at hv2
      simp only [Value.slice.injEq] at hv2
      obtain ⟨rfl, -, rfl⟩ := hv2
      by_cases hq : i < ixS L id
      · have hl : (e.i == id) = false := by rw [beq_eq_false_iff_ne]; exact ixS_lo hq he
        replace he := Lib.hid he
        go_wp2_with fail
        go_roundw
        case rel => exact ⟨i + 1, by simp, by omega, trivial⟩
        case measure => simp [intOf]; omega
      · have hqe : ixS L id = i := by omega
        have hei : e.i = id := ixS_hit (by rw [hqe]; exact he)
        have hl : (e.i == id) = true := by simpa using hei
        have hf : fiS L id = (i : Int) := by unfold fiS; rw [hqe, if_pos hlt]
        replace he := Lib.hid he
        replace hf := Lib.hid hf
        clear hq hpl hi hqe hei
        go_wp2_with fail
        go_ret
        exact ⟨by rw [hf.out]; rfl, rfl⟩
    · have hqe : ixS L id = i := by omega
      have hf : fiS L id = -1 := by unfold fiS; rw [if_neg (by omega)]
      have hn' : ¬ (i : Int) < (L.length : Int) := by omega
      replace hf := Lib.hid hf
      clear hpl hi hlt hqe
      go_wp2_with fail
      go_ret
      exact ⟨by rw [hf.out]; rfl, rfl⟩
/-- The document's list is another; it stands in the same block or in a new one. -/
structure XN (B : Nat) (w w' : World) (x : Nat) (v : Value) (L : List Se) (v' : Value) : Prop where
  r : Xf B w' x v' L
  far : Far (fun k => k = x ∨ v.ownBlock = some k) w w'
  nb : ∀ k, v'.ownBlock = some k → v.ownBlock = some k ∨ w.heap.size ≤ k
theorem setXf {g j : Nat} {cs : Array Value} (h : w.heap[g]? = some (.cells cs 57 (0, 0))) (u : Value) : (w.setCell ⟨g, j, none⟩ u).heap[g]? = some (.cells (cs.setIfInBounds j u) 57 (0, 0)) :=
  heap_setCell_same w g j _ 57 u h
theorem Xf.storeS (h : Xf B w x v L) {gb cb : Nat} (hv : v = .slice (some ⟨gb, 0, none⟩) L.length cb) {k : Nat} {e : Se} (he : L[k]? = some e) (s : Int) : XN B w (w.setCell ⟨gb, k * 6 + 1, none⟩ (.int .i64 s)) x v (L.set k { e with s := s }) v := by
  subst hv
  have hne : x ≠ gb := fun e => own_far h.its h.row (by decide) (by rw [e]; rfl)
  refine ⟨⟨?_, ?_⟩, ⟨rfl, rfl, rfl, by simp [World.setCell], fun q _ hq => Below.heap_setCell _ _ _ _ (fun e => hq (by subst e; exact .inr rfl))⟩, fun k hk => .inl hk⟩
  · rw [Below.heap_setCell _ _ _ _ hne]; exact h.row
  · have := (h.its.stored (k * 6 + 1) (.int .i64 s)).1
    rw [seC_setS _ _ _ _ he] at this
    simpa using this
theorem xn_same (h : Xf B w x v L) : XN B w w x v L v := ⟨h, Far.refl _ w, fun _ hk => .inl hk⟩
/-- Rec. -/
def recL (L : List Se) (id : Int) : Bool × List Se := match L[ixS L id]? with
  | some e => if e.s = 1 then (false, L) else (true, L.set (ixS L id) { e with s := 3 })
  | none => (false, L)
set_option maxHeartbeats 2000000 in
set_option maxRecDepth 100000 in
theorem xrec_any (h : Xf B w x v L) (hL : L.length ≤ 8) (id : Int) : Calls Tryz.prog 52 #[.pointer (some ⟨x, 0, none⟩), .int .i64 id] w fun e w' => e = .returned (.bool (recL L id).1) ∧ ∃ v', XN B w w' x v (recL L id).2 v' := by
  have F := Lib.hid (xfind_any h hL id)
  have hL' : (L.length : Int) ≤ 8 := by omega
  unfold recL
  cases he : L[ixS L id]? with
  | none =>
    have hf : fiS L id = -1 := by unfold fiS; rw [if_neg (by rw [List.getElem?_eq_none_iff] at he; omega)]
    rw [hf] at F
    have Z := Lib.hid (xn_same h)
    clear h he hf
    go_enter Tryz.func52, Tryz.ntmps52
    go_wp2_with fail
    refine F.out.mono ?_
    rintro e w1 ⟨rfl, rfl⟩
    go_wp2
    go_ret
    exact ⟨rfl, v, Z.out⟩
  | some e =>
    have hlt := (List.getElem?_eq_some_iff.1 he).1
    have hf : fiS L id = (ixS L id : Int) := by unfold fiS; rw [if_pos hlt]
    rw [hf] at F
    obtain ⟨gb, cb, hv⟩ := own_slice' h.its (by omega)
    have c0 := h.c0
    rw [hv] at c0
    have q1 : w.cell? ⟨gb, ixS L id * 6 + 1, none⟩ = some (.int .i64 e.s) := h.at hv he (j := 1) (by omega)
    have fz := h.fzr hv (ixS L id * 6 + 1)
    have Z := Lib.hid (xn_same h)
    have Z2 := Lib.hid (h.storeS hv he 3)
    have hlt' : (ixS L id : Int) < (L.length : Int) := by omega
    generalize ixS L id = p at *
    have p0 : ¬ (p : Int) < 0 := by omega
    clear h he hf hv
    by_cases hs : e.s = 1
    · simp only [hs, if_true] at *
      go_enter Tryz.func52, Tryz.ntmps52
      go_wp2_with fail
      refine F.out.mono ?_
      rintro e w1 ⟨rfl, rfl⟩
      go_wp2
      go_ret
      exact ⟨rfl, v, Z.out⟩
    · have hsb : (e.s == 1) = false := by simpa using hs
      simp only [hs, if_false]
      go_enter Tryz.func52, Tryz.ntmps52
      go_wp2_with fail
      refine F.out.mono ?_
      rintro e w1 ⟨rfl, rfl⟩
      go_wp2
      go_ret
      exact ⟨rfl, v, Z2.out⟩
end
end Go.Proofs.YtceiipcdkonnlaaGreat.Fli

/-
  LAYER 23: the document's Send.
-/
namespace Go.Proofs.YtceiipcdkonnlaaGreat.Fli
set_option linter.unusedSimpArgs false
set_option linter.unusedVariables false
open Go.RowKit Que Hp Ids
theorem sub_len : ∀ {l1 l2 : List Int}, l1.Nodup → (∀ x ∈ l1, x ∈ l2) → l1.length ≤ l2.length := by
  intro l1
  induction l1 with
  | nil => intro l2 _ _; simp
  | cons a l ih =>
    intro l2 hn h
    rw [List.nodup_cons] at hn
    have ha : a ∈ l2 := h a (by simp)
    have := ih (l2 := l2.erase a) hn.2 (fun x hx => (List.mem_erase_of_ne (fun e => hn.1 (by rw [← e]; exact hx))).2 (h x (List.mem_cons_of_mem _ hx)))
    rw [List.length_erase_of_mem ha] at this
    have := List.length_pos_of_mem ha
    simp; omega
/-- The numbers that are taken. -/
def tkn (T : List Bool) : List Int := ((List.range T.length).filter fun j : Nat => T.getD j false).map fun j : Nat => (j : Int) + 1
theorem tkn_len (T : List Bool) : (tkn T).length = trues T := by
  have : ∀ n, n ≤ T.length → ((List.range n).filter fun j => T.getD j false).length = trues (T.take n) := by
    intro n
    induction n with
    | zero => intro _; simp [trues]
    | succ n ih =>
      intro hn
      have hg : T.getD n false = T[n]'(by omega) := by simp [List.getD_eq_getElem?_getD, show n < T.length by omega]
      rw [List.range_succ, List.filter_append, List.length_append, ih (by omega), List.take_succ_eq_append_getElem (by omega)]
      unfold trues
      rw [List.count_append]
      congr 1
      simp only [List.filter_cons, List.filter_nil, hg]
      cases T[n]'(by omega) <;> simp
  unfold tkn
  rw [List.length_map, this _ (Nat.le_refl _), List.take_length]
section
variable {A : Nat → Prop} {w w' : World} {f g x : Nat} {T : List Bool} {L : List Se} {v : Value} {B : Nat}
/-- A number is taken just if one has it. -/
theorem Fs.iff (h : Fs A w f g T L) (j : Nat) : T.getD j false = true ↔ ∃ e ∈ L, e.i = (j : Int) + 1 := by
  have hnd : (L.map Se.i).Nodup := List.pairwise_map.2 h.nd
  constructor
  · intro hj
    apply Classical.byContradiction
    intro hno
    have hjl : j < T.length := by
      rcases Nat.lt_or_ge j T.length with h | h
      · exact h
      · rw [List.getD_eq_getElem?_getD, List.getElem?_eq_none h] at hj; simp at hj
    have hlen := sub_len (l1 := ((j : Int) + 1) :: L.map Se.i) (l2 := tkn T) (by
      rw [List.nodup_cons]
      exact ⟨fun hm => by obtain ⟨e, he, hi⟩ := List.mem_map.1 hm; exact hno ⟨e, he, hi⟩, hnd⟩) (fun y hy => by
      have hin : ∀ q : Nat, T.getD q false = true → ((q : Int) + 1) ∈ tkn T := fun q hq => by
        refine List.mem_map.2 ⟨q, List.mem_filter.2 ⟨List.mem_range.2 ?_, hq⟩, rfl⟩
        rcases Nat.lt_or_ge q T.length with h | h
        · exact h
        · rw [List.getD_eq_getElem?_getD, List.getElem?_eq_none h] at hq; simp at hq
      rcases List.mem_cons.1 hy with rfl | hy
      · exact hin j hj
      · obtain ⟨e, he, rfl⟩ := List.mem_map.1 hy
        obtain ⟨q, hq, ht⟩ := h.ids e he
        rw [hq]
        exact hin q ht)
    rw [tkn_len, h.tr] at hlen
    simp at hlen
    omega
  · rintro ⟨e, he, hi⟩
    obtain ⟨q, hq, ht⟩ := h.ids e he
    obtain rfl : q = j := by omega
    exact ht
theorem nxt_lo (T : List Bool) {j : Nat} (h : j < nxt T) : T.getD j false = true := by
  unfold nxt at h
  have := List.not_of_lt_findIdx (xs := T) (p := fun b => !b) (i := j) h
  have hl : T.findIdx (fun b => !b) ≤ T.length := List.findIdx_le_length
  rw [List.getD_eq_getElem?_getD, List.getElem?_eq_getElem (by omega)]
  simpa using this
theorem nxt_hit (T : List Bool) : T.getD (nxt T) false = false := by
  rw [List.getD_eq_getElem?_getD]
  cases h : T[nxt T]? with
  | none => rfl
  | some b =>
    obtain ⟨hl, he⟩ := List.getElem?_eq_some_iff.1 h
    have := List.findIdx_getElem (xs := T) (p := fun b => !b) (w := hl)
    unfold nxt at he
    rw [he] at this
    simpa using this
theorem xsend_end {Wx w1 : World} {e : Se} {gg cap : Nat} (h : Xf B w x v L) (hB : B ≤ w.heap.size) (hx : Below w.heap.size w Wx) (hgrow : Wx.grownBy w1 v.ownBlock)
    (hown1 : w1.ownsRow B 89 6 (.slice (some ⟨gg, 0, none⟩) (L.length + 1) cap) (L.length + 1) (seC L ++ e.cells)) (hat : v.ownBlock = some gg ∨ w.heap.size ≤ gg) :
    XN B w (w1.setCell ⟨x, 0, none⟩ (.slice (some ⟨gg, 0, none⟩) (L.length + 1) cap)) x v (L ++ [e]) (.slice (some ⟨gg, 0, none⟩) (L.length + 1) cap) := by
  have Rx := (hx.block x h.lt).trans h.row
  have hne := own_far h.its h.row (by decide : (57 : TypeId) ≠ 89)
  have R1 := (hgrow.block x (Nat.lt_of_lt_of_le h.lt hx.size) hne).trans Rx
  have GG : w1.grownBy (w1.setCell ⟨x, 0, none⟩ (.slice (some ⟨gg, 0, none⟩) (L.length + 1) cap)) (some x) := set_grownX
  refine ⟨⟨by simpa using setXf R1 (j := 0) (.slice (some ⟨gg, 0, none⟩) (L.length + 1) cap), ?_⟩, ?_, fun k hk => ?_⟩
  · have := own_grown hown1 R1 (by decide) GG
    rw [seC_snoc]
    simpa using this
  · exact ((Far.of_ext hx).trans (Far.of_grown (S := fun k => k = x ∨ v.ownBlock = some k) hgrow (fun k _ e => .inr e)) (fun k _ h => h)).trans (Far.of_grown (S := fun k => k = x ∨ v.ownBlock = some k) GG (fun k _ e => .inl (by simpa using e.symm))) (fun k _ h => h)
  · obtain rfl : gg = k := by simpa [Value.ownBlock] using hk
    exact hat
set_option maxHeartbeats 4000000 in
set_option maxRecDepth 100000 in
theorem xsend_flags (h : Xf B w x v L) (t y : ByteArray) (q : Int) (r : Bool) (hq : q ≠ 1 ∧ q ≠ 2) : Calls Tryz.prog 68 #[.pointer (some ⟨x, 0, none⟩), .agg #[.string t, .string y, .int .i64 q, .bool r]] w fun e w' => e = .returned (.tuple #[.int .i64 0, .int .i64 10]) ∧ Below w.heap.size w w' := by
  have hb := Lib.hid (ext_alloc w (.cells #[.string t, .string y, .int .i64 q, .bool r] 33))
  have q1 : (q != 1) = true := by simpa using hq.1
  have q2 : (q != 2) = true := by simpa using hq.2
  clear h hq
  go_enter Tryz.func68, Tryz.ntmps68
  go_wp2
  go_ret2
  exact ⟨rfl, hb.out⟩
set_option maxHeartbeats 4000000 in
set_option maxRecDepth 100000 in
theorem xsend_full (h : Xf B w x v L) (t y : ByteArray) (q : Int) (r : Bool) (hq : q = 1 ∨ q = 2) (hL : L.length = 8) : Calls Tryz.prog 68 #[.pointer (some ⟨x, 0, none⟩), .agg #[.string t, .string y, .int .i64 q, .bool r]] w fun e w' => e = .returned (.tuple #[.int .i64 0, .int .i64 6]) ∧ Below w.heap.size w w' := by
  have hb := Lib.hid (ext_alloc w (.cells #[.string t, .string y, .int .i64 q, .bool r] 33))
  have c0 := h.c0
  have xlt := h.lt
  obtain ⟨a, c, rfl⟩ := own_slice h.its
  rw [hL] at c0
  clear h
  rcases hq with rfl | rfl
  all_goals
    go_enter Tryz.func68, Tryz.ntmps68
    go_wp2
    go_ret2
    exact ⟨rfl, hb.out⟩
set_option maxHeartbeats 8000000 in
set_option maxRecDepth 100000 in
theorem xsend_ok1 (h : Xf B w x v L) (hB : B ≤ w.heap.size) (t y : ByteArray) (r : Bool) (hL : L.length < 8) (hT : ∀ j : Nat, T.getD j false = true ↔ ∃ e ∈ L, e.i = (j : Int) + 1) (hn8 : nxt T ≤ 8) : Calls Tryz.prog 68 #[.pointer (some ⟨x, 0, none⟩), .agg #[.string t, .string y, .int .i64 1, .bool r]] w fun e w' => e = .returned (.tuple #[.int .i64 ((nxt T : Int) + 1), .int .i64 0]) ∧ ∃ v', XN B w w' x v (L ++ [⟨(nxt T : Int) + 1, 1, t, y, 1, r⟩]) v' := by
  obtain ⟨i3, hi3, hz0, hz1, hz2⟩ := info_parts info70
  have hb := ext_alloc w (.cells #[.string t, .string y, .int .i64 1, .bool r] 33)
  have hX := h.keep hb
  have H := Lib.hid h
  have hrow : (w.alloc (.cells #[.string t, .string y, .int .i64 1, .bool r] 33)).heap[w.heap.size]? = some (.cells #[.string t, .string y, .int .i64 1, .bool r] 33 (0, 0)) := heap_alloc_new w _
  have b0 := cell_of_row _ w.heap.size 0 _ 33 (0, 0) hrow
  have b1 := cell_of_row _ w.heap.size 1 _ 33 (0, 0) hrow
  have b2 := cell_of_row _ w.heap.size 2 _ 33 (0, 0) hrow
  have b3 := cell_of_row _ w.heap.size 3 _ 33 (0, 0) hrow
  simp only [List.getElem?_toArray, List.getElem?_cons_zero, List.getElem?_cons_succ] at b0 b1 b2 b3
  have hb' := Lib.hid hb
  have c0' := h.c0
  clear hb hrow
  obtain ⟨a, c, rfl⟩ := own_slice h.its
  have hL' : (L.length : Int) < 8 := by omega
  have xlt := h.lt
  have FD : Hid (∀ j : Nat, j < nxt T → 0 ≤ fiS L ((j : Int) + 1)) := Lib.hid fun j hj => by
    obtain ⟨e, he, hi⟩ := (hT j).1 (nxt_lo T hj)
    have : ¬ ixS L ((j : Int) + 1) = L.length := fun e2 => by
      obtain ⟨q, hq⟩ := List.mem_iff_getElem?.1 he
      exact ixS_lo (L := L) (id := (j : Int) + 1) (j := q) (by rw [e2]; exact (List.getElem?_eq_some_iff.1 hq).1) hq hi
    have hle : ixS L ((j : Int) + 1) ≤ L.length := List.findIdx_le_length
    unfold fiS
    rw [if_pos (by omega)]
    omega
  have FN : fiS L ((nxt T : Int) + 1) = -1 := fiS_none fun e he hi => by
    have := (hT (nxt T)).2 ⟨e, he, hi⟩
    rw [nxt_hit] at this
    cases this
  clear hT
  generalize nxt T = N at *
  go_enter Tryz.func68, Tryz.ntmps68
  go_wp2_with fail
  generalize w.alloc (.cells #[.string t, .string y, .int .i64 1, .bool r] 33) = W at *
  have szw := hb'.out.size
  have xltW : x < W.heap.size := Nat.lt_of_lt_of_le xlt szw
  have F := Lib.hid (fun id => xfind_any hX (by omega) id)
  have c0 := hX.c0
  have f0 := hX.fz 0
  have KB : Hid (∀ W' : World, Below W.heap.size W W' → W'.ownsRow B 89 6 (.slice a L.length c) L.length (seC L)) := Lib.hid fun W' hW => own_keep hX.its hW
  have far : (Value.slice a L.length c).ownBlock ≠ some x := Ne.symm (own_far hX.its hX.row (by decide))
  have KN : Hid (∀ W' : World, W'.heap[W.heap.size]? = some (.cells #[.int .i64 ((N : Int) + 1), .int .i64 1, .string t, .string y, .int .i64 1, .bool r] 89 (0, 0)) → ∀ j u, (Se.cells ⟨(N : Int) + 1, 1, t, y, 1, r⟩)[j]? = some u → W'.cell? ((⟨W.heap.size, 0, none⟩ : Addr).add j) = some u) := Lib.hid (by
    intro W' hW' j u hj
    have := cell_of_row W' W.heap.size j _ 89 (0, 0) hW'
    rw [add_off', Nat.zero_add, this, ← hj]
    simp [Se.cells])
  replace FN := Lib.hid FN
  clear hX h c0'
  have hN8 : (N : Int) ≤ 8 := by omega
  go_loopw [6] (fun iv wr => ∃ j : Nat, iv = .int .i64 ((j : Int) + 1) ∧ j ≤ N ∧ W = wr) (fun iv _ => 20 - (intOf iv).toNat)
  case atStart => exact ⟨0, rfl, by omega, rfl⟩
  case round =>
    obtain ⟨j, rfl, hj, rfl⟩ := hrel
    by_cases hjn : j < N
    · have Fj := Lib.hid (F.out ((j : Int) + 1))
      have hp := FD.out j hjn
      generalize fiS L ((j : Int) + 1) = z at *
      go_wp2_with fail
      refine Fj.out.mono ?_
      rintro e w1 ⟨rfl, rfl⟩
      go_wp2_with fail
      go_roundw
      case rel => exact ⟨j + 1, by simp, by omega, trivial⟩
      case measure => simp [intOf]; omega
    · obtain rfl : N = j := by omega
      have Fj := F.out ((N : Int) + 1)
      rw [FN.out] at Fj
      replace Fj := Lib.hid Fj
      clear hjn hj FD F
      go_wp2_with fail
      refine Fj.out.mono ?_
      rintro e w1 ⟨rfl, rfl⟩
      go_wp2_with fail
      go_region_law (go_must (refine step_append_lies _ rfl (.tmp 35) (.tmp 40) 55 rfl B 89 i3 zS 6 64 Tryz.underlying55 hi3 hz0 hz1 hz2 rfl (by decide) (.slice a L.length c) L.length (seC L) rfl (KB.out _ (by first | exact ext_alloc W _ | exact ext_trans (ext_alloc W _) (ext_drew _) | exact ext_trans (ext_drew W) (ext_alloc W.drew _))) ⟨W.heap.size, 0, none⟩ 1 1 (Se.cells ⟨(N : Int) + 1, 1, t, y, 1, r⟩) rfl rfl (KN.out _ (by first | exact heap_alloc_new W _ | exact heap_alloc_new W.drew _)) (by intro u hu; simp [Se.cells] at hu; rcases hu with rfl | rfl | rfl | rfl | rfl | rfl <;> rfl) (by decide) (by unfold maxLen; omega) (by omega) (by simp; omega) (W.heap.size + 1) (by simp) ?_); intro gg cap w3 hown1 hgrow hat hlt1; have hc1 := (hgrow.cell_far ⟨x, 0, none⟩ (by simp; omega) (Ne.symm far)); have hf1 := (hgrow.frozen_far ⟨x, 0, none⟩ (by simp; omega) (Ne.symm far)); replace hat := Lib.hid hat; replace hgrow := Lib.hid hgrow; replace hown1 := Lib.hid hown1)
      all_goals go_wp2
      all_goals go_ret2
      all_goals exact ⟨rfl, _, xsend_end H.out hB (by first | exact ext_trans hb'.out (ext_trans (ext_alloc W _) (ext_drew _)) | exact ext_trans hb'.out (ext_alloc W _) | exact ext_trans hb'.out (ext_trans (ext_drew W) (ext_alloc W.drew _))) hgrow.out hown1.out (hat.out.imp id (fun h => by have := hb'.out.size; omega))⟩
set_option maxHeartbeats 8000000 in
set_option maxRecDepth 100000 in
theorem xsend_ok2 (h : Xf B w x v L) (hB : B ≤ w.heap.size) (t y : ByteArray) (r : Bool) (hL : L.length < 8) (hT : ∀ j : Nat, T.getD j false = true ↔ ∃ e ∈ L, e.i = (j : Int) + 1) (hn8 : nxt T ≤ 8) : Calls Tryz.prog 68 #[.pointer (some ⟨x, 0, none⟩), .agg #[.string t, .string y, .int .i64 2, .bool r]] w fun e w' => e = .returned (.tuple #[.int .i64 ((nxt T : Int) + 1), .int .i64 0]) ∧ ∃ v', XN B w w' x v (L ++ [⟨(nxt T : Int) + 1, 2, t, y, 2, r⟩]) v' := by
  obtain ⟨i3, hi3, hz0, hz1, hz2⟩ := info_parts info70
  have hb := ext_alloc w (.cells #[.string t, .string y, .int .i64 2, .bool r] 33)
  have hX := h.keep hb
  have H := Lib.hid h
  have hrow : (w.alloc (.cells #[.string t, .string y, .int .i64 2, .bool r] 33)).heap[w.heap.size]? = some (.cells #[.string t, .string y, .int .i64 2, .bool r] 33 (0, 0)) := heap_alloc_new w _
  have b0 := cell_of_row _ w.heap.size 0 _ 33 (0, 0) hrow
  have b1 := cell_of_row _ w.heap.size 1 _ 33 (0, 0) hrow
  have b2 := cell_of_row _ w.heap.size 2 _ 33 (0, 0) hrow
  have b3 := cell_of_row _ w.heap.size 3 _ 33 (0, 0) hrow
  simp only [List.getElem?_toArray, List.getElem?_cons_zero, List.getElem?_cons_succ] at b0 b1 b2 b3
  have hb' := Lib.hid hb
  have c0' := h.c0
  clear hb hrow
  obtain ⟨a, c, rfl⟩ := own_slice h.its
  have hL' : (L.length : Int) < 8 := by omega
  have xlt := h.lt
  have FD : Hid (∀ j : Nat, j < nxt T → 0 ≤ fiS L ((j : Int) + 1)) := Lib.hid fun j hj => by
    obtain ⟨e, he, hi⟩ := (hT j).1 (nxt_lo T hj)
    have : ¬ ixS L ((j : Int) + 1) = L.length := fun e2 => by
      obtain ⟨q, hq⟩ := List.mem_iff_getElem?.1 he
      exact ixS_lo (L := L) (id := (j : Int) + 1) (j := q) (by rw [e2]; exact (List.getElem?_eq_some_iff.1 hq).1) hq hi
    have hle : ixS L ((j : Int) + 1) ≤ L.length := List.findIdx_le_length
    unfold fiS
    rw [if_pos (by omega)]
    omega
  have FN : fiS L ((nxt T : Int) + 1) = -1 := fiS_none fun e he hi => by
    have := (hT (nxt T)).2 ⟨e, he, hi⟩
    rw [nxt_hit] at this
    cases this
  clear hT
  generalize nxt T = N at *
  go_enter Tryz.func68, Tryz.ntmps68
  go_wp2_with fail
  generalize w.alloc (.cells #[.string t, .string y, .int .i64 2, .bool r] 33) = W at *
  have szw := hb'.out.size
  have xltW : x < W.heap.size := Nat.lt_of_lt_of_le xlt szw
  have F := Lib.hid (fun id => xfind_any hX (by omega) id)
  have c0 := hX.c0
  have f0 := hX.fz 0
  have KB : Hid (∀ W' : World, Below W.heap.size W W' → W'.ownsRow B 89 6 (.slice a L.length c) L.length (seC L)) := Lib.hid fun W' hW => own_keep hX.its hW
  have far : (Value.slice a L.length c).ownBlock ≠ some x := Ne.symm (own_far hX.its hX.row (by decide))
  have KN : Hid (∀ W' : World, W'.heap[W.heap.size]? = some (.cells #[.int .i64 ((N : Int) + 1), .int .i64 2, .string t, .string y, .int .i64 2, .bool r] 89 (0, 0)) → ∀ j u, (Se.cells ⟨(N : Int) + 1, 2, t, y, 2, r⟩)[j]? = some u → W'.cell? ((⟨W.heap.size, 0, none⟩ : Addr).add j) = some u) := Lib.hid (by
    intro W' hW' j u hj
    have := cell_of_row W' W.heap.size j _ 89 (0, 0) hW'
    rw [add_off', Nat.zero_add, this, ← hj]
    simp [Se.cells])
  replace FN := Lib.hid FN
  clear hX h c0'
  have hN8 : (N : Int) ≤ 8 := by omega
  go_loopw [6] (fun iv wr => ∃ j : Nat, iv = .int .i64 ((j : Int) + 1) ∧ j ≤ N ∧ W = wr) (fun iv _ => 20 - (intOf iv).toNat)
  case atStart => exact ⟨0, rfl, by omega, rfl⟩
  case round =>
    obtain ⟨j, rfl, hj, rfl⟩ := hrel
    by_cases hjn : j < N
    · have Fj := Lib.hid (F.out ((j : Int) + 1))
      have hp := FD.out j hjn
      generalize fiS L ((j : Int) + 1) = z at *
      go_wp2_with fail
      refine Fj.out.mono ?_
      rintro e w1 ⟨rfl, rfl⟩
      go_wp2_with fail
      go_roundw
      case rel => exact ⟨j + 1, by simp, by omega, trivial⟩
      case measure => simp [intOf]; omega
    · obtain rfl : N = j := by omega
      have Fj := F.out ((N : Int) + 1)
      rw [FN.out] at Fj
      replace Fj := Lib.hid Fj
      clear hjn hj FD F
      go_wp2_with fail
      refine Fj.out.mono ?_
      rintro e w1 ⟨rfl, rfl⟩
      go_wp2_with fail
      go_region_law (go_must (refine step_append_lies _ rfl (.tmp 35) (.tmp 40) 55 rfl B 89 i3 zS 6 64 Tryz.underlying55 hi3 hz0 hz1 hz2 rfl (by decide) (.slice a L.length c) L.length (seC L) rfl (KB.out _ (by first | exact ext_alloc W _ | exact ext_trans (ext_alloc W _) (ext_drew _) | exact ext_trans (ext_drew W) (ext_alloc W.drew _))) ⟨W.heap.size, 0, none⟩ 1 1 (Se.cells ⟨(N : Int) + 1, 2, t, y, 2, r⟩) rfl rfl (KN.out _ (by first | exact heap_alloc_new W _ | exact heap_alloc_new W.drew _)) (by intro u hu; simp [Se.cells] at hu; rcases hu with rfl | rfl | rfl | rfl | rfl | rfl <;> rfl) (by decide) (by unfold maxLen; omega) (by omega) (by simp; omega) (W.heap.size + 1) (by simp) ?_); intro gg cap w3 hown1 hgrow hat hlt1; have hc1 := (hgrow.cell_far ⟨x, 0, none⟩ (by simp; omega) (Ne.symm far)); have hf1 := (hgrow.frozen_far ⟨x, 0, none⟩ (by simp; omega) (Ne.symm far)); replace hat := Lib.hid hat; replace hgrow := Lib.hid hgrow; replace hown1 := Lib.hid hown1)
      all_goals go_wp2
      all_goals go_ret2
      all_goals exact ⟨rfl, _, xsend_end H.out hB (by first | exact ext_trans hb'.out (ext_trans (ext_alloc W _) (ext_drew _)) | exact ext_trans hb'.out (ext_alloc W _) | exact ext_trans hb'.out (ext_trans (ext_drew W) (ext_alloc W.drew _))) hgrow.out hown1.out (hat.out.imp id (fun h => by have := hb'.out.size; omega))⟩
end
end Go.Proofs.YtceiipcdkonnlaaGreat.Fli
