/-
  LAYER 23: the document's Send.
-/
import Derived.Test.YtcjoemejoeekiaaNa
namespace Go.Proofs.Ytcjoemejoeekiaa.Fli
open Go.RowKit Que Hp Ids
theorem sub_len : ∀ {l1 l2 : List Int}, l1.Nodup → (∀ x ∈ l1, x ∈ l2) → l1.length ≤ l2.length := by
  intro l1
  induction l1 with
  | nil => intro l2 _ _; simp
  | cons a l ih =>
    intro l2 hn h
    rw [List.nodup_cons] at hn
    have ha : a ∈ l2 := h a (by simp)
    have := ih (l2 := l2.erase a) hn.2 (fun x hx => (List.mem_erase_of_ne (fun e => hn.1 (by rw [← e]; exact hx))).2 (h x (List.mem_cons_of_mem _ hx)))
    rw [List.length_erase_of_mem ha] at this
    have := List.length_pos_of_mem ha
    simp; omega
/-- The numbers that are taken. -/
def tkn (T : List Bool) : List Int := ((List.range T.length).filter fun j : Nat => T.getD j false).map fun j : Nat => (j : Int) + 1
theorem tkn_len (T : List Bool) : (tkn T).length = trues T := by
  have : ∀ n, n ≤ T.length → ((List.range n).filter fun j => T.getD j false).length = trues (T.take n) := by
    intro n
    induction n with
    | zero => intro _; simp [trues]
    | succ n ih =>
      intro hn
      have hg : T.getD n false = T[n]'(by omega) := by simp [List.getD_eq_getElem?_getD, show n < T.length by omega]
      rw [List.range_succ, List.filter_append, List.length_append, ih (by omega), List.take_succ_eq_append_getElem (by omega)]
      unfold trues
      rw [List.count_append]
      congr 1
      simp only [List.filter_cons, List.filter_nil, hg]
      cases T[n]'(by omega) <;> simp
  unfold tkn
  rw [List.length_map, this _ (Nat.le_refl _), List.take_length]
section
variable {A : Nat → Prop} {w w' : World} {f g x : Nat} {T : List Bool} {L : List Se} {v : Value} {B : Nat}
/-- A number is taken just if one has it. -/
theorem Fs.iff (h : Fs A w f g T L) (j : Nat) : T.getD j false = true ↔ ∃ e ∈ L, e.i = (j : Int) + 1 := by
  have hnd : (L.map Se.i).Nodup := List.pairwise_map.2 h.nd
  constructor
  · intro hj
    apply Classical.byContradiction
    intro hno
    have hjl : j < T.length := by
      rcases Nat.lt_or_ge j T.length with h | h
      · exact h
      · rw [List.getD_eq_getElem?_getD, List.getElem?_eq_none h] at hj; simp at hj
    have hlen := sub_len (l1 := ((j : Int) + 1) :: L.map Se.i) (l2 := tkn T) (by
      rw [List.nodup_cons]
      exact ⟨fun hm => by obtain ⟨e, he, hi⟩ := List.mem_map.1 hm; exact hno ⟨e, he, hi⟩, hnd⟩) (fun y hy => by
      have hin : ∀ q : Nat, T.getD q false = true → ((q : Int) + 1) ∈ tkn T := fun q hq => by
        refine List.mem_map.2 ⟨q, List.mem_filter.2 ⟨List.mem_range.2 ?_, hq⟩, rfl⟩
        rcases Nat.lt_or_ge q T.length with h | h
        · exact h
        · rw [List.getD_eq_getElem?_getD, List.getElem?_eq_none h] at hq; simp at hq
      rcases List.mem_cons.1 hy with rfl | hy
      · exact hin j hj
      · obtain ⟨e, he, rfl⟩ := List.mem_map.1 hy
        obtain ⟨q, hq, ht⟩ := h.ids e he
        rw [hq]
        exact hin q ht)
    rw [tkn_len, h.tr] at hlen
    simp at hlen
    omega
  · rintro ⟨e, he, hi⟩
    obtain ⟨q, hq, ht⟩ := h.ids e he
    obtain rfl : q = j := by omega
    exact ht
theorem nxt_lo (T : List Bool) {j : Nat} (h : j < nxt T) : T.getD j false = true := by
  unfold nxt at h
  have := List.not_of_lt_findIdx (xs := T) (p := fun b => !b) (i := j) h
  have hl : T.findIdx (fun b => !b) ≤ T.length := List.findIdx_le_length
  rw [List.getD_eq_getElem?_getD, List.getElem?_eq_getElem (by omega)]
  simpa using this
theorem nxt_hit (T : List Bool) : T.getD (nxt T) false = false := by
  rw [List.getD_eq_getElem?_getD]
  cases h : T[nxt T]? with
  | none => rfl
  | some b =>
    obtain ⟨hl, he⟩ := List.getElem?_eq_some_iff.1 h
    have := List.findIdx_getElem (xs := T) (p := fun b => !b) (w := hl)
    unfold nxt at he
    rw [he] at this
    simpa using this
theorem xsend_end {Wx w1 : World} {e : Se} {gg cap : Nat} (h : Xf B w x v L) (hB : B ≤ w.heap.size) (hx : Below w.heap.size w Wx) (hgrow : Wx.grownBy w1 v.ownBlock)
    (hown1 : w1.ownsRow B 70 6 (.slice (some ⟨gg, 0, none⟩) (L.length + 1) cap) (L.length + 1) (seC L ++ e.cells)) (hat : v.ownBlock = some gg ∨ w.heap.size ≤ gg) :
    XN B w (w1.setCell ⟨x, 0, none⟩ (.slice (some ⟨gg, 0, none⟩) (L.length + 1) cap)) x v (L ++ [e]) (.slice (some ⟨gg, 0, none⟩) (L.length + 1) cap) := by
  have Rx := (hx.block x h.lt).trans h.row
  have hne := own_far h.its h.row (by decide : (62 : TypeId) ≠ 70)
  have R1 := (hgrow.block x (Nat.lt_of_lt_of_le h.lt hx.size) hne).trans Rx
  have GG : w1.grownBy (w1.setCell ⟨x, 0, none⟩ (.slice (some ⟨gg, 0, none⟩) (L.length + 1) cap)) (some x) := set_grownX
  refine ⟨⟨by simpa using setXf R1 (j := 0) (.slice (some ⟨gg, 0, none⟩) (L.length + 1) cap), ?_⟩, ?_, fun k hk => ?_⟩
  · have := own_grown hown1 R1 (by decide) GG
    rw [seC_snoc]
    simpa using this
  · exact ((Far.of_ext hx).trans (Far.of_grown (S := fun k => k = x ∨ v.ownBlock = some k) hgrow (fun k _ e => .inr e)) (fun k _ h => h)).trans (Far.of_grown (S := fun k => k = x ∨ v.ownBlock = some k) GG (fun k _ e => .inl (by simpa using e.symm))) (fun k _ h => h)
  · obtain rfl : gg = k := by simpa [Value.ownBlock] using hk
    exact hat
set_option maxHeartbeats 4000000 in
set_option maxRecDepth 100000 in
theorem xsend_flags (h : Xf B w x v L) (t y : ByteArray) (q : Int) (r : Bool) (hq : q ≠ 1 ∧ q ≠ 2) : Calls Try.prog 48 #[.pointer (some ⟨x, 0, none⟩), .agg #[.string t, .string y, .int .i64 q, .bool r]] w fun e w' => e = .returned (.tuple #[.int .i64 0, .int .i64 10]) ∧ Below w.heap.size w w' := by
  have hb := Lib.hid (ext_alloc w (.cells #[.string t, .string y, .int .i64 q, .bool r] 65))
  have q1 : (q != 1) = true := by simpa using hq.1
  have q2 : (q != 2) = true := by simpa using hq.2
  clear h hq
  go_enter Try.func48, Try.ntmps48
  go_wp2
  go_ret2
  exact ⟨rfl, hb.out⟩
set_option maxHeartbeats 4000000 in
set_option maxRecDepth 100000 in
theorem xsend_full (h : Xf B w x v L) (t y : ByteArray) (q : Int) (r : Bool) (hq : q = 1 ∨ q = 2) (hL : L.length = 8) : Calls Try.prog 48 #[.pointer (some ⟨x, 0, none⟩), .agg #[.string t, .string y, .int .i64 q, .bool r]] w fun e w' => e = .returned (.tuple #[.int .i64 0, .int .i64 6]) ∧ Below w.heap.size w w' := by
  have hb := Lib.hid (ext_alloc w (.cells #[.string t, .string y, .int .i64 q, .bool r] 65))
  have c0 := h.c0
  have xlt := h.lt
  obtain ⟨a, c, rfl⟩ := own_slice h.its
  rw [hL] at c0
  clear h
  rcases hq with rfl | rfl
  all_goals
    go_enter Try.func48, Try.ntmps48
    go_wp2
    go_ret2
    exact ⟨rfl, hb.out⟩
set_option maxHeartbeats 8000000 in
set_option maxRecDepth 100000 in
theorem xsend_ok1 (h : Xf B w x v L) (hB : B ≤ w.heap.size) (t y : ByteArray) (r : Bool) (hL : L.length < 8) (hT : ∀ j : Nat, T.getD j false = true ↔ ∃ e ∈ L, e.i = (j : Int) + 1) (hn8 : nxt T ≤ 8) : Calls Try.prog 48 #[.pointer (some ⟨x, 0, none⟩), .agg #[.string t, .string y, .int .i64 1, .bool r]] w fun e w' => e = .returned (.tuple #[.int .i64 ((nxt T : Int) + 1), .int .i64 0]) ∧ ∃ v', XN B w w' x v (L ++ [⟨(nxt T : Int) + 1, 1, t, y, 1, r⟩]) v' := by
  obtain ⟨i3, hi3, hz0, hz1, hz2⟩ := info_parts info70
  have hb := ext_alloc w (.cells #[.string t, .string y, .int .i64 1, .bool r] 65)
  have hX := h.keep hb
  have H := Lib.hid h
  have hrow : (w.alloc (.cells #[.string t, .string y, .int .i64 1, .bool r] 65)).heap[w.heap.size]? = some (.cells #[.string t, .string y, .int .i64 1, .bool r] 65 (0, 0)) := heap_alloc_new w _
  have b0 := cell_of_row _ w.heap.size 0 _ 65 (0, 0) hrow
  have b1 := cell_of_row _ w.heap.size 1 _ 65 (0, 0) hrow
  have b2 := cell_of_row _ w.heap.size 2 _ 65 (0, 0) hrow
  have b3 := cell_of_row _ w.heap.size 3 _ 65 (0, 0) hrow
  simp only [List.getElem?_toArray, List.getElem?_cons_zero, List.getElem?_cons_succ] at b0 b1 b2 b3
  have hb' := Lib.hid hb
  have c0' := h.c0
  clear hb hrow
  obtain ⟨a, c, rfl⟩ := own_slice h.its
  have hL' : (L.length : Int) < 8 := by omega
  have xlt := h.lt
  have FD : Hid (∀ j : Nat, j < nxt T → 0 ≤ fiS L ((j : Int) + 1)) := Lib.hid fun j hj => by
    obtain ⟨e, he, hi⟩ := (hT j).1 (nxt_lo T hj)
    have : ¬ ixS L ((j : Int) + 1) = L.length := fun e2 => by
      obtain ⟨q, hq⟩ := List.mem_iff_getElem?.1 he
      exact ixS_lo (L := L) (id := (j : Int) + 1) (j := q) (by rw [e2]; exact (List.getElem?_eq_some_iff.1 hq).1) hq hi
    have hle : ixS L ((j : Int) + 1) ≤ L.length := List.findIdx_le_length
    unfold fiS
    rw [if_pos (by omega)]
    omega
  have FN : fiS L ((nxt T : Int) + 1) = -1 := fiS_none fun e he hi => by
    have := (hT (nxt T)).2 ⟨e, he, hi⟩
    rw [nxt_hit] at this
    cases this
  clear hT
  generalize nxt T = N at *
  go_enter Try.func48, Try.ntmps48
  go_wp2_with fail
  generalize w.alloc (.cells #[.string t, .string y, .int .i64 1, .bool r] 65) = W at *
  have szw := hb'.out.size
  have xltW : x < W.heap.size := Nat.lt_of_lt_of_le xlt szw
  have F := Lib.hid (fun id => xfind_any hX (by omega) id)
  have c0 := hX.c0
  have f0 := hX.fz 0
  have KB : Hid (∀ W' : World, Below W.heap.size W W' → W'.ownsRow B 70 6 (.slice a L.length c) L.length (seC L)) := Lib.hid fun W' hW => own_keep hX.its hW
  have far : (Value.slice a L.length c).ownBlock ≠ some x := Ne.symm (own_far hX.its hX.row (by decide))
  have KN : Hid (∀ W' : World, W'.heap[W.heap.size]? = some (.cells #[.int .i64 ((N : Int) + 1), .int .i64 1, .string t, .string y, .int .i64 1, .bool r] 70 (0, 0)) → ∀ j u, (Se.cells ⟨(N : Int) + 1, 1, t, y, 1, r⟩)[j]? = some u → W'.cell? ((⟨W.heap.size, 0, none⟩ : Addr).add j) = some u) := Lib.hid (by
    intro W' hW' j u hj
    have := cell_of_row W' W.heap.size j _ 70 (0, 0) hW'
    rw [add_off', Nat.zero_add, this, ← hj]
    simp [Se.cells])
  replace FN := Lib.hid FN
  clear hX h c0'
  have hN8 : (N : Int) ≤ 8 := by omega
  go_loopw [6] (fun iv wr => ∃ j : Nat, iv = .int .i64 ((j : Int) + 1) ∧ j ≤ N ∧ W = wr) (fun iv _ => 20 - (intOf iv).toNat)
  case atStart => exact ⟨0, rfl, by omega, rfl⟩
  case round =>
    obtain ⟨j, rfl, hj, rfl⟩ := hrel
    by_cases hjn : j < N
    · have Fj := Lib.hid (F.out ((j : Int) + 1))
      have hp := FD.out j hjn
      generalize fiS L ((j : Int) + 1) = z at *
      go_wp2_with fail
      refine Fj.out.mono ?_
      rintro e w1 ⟨rfl, rfl⟩
      go_wp2_with fail
      go_roundw
      case rel => exact ⟨j + 1, by simp, by omega, trivial⟩
      case measure => simp [intOf]; omega
    · obtain rfl : N = j := by omega
      have Fj := F.out ((N : Int) + 1)
      rw [FN.out] at Fj
      replace Fj := Lib.hid Fj
      clear hjn hj FD F
      go_wp2_with fail
      refine Fj.out.mono ?_
      rintro e w1 ⟨rfl, rfl⟩
      go_wp2_with fail
      go_region_law (go_must (refine step_append_lies _ rfl (.tmp 35) (.tmp 40) 60 rfl B 70 i3 zS 6 64 Try.underlying60 hi3 hz0 hz1 hz2 rfl (by decide) (.slice a L.length c) L.length (seC L) rfl (KB.out _ (by first | exact ext_alloc W _ | exact ext_trans (ext_alloc W _) (ext_drew _) | exact ext_trans (ext_drew W) (ext_alloc W.drew _))) ⟨W.heap.size, 0, none⟩ 1 1 (Se.cells ⟨(N : Int) + 1, 1, t, y, 1, r⟩) rfl rfl (KN.out _ (by first | exact heap_alloc_new W _ | exact heap_alloc_new W.drew _)) (by intro u hu; simp [Se.cells] at hu; rcases hu with rfl | rfl | rfl | rfl | rfl | rfl <;> rfl) (by decide) (by unfold maxLen; omega) (by omega) (by simp; omega) (W.heap.size + 1) (by simp) ?_); intro gg cap w3 hown1 hgrow hat hlt1; have hc1 := (hgrow.cell_far ⟨x, 0, none⟩ (by simp; omega) (Ne.symm far)); have hf1 := (hgrow.frozen_far ⟨x, 0, none⟩ (by simp; omega) (Ne.symm far)); replace hat := Lib.hid hat; replace hgrow := Lib.hid hgrow; replace hown1 := Lib.hid hown1)
      all_goals go_wp2
      all_goals go_ret2
      all_goals exact ⟨rfl, _, xsend_end H.out hB (by first | exact ext_trans hb'.out (ext_trans (ext_alloc W _) (ext_drew _)) | exact ext_trans hb'.out (ext_alloc W _) | exact ext_trans hb'.out (ext_trans (ext_drew W) (ext_alloc W.drew _))) hgrow.out hown1.out (hat.out.imp id (fun h => by have := hb'.out.size; omega))⟩
set_option maxHeartbeats 8000000 in
set_option maxRecDepth 100000 in
theorem xsend_ok2 (h : Xf B w x v L) (hB : B ≤ w.heap.size) (t y : ByteArray) (r : Bool) (hL : L.length < 8) (hT : ∀ j : Nat, T.getD j false = true ↔ ∃ e ∈ L, e.i = (j : Int) + 1) (hn8 : nxt T ≤ 8) : Calls Try.prog 48 #[.pointer (some ⟨x, 0, none⟩), .agg #[.string t, .string y, .int .i64 2, .bool r]] w fun e w' => e = .returned (.tuple #[.int .i64 ((nxt T : Int) + 1), .int .i64 0]) ∧ ∃ v', XN B w w' x v (L ++ [⟨(nxt T : Int) + 1, 2, t, y, 2, r⟩]) v' := by
  obtain ⟨i3, hi3, hz0, hz1, hz2⟩ := info_parts info70
  have hb := ext_alloc w (.cells #[.string t, .string y, .int .i64 2, .bool r] 65)
  have hX := h.keep hb
  have H := Lib.hid h
  have hrow : (w.alloc (.cells #[.string t, .string y, .int .i64 2, .bool r] 65)).heap[w.heap.size]? = some (.cells #[.string t, .string y, .int .i64 2, .bool r] 65 (0, 0)) := heap_alloc_new w _
  have b0 := cell_of_row _ w.heap.size 0 _ 65 (0, 0) hrow
  have b1 := cell_of_row _ w.heap.size 1 _ 65 (0, 0) hrow
  have b2 := cell_of_row _ w.heap.size 2 _ 65 (0, 0) hrow
  have b3 := cell_of_row _ w.heap.size 3 _ 65 (0, 0) hrow
  simp only [List.getElem?_toArray, List.getElem?_cons_zero, List.getElem?_cons_succ] at b0 b1 b2 b3
  have hb' := Lib.hid hb
  have c0' := h.c0
  clear hb hrow
  obtain ⟨a, c, rfl⟩ := own_slice h.its
  have hL' : (L.length : Int) < 8 := by omega
  have xlt := h.lt
  have FD : Hid (∀ j : Nat, j < nxt T → 0 ≤ fiS L ((j : Int) + 1)) := Lib.hid fun j hj => by
    obtain ⟨e, he, hi⟩ := (hT j).1 (nxt_lo T hj)
    have : ¬ ixS L ((j : Int) + 1) = L.length := fun e2 => by
      obtain ⟨q, hq⟩ := List.mem_iff_getElem?.1 he
      exact ixS_lo (L := L) (id := (j : Int) + 1) (j := q) (by rw [e2]; exact (List.getElem?_eq_some_iff.1 hq).1) hq hi
    have hle : ixS L ((j : Int) + 1) ≤ L.length := List.findIdx_le_length
    unfold fiS
    rw [if_pos (by omega)]
    omega
  have FN : fiS L ((nxt T : Int) + 1) = -1 := fiS_none fun e he hi => by
    have := (hT (nxt T)).2 ⟨e, he, hi⟩
    rw [nxt_hit] at this
    cases this
  clear hT
  generalize nxt T = N at *
  go_enter Try.func48, Try.ntmps48
  go_wp2_with fail
  generalize w.alloc (.cells #[.string t, .string y, .int .i64 2, .bool r] 65) = W at *
  have szw := hb'.out.size
  have xltW : x < W.heap.size := Nat.lt_of_lt_of_le xlt szw
  have F := Lib.hid (fun id => xfind_any hX (by omega) id)
  have c0 := hX.c0
  have f0 := hX.fz 0
  have KB : Hid (∀ W' : World, Below W.heap.size W W' → W'.ownsRow B 70 6 (.slice a L.length c) L.length (seC L)) := Lib.hid fun W' hW => own_keep hX.its hW
  have far : (Value.slice a L.length c).ownBlock ≠ some x := Ne.symm (own_far hX.its hX.row (by decide))
  have KN : Hid (∀ W' : World, W'.heap[W.heap.size]? = some (.cells #[.int .i64 ((N : Int) + 1), .int .i64 2, .string t, .string y, .int .i64 2, .bool r] 70 (0, 0)) → ∀ j u, (Se.cells ⟨(N : Int) + 1, 2, t, y, 2, r⟩)[j]? = some u → W'.cell? ((⟨W.heap.size, 0, none⟩ : Addr).add j) = some u) := Lib.hid (by
    intro W' hW' j u hj
    have := cell_of_row W' W.heap.size j _ 70 (0, 0) hW'
    rw [add_off', Nat.zero_add, this, ← hj]
    simp [Se.cells])
  replace FN := Lib.hid FN
  clear hX h c0'
  have hN8 : (N : Int) ≤ 8 := by omega
  go_loopw [6] (fun iv wr => ∃ j : Nat, iv = .int .i64 ((j : Int) + 1) ∧ j ≤ N ∧ W = wr) (fun iv _ => 20 - (intOf iv).toNat)
  case atStart => exact ⟨0, rfl, by omega, rfl⟩
  case round =>
    obtain ⟨j, rfl, hj, rfl⟩ := hrel
    by_cases hjn : j < N
    · have Fj := Lib.hid (F.out ((j : Int) + 1))
      have hp := FD.out j hjn
      generalize fiS L ((j : Int) + 1) = z at *
      go_wp2_with fail
      refine Fj.out.mono ?_
      rintro e w1 ⟨rfl, rfl⟩
      go_wp2_with fail
      go_roundw
      case rel => exact ⟨j + 1, by simp, by omega, trivial⟩
      case measure => simp [intOf]; omega
    · obtain rfl : N = j := by omega
      have Fj := F.out ((N : Int) + 1)
      rw [FN.out] at Fj
      replace Fj := Lib.hid Fj
      clear hjn hj FD F
      go_wp2_with fail
      refine Fj.out.mono ?_
      rintro e w1 ⟨rfl, rfl⟩
      go_wp2_with fail
      go_region_law (go_must (refine step_append_lies _ rfl (.tmp 35) (.tmp 40) 60 rfl B 70 i3 zS 6 64 Try.underlying60 hi3 hz0 hz1 hz2 rfl (by decide) (.slice a L.length c) L.length (seC L) rfl (KB.out _ (by first | exact ext_alloc W _ | exact ext_trans (ext_alloc W _) (ext_drew _) | exact ext_trans (ext_drew W) (ext_alloc W.drew _))) ⟨W.heap.size, 0, none⟩ 1 1 (Se.cells ⟨(N : Int) + 1, 2, t, y, 2, r⟩) rfl rfl (KN.out _ (by first | exact heap_alloc_new W _ | exact heap_alloc_new W.drew _)) (by intro u hu; simp [Se.cells] at hu; rcases hu with rfl | rfl | rfl | rfl | rfl | rfl <;> rfl) (by decide) (by unfold maxLen; omega) (by omega) (by simp; omega) (W.heap.size + 1) (by simp) ?_); intro gg cap w3 hown1 hgrow hat hlt1; have hc1 := (hgrow.cell_far ⟨x, 0, none⟩ (by simp; omega) (Ne.symm far)); have hf1 := (hgrow.frozen_far ⟨x, 0, none⟩ (by simp; omega) (Ne.symm far)); replace hat := Lib.hid hat; replace hgrow := Lib.hid hgrow; replace hown1 := Lib.hid hown1)
      all_goals go_wp2
      all_goals go_ret2
      all_goals exact ⟨rfl, _, xsend_end H.out hB (by first | exact ext_trans hb'.out (ext_trans (ext_alloc W _) (ext_drew _)) | exact ext_trans hb'.out (ext_alloc W _) | exact ext_trans hb'.out (ext_trans (ext_drew W) (ext_alloc W.drew _))) hgrow.out hown1.out (hat.out.imp id (fun h => by have := hb'.out.size; omega))⟩
end
end Go.Proofs.Ytcjoemejoeekiaa.Fli
