/-
  LAYER 12: what waits: an owned row of bytes, or a full slice within one; append of a string to it; what a head reads as.
-/
import Derived.Test.YtceiipcdkonnlaaDoorFr
import Derived.Test.YtceiipcdkonnlaaDoorApp
import Derived.Test.YtceiipcdkonnlaaDoorRd
import Derived.Lib.AppendStr
namespace Go.Proofs.YtceiipcdkonnlaaDoor
open Go.RowKit
set_option linter.unusedVariables false
set_option linter.unusedSimpArgs false
theorem strCells_bl (s : ByteArray) : Lib.strCells s = bl (s.data.toList.map UInt8.toNat) := by
  unfold Lib.strCells bl
  rw [List.map_map]
  rfl
/-- A string's bytes as numbers. -/
def nb (s : ByteArray) : List Nat := s.data.toList.map UInt8.toNat
theorem nb_length (s : ByteArray) : (nb s).length = s.size := by
  rw [nb, List.length_map, Array.length_toList]
  rfl
theorem nb_lt (s : ByteArray) : ∀ x ∈ nb s, x < 256 := by
  intro x hx
  simp only [nb, List.mem_map] at hx
  obtain ⟨b, -, rfl⟩ := hx
  exact b.toNat_lt
theorem strB_nb (s : ByteArray) : strB (nb s) = s := by
  have : (nb s).map UInt8.ofNat = s.data.toList := by
    simp only [nb, List.map_map]
    conv => rhs; rw [← List.map_id s.data.toList]
    apply List.map_congr_left
    intro x _
    simp
  unfold strB
  rw [this]
theorem nb_strB (l : List Nat) (h : ∀ x ∈ l, x < 256) : nb (strB l) = l := by
  simp only [nb, strB, List.map_map]
  conv => rhs; rw [← List.map_id l]
  apply List.map_congr_left
  intro x hx
  have := h x hx
  simp; omega
/-- What waits: an owned row, or a full slice within a row of bytes. -/
def Wt (w : World) (B : Nat) (v : Value) (l : List Nat) : Prop :=
  w.ownsRow B 5 1 v l.length (bl l) ∨ ∃ b o cur, v = .slice (some ⟨b, o, none⟩) l.length l.length ∧ B ≤ b ∧ w.heap[b]? = some (.cells cur 5 (0, 0)) ∧ ∀ i, i < l.length → cur[o + i]? = some (.int .u8 ((l.getD i 0 : Nat) : Int))
theorem Wt.bytes {w : World} {B : Nat} {v : Value} {l : List Nat} (h : Wt w B v l) : BytesAt w v l := by
  rcases h with h | ⟨b, o, cur, hv, hB, hb, hc⟩
  · exact BytesAt.of_own h
  · refine ⟨_, _, hv, ⟨Nat.le_refl _, fun h => by cases h⟩, .inr ⟨b, o, rfl, (Array.getElem?_eq_some_iff.1 hb).1, fun i hi => ?_⟩⟩
    rw [cell_of_row w b _ cur 5 (0, 0) hb]
    exact hc i hi
theorem Wt.own {w : World} {B : Nat} {v : Value} {l : List Nat} (h : Wt w B v l) {k : Nat} (hk : v.ownBlock = some k) : B ≤ k ∧ k < w.heap.size ∧ ∃ cur, w.heap[k]? = some (.cells cur 5 (0, 0)) := by
  rcases h with h | ⟨b, o, cur, hv, hB, hb, hc⟩
  · refine ⟨(h.lt k hk).1, (h.lt k hk).2, ?_⟩
    rcases h.2 with ⟨rfl, -⟩ | ⟨g, cap, cur, rfl, -, hcur, -⟩
    · cases hk
    · have : g = k := by simpa [Value.ownBlock] using hk
      exact ⟨cur, this ▸ hcur⟩
  · rw [hv] at hk
    have : b = k := by simpa [Value.ownBlock] using hk
    subst this
    exact ⟨hB, (Array.getElem?_eq_some_iff.1 hb).1, cur, hb⟩
theorem Wt.fars {w w' : World} {B : Nat} {v : Value} {l : List Nat} {S : Nat → Prop} (h : Wt w B v l) (F : Far S w w') (hs : ∀ k, v.ownBlock = some k → ¬ S k) : Wt w' B v l := by
  rcases h with h | ⟨b, o, cur, hv, hB, hb, hc⟩
  · exact .inl (own_fars h F hs)
  · exact .inr ⟨b, o, cur, hv, hB, (F.block b (Array.getElem?_eq_some_iff.1 hb).1 (hs b (by rw [hv]; rfl))).trans hb, hc⟩
theorem Wt.ext {w w' : World} {B : Nat} {v : Value} {l : List Nat} (h : Wt w B v l) (F : Below w.heap.size w w') : Wt w' B v l :=
  h.fars (S := fun _ => False) (Far.of_ext F) (fun _ _ e => e)
/-- A block of another type is not the one that waits. -/
theorem Wt.ne {w : World} {B : Nat} {v : Value} {l : List Nat} (h : Wt w B v l) {g t : Nat} {cs : Array Value} (hg : w.heap[g]? = some (.cells cs t (0, 0))) (ht : t ≠ 5) : v.ownBlock ≠ some g := by
  intro hk
  obtain ⟨-, -, cur, hc⟩ := h.own hk
  rw [hg] at hc
  simp at hc
  exact ht hc.2
theorem Wt.len {w : World} {B : Nat} {v : Value} {l : List Nat} (h : Wt w B v l) : ∃ a c, v = .slice a l.length c := by
  rcases h with h | ⟨b, o, cur, hv, -⟩
  · exact own_slice h
  · exact ⟨_, _, hv⟩
/-- A tail of what waits, full. -/
theorem Wt.tail {w : World} {B : Nat} {v : Value} {l : List Nat} (h : Wt w B v l) (hl : 0 < l.length) (n : Nat) (hn : n ≤ l.length) : ∃ b o c, v = .slice (some ⟨b, o, none⟩) l.length c ∧ Wt w B (.slice (some ⟨b, o + n, none⟩) (l.drop n).length (l.drop n).length) (l.drop n) := by
  rcases h with h | ⟨b, o, cur, hv, hB, hb, hc⟩
  · rcases h.2 with ⟨-, h0⟩ | ⟨g, cap, cur, hv, hB, hcur, _, _, hcs, ht⟩
    · omega
    · refine ⟨g, 0, cap, hv, .inr ⟨g, 0 + n, cur, rfl, hB, hcur, fun i hi => ?_⟩⟩
      have hi' : n + i < l.length := by rw [List.length_drop] at hi; omega
      have hu : (bl l)[n + i]? = some (.int .u8 ((l.getD (n + i) 0 : Nat) : Int)) := by simp [bl, List.getD, hi']
      rw [← ht, List.getElem?_take] at hu
      split at hu
      · have e : (l.drop n).getD i 0 = l.getD (n + i) 0 := by simp [List.getD]
        rw [e, Nat.zero_add]
        simpa using hu
      · cases hu
  · refine ⟨b, o, _, hv, .inr ⟨b, o + n, cur, rfl, hB, hb, fun i hi => ?_⟩⟩
    have hi' : n + i < l.length := by rw [List.length_drop] at hi; omega
    have e : (l.drop n).getD i 0 = l.getD (n + i) 0 := by simp [List.getD]
    rw [e, Nat.add_assoc]
    exact hc (n + i) hi'
section
variable {P : Program} (w : World)
theorem run_append_none_string (t u ty e : TypeId) (i : TypeInfo) (ht : P.underlying t = some (.slice e)) (hu : P.underlying u = some .string) (hi : P.info? e = some i) (hs1 : i.size = 1) (b : Addr) (n c : Nat) (hn : n ≤ c) (s : ByteArray) (hs : s.size = 0) :
    (Builtin.append_ #[t, u] ty #[.slice (some b) n c, .string s]).run P w = .ok (.slice (some b) n c) w := by
  have hf := Lib.run_firstCells_string (P := P) w 1 s
  have h0 : Lib.strCells s = [] := List.eq_nil_of_length_eq_zero (by rw [Lib.strCells_length]; exact hs)
  rw [hs, h0] at hf
  simp [Builtin.append_, run_underlying ht, run_underlying hu, sizeOf, typeInfo, hi, hs1, Builtin.lenOf, hs, hn, hf, storeCells]
theorem grown_row (e : TypeId) (base n old : Nat) (xs : List Value) (s : ByteArray) (hxl : xs.length = n) (hbase : base ≤ w.heap.size) (h63 : n + s.size ≤ maxLen) (ho : old < n + s.size) (row : Option Nat) :
      (w.drew.alloc (.cells (xs.toArray ++ (Lib.strCells s).toArray ++ Builtin.zeroCells (Value.int .u8 0).cells (grownCap w (n + s.size) old e - (n + s.size))) e)).ownsRow base e 1
        (.slice (some ⟨w.heap.size, 0, none⟩) (n + s.size) (grownCap w (n + s.size) old e)) (n + s.size) (xs ++ Lib.strCells s) ∧
      w.grownBy (w.drew.alloc (.cells (xs.toArray ++ (Lib.strCells s).toArray ++ Builtin.zeroCells (Value.int .u8 0).cells (grownCap w (n + s.size) old e - (n + s.size))) e)) row := by
  have hlen : (xs ++ Lib.strCells s).length = (n + s.size) * 1 := by rw [List.length_append, hxl, Lib.strCells_length, Nat.mul_one]
  have hge := grownCap_ge w (n + s.size) old e
  have hcm : grownCap w (n + s.size) old e ≤ maxLen := grownCap_le_maxLen w (n + s.size) old e h63
  refine ⟨⟨hlen, .inr ⟨w.heap.size, _, _, rfl, hbase, heap_alloc_new w.drew _, hge, hcm, ?_, ?_⟩⟩, ⟨rfl, rfl, rfl, by simp, fun k hk _ => Below.heap_alloc _ _ _ hk⟩⟩
  · have hz1 : (Value.int IntKind.u8 0).cells.size = 1 := rfl
    simp only [Array.size_append, List.size_toArray, size_zeroCells, hz1, hxl, Lib.strCells_length]
    omega
  · simp only [Array.toList_append, List.append_assoc]
    rw [← List.append_assoc, ← hlen]
    exact List.take_left
/-- Appending a string to what waits. -/
theorem run_append_wt (base : Nat) (t u ty : TypeId) (i : TypeInfo) (ht : P.underlying t = some (.slice 5)) (hu : P.underlying u = some .string) (hi : P.info? 5 = some i) (hz : i.zero = some (.int .u8 0))
    (hsize : i.size = 1) (hby : i.bytes = 1) (v : Value) (l : List Nat) (hown : Wt w base v l) (s : ByteArray) (hbytes : l.length + s.size ≤ 140737488355328) (hbase : base ≤ w.heap.size) :
    ∃ v' w', (Builtin.append_ #[t, u] ty #[v, .string s]).run P w = .ok v' w' ∧ Wt w' base v' (l ++ nb s) ∧ w.grownBy w' v.ownBlock ∧ (∀ k, v'.ownBlock = some k → v.ownBlock = some k ∨ w.heap.size ≤ k) := by
  have hmx : l.length + s.size ≤ maxLen := by unfold maxLen; omega
  rcases hown with hown | ⟨b, o, cur, rfl, hB, hb, hc⟩
  · obtain ⟨v', w', hr, ho, hg, -⟩ := Lib.run_append_own_string (P := P) w base t u ty 5 i ht hu hi hz hsize hby v _ _ hown s hmx hbytes hbase
    refine ⟨v', w', hr, .inl ?_, hg, ?_⟩
    · rw [List.length_append, nb_length, bl_append, show bl (nb s) = Lib.strCells s from (strCells_bl s).symm]
      exact ho
    · intro k hk
      rcases hown.2 with ⟨rfl, h0⟩ | ⟨g, cap, cur, rfl, -, hcur, hcap, -, hcs, ht'⟩
      · by_cases hs0 : s.size = 0
        · obtain ⟨v2, w2, hr2, -, -, h4⟩ := Lib.run_append_own_string (P := P) w base t u ty 5 i ht hu hi hz hsize hby _ _ _ hown s hmx hbytes hbase
          rw [hr] at hr2
          cases hr2
          rw [h4.2 ⟨rfl, hs0⟩] at hk
          cases hk
        · have hr2 := run_append_nil_string (P := P) w t u ty 5 i (.int .u8 0) ht hu hi hz s (by omega) (by omega) (by rw [hby]; omega)
          rw [hr] at hr2
          cases hr2
          right
          have : w.heap.size = k := by simpa [Value.ownBlock] using hk
          omega
      · by_cases hroom : l.length + s.size ≤ cap
        · have hcs' : cur.size = cap := by simpa using hcs
          have hr2 := Lib.run_append_room_string (P := P) w t u ty 5 i ht hu hi hsize g l.length cap cur hcur s hroom (by omega)
          rw [hr] at hr2
          cases hr2
          exact .inl hk
        · have hxl : (bl l).length = l.length * i.size := by rw [hsize, bl_length]; omega
          have hr2 := Lib.run_append_grow_string (P := P) w t u ty 5 i (.int .u8 0) ht hu hi hz ⟨g, 0, none⟩ l.length cap (bl l) hxl (hown.cells (g := g) rfl) s (by omega) (by omega) (by rw [hby]; exact growslice_fits (by omega) (by omega))
          rw [hr] at hr2
          cases hr2
          right
          have : w.heap.size = k := by simpa [Value.ownBlock] using hk
          omega
  · by_cases hs0 : s.size = 0
    · refine ⟨_, w, run_append_none_string (P := P) w t u ty 5 i ht hu hi hsize _ _ _ (Nat.le_refl _) s hs0, ?_, ⟨rfl, rfl, rfl, Nat.le_refl _, fun _ _ _ => rfl⟩, fun k hk => .inl hk⟩
      have : nb s = [] := List.eq_nil_of_length_eq_zero (by rw [nb_length]; exact hs0)
      rw [this, List.append_nil]
      exact .inr ⟨b, o, cur, rfl, hB, hb, hc⟩
    · have hxl : (bl l).length = l.length * i.size := by rw [hsize, bl_length]; omega
      have holds : ∀ j v, (bl l)[j]? = some v → w.cell? ((⟨b, o, none⟩ : Addr).add j) = some v := by
        intro j v hj
        have hjl : j < l.length := by have := (List.getElem?_eq_some_iff.1 hj).1; rwa [bl_length] at this
        have hadd : (⟨b, o, none⟩ : Addr).add j = ⟨b, o + j, none⟩ := by unfold Addr.add; split <;> simp_all
        rw [hadd, cell_of_row w b _ cur 5 (0, 0) hb, hc j hjl, bl_get l j v hj]
      have hr := Lib.run_append_grow_string (P := P) w t u ty 5 i (.int .u8 0) ht hu hi hz ⟨b, o, none⟩ l.length l.length (bl l) hxl holds s (by omega) (by omega) (by rw [hby]; exact growslice_fits (by omega) (by omega))
      obtain ⟨g1, g2⟩ := grown_row w 5 base l.length l.length (bl l) s (bl_length l) hbase hmx (by omega) (Value.ownBlock (.slice (some ⟨b, o, none⟩) l.length l.length))
      refine ⟨_, _, hr, .inl ?_, g2, fun k hk => .inr ?_⟩
      · rw [List.length_append, nb_length, bl_append, show bl (nb s) = Lib.strCells s from (strCells_bl s).symm]
        exact g1
      · have : w.heap.size = k := by simpa [Value.ownBlock] using hk
        omega
theorem wpList_append_wt {ops : Array Oper} {rest : List Oper} {o : Oper} {a : Act} {Q : Exit → Act → World → Prop} (hgd : o.guard = none) (sl x : Operand) (t u : TypeId)
    (ho : o.op = .call { callee := .builtin .append, args := #[sl, x], argTypes := #[t, u] })
    (base : Nat) (i : TypeInfo) (ht : P.underlying t = some (.slice 5)) (hu : P.underlying u = some .string) (hi : P.info? 5 = some i) (hz : i.zero = some (.int .u8 0))
    (hsize : i.size = 1) (hby : i.bytes = 1)
    (v : Value) (l : List Nat) (hs : a.eval sl = v) (hown : Wt w base v l) (s : ByteArray) (hx : a.eval x = .string s)
    (hbytes : l.length + s.size ≤ 140737488355328) (hbase : base ≤ w.heap.size)
    (h : ∀ v' w', Wt w' base v' (l ++ nb s) → w.grownBy w' v.ownBlock → (∀ k, v'.ownBlock = some k → v.ownBlock = some k ∨ w.heap.size ≤ k) → wpList P ops Q rest (a.put o.dst v') w') : wpList P ops Q (o :: rest) a w := by
  refine wpList_plain hgd fun K hK => ?_
  obtain ⟨v', w', hr, h2, h3, h4⟩ := run_append_wt (P := P) w base t u o.type i ht hu hi hz hsize hby v l hown s hbytes hbase
  unfold Oper.wp execOp
  simp only [ho, resolve, invoke, builtin, Sem.run_bind, Sem.run_pure, Result.andThen_ok, List.map_toArray, List.map_cons, List.map_nil, hs, hx, hr]
  exact hK _ _ (h v' w' h2 h3 h4)
end
end Go.Proofs.YtceiipcdkonnlaaDoor
