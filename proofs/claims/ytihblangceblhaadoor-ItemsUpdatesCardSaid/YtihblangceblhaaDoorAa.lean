/-
  LAYER 30: a table: a map from numbers to what they stand for.
-/
import Derived.Test.YtihblangceblhaaDoorIt
import Derived.Maps.Own
import Derived.Maps.OwnOps
import Derived.Maps.OwnSet
import Derived.Maps.Views
import Derived.Maps.RangeWalk
import Derived.WalkSpells
namespace Go.Proofs.YtihblangceblhaaDoor
set_option linter.unusedSimpArgs false
set_option linter.unusedVariables false
open Go.RowKit Go.Maps Go.WideMaps

theorem law23 : Keyed Tryd.prog 23 := int_keyed Tryd.underlying23
theorem zero59 (w : World) : (zeroValue 72).run Tryd.prog w = .ok (.agg #[.string { data := #[] }, .string { data := #[] }]) w := by kernel_rfl
theorem zero61 (w : World) : (zeroValue 84).run Tryd.prog w = .ok (.agg #[]) w := by kernel_rfl
theorem key_of {a : Int} (h : (Lit.int .u64 a).wf = true) : keyOf Tryd.prog 23 (.int .u64 a) = some (.int .u64 a) := keyOf_int_mk Tryd.underlying23 h
/-- How what a number stands for reads. -/
def mRl : List Value → Option (DataW Unit × List MemPlace)
  | [.string o, .string n] => some (.agg [.lit (.string o.data.toList), .lit (.string n.data.toList)], [])
  | _ => none
def mR : Value → Option (DataW Unit × List MemPlace)
  | .agg cs => mRl cs.toList
  | _ => none
theorem mR_mk (o n : ByteArray) : mR (.agg #[.string o, .string n]) = some (.agg [.lit (.string o.data.toList), .lit (.string n.data.toList)], []) := rfl
theorem mR_inv {v : Value} {z : DataW Unit × List MemPlace} (h : mR v = some z) : ∃ o n, v = .agg #[.string o, .string n] ∧ z = (.agg [.lit (.string o.data.toList), .lit (.string n.data.toList)], []) := by
  cases v with
  | agg cs =>
    obtain ⟨l⟩ := cs
    have h' : mRl l = some z := h
    unfold mRl at h'
    split at h'
    · cases h'; exact ⟨_, _, rfl, rfl⟩
    · cases h'
  | _ => cases h
structure En where
  a : Int
  o : ByteArray
  n : ByteArray
def En.enc (e : En) : DataW Unit := .agg [.lit (.string e.o.data.toList), .lit (.string e.n.data.toList)]
def ky (a : Int) : Lit := .int .u64 a
theorem ky_ne {a b : Int} (h : a ≠ b) : ky a ≠ ky b := fun e => h (by unfold ky at e; injection e)
theorem ky_key (a : Int) : WideAt.IsKeyLit (ky a) := trivial
def Rd (D : DataW Unit) (T : List En) : Prop :=
  ∀ a, (∀ e ∈ T, e.a = a → has D (ky a) = true ∧ ∀ z, D.atKey (ky a) z = e.enc) ∧ ((∀ e ∈ T, e.a ≠ a) → has D (ky a) = false)
def Nd (T : List En) : Prop := T.Pairwise fun x y => x.a ≠ y.a
theorem Nd.eq {T : List En} (h : Nd T) {x y : En} (hx : x ∈ T) (hy : y ∈ T) (e : x.a = y.a) : x = y := by
  unfold Nd at h
  induction T with
  | nil => cases hx
  | cons z T ih =>
    rw [List.pairwise_cons] at h
    rcases List.mem_cons.1 hx with hx | hx
    · rcases List.mem_cons.1 hy with hy | hy
      · rw [hx, hy]
      · exact absurd (by rw [← hx]; exact e) (h.1 y hy)
    · rcases List.mem_cons.1 hy with hy | hy
      · exact absurd (by rw [← hy]; exact e.symm) (h.1 x hx)
      · exact ih h.2 hx hy
theorem Rd.put {D : DataW Unit} {T : List En} (h : Rd D T) (hD : IsMap D) (e : En) (hn : ∀ x ∈ T, x.a ≠ e.a) : Rd (D.put (ky e.a) e.enc) (T ++ [e]) := by
  intro a
  by_cases ea : e.a = a
  · subst ea
    refine ⟨fun x hx hxa => ?_, fun hx => absurd rfl (hx e (by simp))⟩
    have : x = e := by
      rcases List.mem_append.1 hx with hx | hx
      · exact absurd hxa (hn x hx)
      · exact List.mem_singleton.1 hx
    subst this
    exact ⟨has_put_same hD (ky_key _) _, fun z => atKey_put_same hD (ky_key _) _ _⟩
  · have hne : ky a ≠ ky e.a := ky_ne (Ne.symm ea)
    refine ⟨fun x hx hxa => ?_, fun hx => ?_⟩
    · rw [has_put_other hne]
      rcases List.mem_append.1 hx with hx | hx
      · exact ⟨((h a).1 x hx hxa).1, fun z => by rw [atKey_put_other hne]; exact ((h a).1 x hx hxa).2 z⟩
      · rw [List.mem_singleton.1 hx] at hxa; exact absurd hxa ea
    · rw [has_put_other hne]
      exact (h a).2 fun x hx' => hx x (List.mem_append_left _ hx')
theorem Rd.del {D : DataW Unit} {T : List En} (h : Rd D T) (k : Int) : Rd (D.del (ky k)) (T.filter fun e => decide (e.a ≠ k)) := by
  intro a
  by_cases ea : a = k
  · subst ea
    refine ⟨fun x hx hxa => ?_, fun _ => has_del_same⟩
    have := (List.mem_filter.1 hx).2
    simp at this; exact absurd hxa this
  · have hne : ky a ≠ ky k := ky_ne ea
    rw [has_del_other hne]
    refine ⟨fun x hx hxa => ⟨((h a).1 x (List.mem_filter.1 hx).1 hxa).1, fun z => by rw [atKey_del_other hne]; exact ((h a).1 x (List.mem_filter.1 hx).1 hxa).2 z⟩, fun hx => (h a).2 fun x hx' hxa => ?_⟩
    exact hx x (List.mem_filter.2 ⟨hx', by simp; exact fun e => ea (hxa ▸ e)⟩) hxa
/-- The table in block g: the map in block m. -/
structure Tb (w : World) (g m : Nat) (T : List En) (D : DataW Unit) : Prop where
  row : w.heap[g]? = some (.cells #[.map (some m)] 69 (0, 0))
  map : w.ownsMap Tryd.prog 23 mR m T.length D
  size : Maps.size D = T.length
  ne : m ≠ g
  nd : Nd T
  le : T.length ≤ 64
  wf : ∀ e ∈ T, (Lit.int .u64 e.a).wf = true
  rd : Rd D T
section
variable {w : World} {g m : Nat} {T : List En} {D : DataW Unit}
theorem Tb.lt (h : Tb w g m T D) : g < w.heap.size := (Array.getElem?_eq_some_iff.1 h.row).1
theorem Tb.at (h : Tb w g m T D) : w.cell? ⟨g, 0, none⟩ = some (.map (some m)) := by
  rw [cell_of_row w g _ _ 69 (0, 0) h.row]; simp
theorem Tb.keep {w' : World} (h : Tb w g m T D) (hb : Below w.heap.size w w') : Tb w' g m T D := by
  refine ⟨(hb.block g h.lt).trans h.row, ?_, h.size, h.ne, h.nd, h.le, h.wf, h.rd⟩
  obtain ⟨es, clock, hm, r⟩ := h.map
  exact ⟨es, clock, (hb.block m h.map.lt).trans hm, r⟩
/-- The one that a number stands for. -/
def findT (T : List En) (a : Int) : Option En := T.find? fun e => decide (e.a = a)
theorem findT_some {T : List En} {a : Int} {e : En} (h : findT T a = some e) : e ∈ T ∧ e.a = a :=
  ⟨List.mem_of_find?_eq_some h, by simpa using List.find?_some h⟩
theorem findT_none {T : List En} {a : Int} (h : findT T a = none) : ∀ e ∈ T, e.a ≠ a := by
  intro e he
  have := List.find?_eq_none.1 h e he
  simpa using this
theorem findT_mem {T : List En} (hn : Nd T) {e : En} (he : e ∈ T) : findT T e.a = some e := by
  cases h : findT T e.a with
  | none => exact absurd rfl (findT_none h e he)
  | some x => rw [hn.eq he (findT_some h).1 (findT_some h).2.symm]
def lookV (T : List En) (a : Int) : Value :=
  match findT T a with
  | some e => .tuple #[.agg #[.string e.o, .string e.n], .bool true]
  | none => .tuple #[.agg #[.string { data := #[] }, .string { data := #[] }], .bool false]
theorem ba_ext {a b : ByteArray} (h : a.data.toList = b.data.toList) : a = b := by
  cases a; cases b; simp only [Array.toList_inj] at h; rw [h]
theorem Tb.look (h : Tb w g m T D) {a : Int} (ha : (Lit.int .u64 a).wf = true) : (Instr.lookup 67 (.map (some m)) (.int .u64 a) true).run Tryd.prog w = .ok (lookV T a) w := by
  obtain ⟨v, ps, hrun, hv⟩ := h.map.look_ok law23 (t := 67) (e := 72) Tryd.underlying67 (zero59 w) (mR_mk _ _) (key_of ha)
  rw [hrun]
  obtain ⟨o, n, rfl, hz⟩ := mR_inv hv
  unfold lookV
  cases hf : findT T a with
  | none =>
    have hh := (h.rd a).2 (findT_none hf)
    have hat := atKey_of_not_has hh
    unfold ky at hh hat
    rw [hh]
    rw [hat] at hz
    simp only [Prod.mk.injEq, DataW.agg.injEq, List.cons.injEq, DataW.lit.injEq, Lit.string.injEq, and_true] at hz
    obtain ⟨⟨h1, h2⟩, -⟩ := hz
    have e1 : o = { data := #[] } := (ba_ext h1).symm
    have e2 : n = { data := #[] } := (ba_ext h2).symm
    rw [e1, e2]
  | some e =>
    obtain ⟨he, hea⟩ := findT_some hf
    obtain ⟨hh, hat⟩ := (h.rd a).1 e he hea
    unfold ky at hh hat
    rw [hh]
    rw [hat] at hz
    simp only [En.enc, Prod.mk.injEq, DataW.agg.injEq, List.cons.injEq, DataW.lit.injEq, Lit.string.injEq, and_true] at hz
    obtain ⟨⟨h1, h2⟩, -⟩ := hz
    rw [ba_ext h1.symm, ba_ext h2.symm]
end
set_option maxRecDepth 100000 in
theorem none_any {w : World} {g m : Nat} {T : List En} {D : DataW Unit} (h : Tb w g m T D) : Calls Tryd.prog 35 #[.pointer (some ⟨g, 0, none⟩)] w fun e w' => e = .returned (.bool false) ∧ w = w' := by
  have hmn := fun (W : World) (b : Option Nat) => run_eql_map_nil (P := Tryd.prog) W 67 23 72 b Tryd.underlying67
  have ca := h.at
  clear h
  go_enter Tryd.func35, Tryd.ntmps35
  go_wp2
  go_ret
  exact ⟨rfl, rfl⟩
set_option maxRecDepth 100000 in
theorem len_any {w : World} {g m : Nat} {T : List En} {D : DataW Unit} (h : Tb w g m T D) : Calls Tryd.prog 37 #[.pointer (some ⟨g, 0, none⟩)] w fun e w' => e = .returned (.int .i64 (T.length : Nat)) ∧ w = w' := by
  have N := Lib.hid (none_any h)
  have ca := h.at
  have hs := Lib.hid h.size
  have hm := h.map
  clear h
  go_enter Tryd.func37, Tryd.ntmps37
  go_wp2_with (first | (go_at_call 35; refine N.out.mono ?_; rintro e w' ⟨rfl, rfl⟩) | (at_len; refine wpList_len_own _ rfl _ 67 rfl 23 72 Tryd.underlying67 _ m _ D rfl hm ?_))
  go_ret
  exact ⟨by rw [hs.out]; rfl, rfl⟩
end Go.Proofs.YtihblangceblhaaDoor
