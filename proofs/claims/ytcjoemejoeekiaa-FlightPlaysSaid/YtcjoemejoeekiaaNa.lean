/-
  LAYER 23: the document's flight: find, Rec.
-/
import Derived.Test.YtcjoemejoeekiaaFi
namespace Go.Proofs.Ytcjoemejoeekiaa.Fli
open Go.RowKit Que Hp Ids
/-- The document's flight in block x. -/
structure Xf (B : Nat) (w : World) (x : Nat) (v : Value) (L : List Se) : Prop where
  row : w.heap[x]? = some (.cells #[v] 62 (0, 0))
  its : w.ownsRow B 70 6 v L.length (seC L)
section
variable {B : Nat} {w w' : World} {x : Nat} {v : Value} {L : List Se}
theorem Xf.lt (h : Xf B w x v L) : x < w.heap.size := (Array.getElem?_eq_some_iff.1 h.row).1
theorem Xf.c0 (h : Xf B w x v L) : w.cell? ⟨x, 0, none⟩ = some v := cell_of_row w x 0 _ 62 (0, 0) h.row
theorem Xf.fz (h : Xf B w x v L) (j : Nat) : w.frozen? ⟨x, j, none⟩ = false := frozen_of_row w x j _ 62 h.row
theorem Xf.keep (h : Xf B w x v L) (hb : Below w.heap.size w w') : Xf B w' x v L := ⟨(hb.block x h.lt).trans h.row, own_keep h.its hb⟩
theorem Xf.far {S : Nat → Prop} (h : Xf B w x v L) (F : Far S w w') (h1 : ¬ S x) (h2 : ∀ k, v.ownBlock = some k → ¬ S k) : Xf B w' x v L :=
  ⟨(F.block x h.lt h1).trans h.row, own_fars h.its F h2⟩
theorem Xf.at (h : Xf B w x v L) {gb n cb : Nat} (hv : v = .slice (some ⟨gb, 0, none⟩) n cb) {k : Nat} {e : Se} (hk : L[k]? = some e) {j : Nat} (hj : j < 6) : w.cell? ⟨gb, k * 6 + j, none⟩ = e.cells[j]? := by
  subst hv
  have := seC_get L k e hk j hj
  obtain ⟨u, hu⟩ : ∃ u, e.cells[j]? = some u := ⟨_, List.getElem?_eq_getElem (by simp [Se.cells]; exact hj)⟩
  rw [hu] at this ⊢
  exact own_get h.its this
theorem Xf.fzr (h : Xf B w x v L) {gb cb n : Nat} (hv : v = .slice (some ⟨gb, 0, none⟩) n cb) (j : Nat) : w.frozen? ⟨gb, j, none⟩ = false := by
  have := h.its
  subst hv
  rcases this.2 with ⟨h, -⟩ | ⟨g', cap, cur, hv, hB, hcur, hn, hm, hs, ht⟩
  · cases h
  · simp only [Value.slice.injEq, Option.some.injEq, Addr.mk.injEq, and_true] at hv
    obtain ⟨rfl, -, -⟩ := hv
    exact frozen_of_row w gb j _ 70 hcur
/-- Where a number stands. -/
def ixS (L : List Se) (id : Int) : Nat := L.findIdx fun e => decide (e.i = id)
def fiS (L : List Se) (id : Int) : Int := if ixS L id < L.length then (ixS L id : Int) else -1
theorem ixS_lo {id : Int} {j : Nat} {e : Se} (h : j < ixS L id) (he : L[j]? = some e) : e.i ≠ id := by
  unfold ixS at h
  have := List.not_of_lt_findIdx (xs := L) (p := fun e : Se => decide (e.i = id)) (i := j) h
  rw [(List.getElem?_eq_some_iff.1 he).2] at this
  simpa using this
theorem ixS_hit {id : Int} {e : Se} (he : L[ixS L id]? = some e) : e.i = id := by
  have hj := (List.getElem?_eq_some_iff.1 he).1
  unfold ixS at hj he
  have := List.findIdx_getElem (xs := L) (p := fun e : Se => decide (e.i = id)) (w := hj)
  rw [(List.getElem?_eq_some_iff.1 he).2] at this
  simpa using this
theorem fiS_none {id : Int} (h : ∀ e ∈ L, e.i ≠ id) : fiS L id = -1 := by
  unfold fiS
  rw [if_neg fun hlt => h _ (List.getElem_mem hlt) (ixS_hit (List.getElem?_eq_getElem hlt))]
theorem fiS_some {q : Nat} {e : Se} (hn : L.Pairwise fun x y => x.i ≠ y.i) (he : L[q]? = some e) : fiS L e.i = (q : Int) ∧ ixS L e.i = q := by
  have hq := (List.getElem?_eq_some_iff.1 he).1
  have hpw := List.pairwise_iff_getElem.1 hn
  have hle : ixS L e.i ≤ q := by
    rcases Nat.lt_or_ge q (ixS L e.i) with h | h
    · exact absurd rfl (ixS_lo h he)
    · exact h
  have he2 : ixS L e.i = q := by
    rcases Nat.lt_or_eq_of_le hle with h | h
    · have h1 := ixS_hit (L := L) (id := e.i) (List.getElem?_eq_getElem (by omega))
      have h2 := hpw _ _ (by omega) hq h
      rw [(List.getElem?_eq_some_iff.1 he).2] at h2
      exact absurd h1 h2
    · exact h
  unfold fiS
  rw [he2, if_pos hq]
  exact ⟨rfl, rfl⟩
set_option maxHeartbeats 2000000 in
set_option maxRecDepth 100000 in
theorem xfind_any (h : Xf B w x v L) (hL : L.length ≤ 8) (id : Int) : Calls Try.prog 62 #[.pointer (some ⟨x, 0, none⟩), .int .i64 id] w fun e w' => e = .returned (.int .i64 (fiS L id)) ∧ w = w' := by
  have c0 := h.c0
  obtain ⟨a, c, hv⟩ := own_slice h.its
  rw [hv] at c0
  have hL' : (L.length : Int) ≤ 8 := by omega
  have hpl : ixS L id ≤ L.length := List.findIdx_le_length
  replace h := Lib.hid h
  replace hv := Lib.hid hv
  go_enter Try.func62, Try.ntmps62
  go_wp2_with fail
  go_loopw [5] (fun iv wr => ∃ i : Nat, iv = .int .i64 (i : Int) ∧ i ≤ ixS L id ∧ w = wr) (fun iv _ => L.length - (intOf iv).toNat)
  case atStart => exact ⟨0, rfl, by omega, rfl⟩
  case round =>
    obtain ⟨i, rfl, hi, rfl⟩ := hrel
    by_cases hlt : i < L.length
    · have hlt' : (i : Int) < (L.length : Int) := by omega
      obtain ⟨e, he⟩ : ∃ e, L[i]? = some e := ⟨_, List.getElem?_eq_getElem hlt⟩
      obtain ⟨gb, cb, hv2⟩ := own_slice' h.out.its (by omega)
      have q0 : w.cell? ⟨gb, i * 6, none⟩ = some (.int .i64 e.i) := h.out.at hv2 he (j := 0) (by omega)
      rw [hv.out] at hv2
      simp only [Value.slice.injEq] at hv2
      obtain ⟨rfl, -, rfl⟩ := hv2
      by_cases hq : i < ixS L id
      · have hl : (e.i == id) = false := by rw [beq_eq_false_iff_ne]; exact ixS_lo hq he
        replace he := Lib.hid he
        go_wp2_with fail
        go_roundw
        case rel => exact ⟨i + 1, by simp, by omega, trivial⟩
        case measure => simp [intOf]; omega
      · have hqe : ixS L id = i := by omega
        have hei : e.i = id := ixS_hit (by rw [hqe]; exact he)
        have hl : (e.i == id) = true := by simpa using hei
        have hf : fiS L id = (i : Int) := by unfold fiS; rw [hqe, if_pos hlt]
        replace he := Lib.hid he
        replace hf := Lib.hid hf
        clear hq hpl hi hqe hei
        go_wp2_with fail
        go_ret
        exact ⟨by rw [hf.out]; rfl, rfl⟩
    · have hqe : ixS L id = i := by omega
      have hf : fiS L id = -1 := by unfold fiS; rw [if_neg (by omega)]
      have hn' : ¬ (i : Int) < (L.length : Int) := by omega
      replace hf := Lib.hid hf
      clear hpl hi hlt hqe
      go_wp2_with fail
      go_ret
      exact ⟨by rw [hf.out]; rfl, rfl⟩
/-- The document's list is another; it stands in the same block or in a new one. -/
structure XN (B : Nat) (w w' : World) (x : Nat) (v : Value) (L : List Se) (v' : Value) : Prop where
  r : Xf B w' x v' L
  far : Far (fun k => k = x ∨ v.ownBlock = some k) w w'
  nb : ∀ k, v'.ownBlock = some k → v.ownBlock = some k ∨ w.heap.size ≤ k
theorem setXf {g j : Nat} {cs : Array Value} (h : w.heap[g]? = some (.cells cs 62 (0, 0))) (u : Value) : (w.setCell ⟨g, j, none⟩ u).heap[g]? = some (.cells (cs.setIfInBounds j u) 62 (0, 0)) :=
  heap_setCell_same w g j _ 62 u h
theorem Xf.storeS (h : Xf B w x v L) {gb cb : Nat} (hv : v = .slice (some ⟨gb, 0, none⟩) L.length cb) {k : Nat} {e : Se} (he : L[k]? = some e) (s : Int) : XN B w (w.setCell ⟨gb, k * 6 + 1, none⟩ (.int .i64 s)) x v (L.set k { e with s := s }) v := by
  subst hv
  have hne : x ≠ gb := fun e => own_far h.its h.row (by decide) (by rw [e]; rfl)
  refine ⟨⟨?_, ?_⟩, ⟨rfl, rfl, rfl, by simp [World.setCell], fun q _ hq => Below.heap_setCell _ _ _ _ (fun e => hq (by subst e; exact .inr rfl))⟩, fun k hk => .inl hk⟩
  · rw [Below.heap_setCell _ _ _ _ hne]; exact h.row
  · have := (h.its.stored (k * 6 + 1) (.int .i64 s)).1
    rw [seC_setS _ _ _ _ he] at this
    simpa using this
theorem xn_same (h : Xf B w x v L) : XN B w w x v L v := ⟨h, Far.refl _ w, fun _ hk => .inl hk⟩
/-- Rec. -/
def recL (L : List Se) (id : Int) : Bool × List Se := match L[ixS L id]? with
  | some e => if e.s = 1 then (false, L) else (true, L.set (ixS L id) { e with s := 3 })
  | none => (false, L)
set_option maxHeartbeats 2000000 in
set_option maxRecDepth 100000 in
theorem xrec_any (h : Xf B w x v L) (hL : L.length ≤ 8) (id : Int) : Calls Try.prog 50 #[.pointer (some ⟨x, 0, none⟩), .int .i64 id] w fun e w' => e = .returned (.bool (recL L id).1) ∧ ∃ v', XN B w w' x v (recL L id).2 v' := by
  have F := Lib.hid (xfind_any h hL id)
  have hL' : (L.length : Int) ≤ 8 := by omega
  unfold recL
  cases he : L[ixS L id]? with
  | none =>
    have hf : fiS L id = -1 := by unfold fiS; rw [if_neg (by rw [List.getElem?_eq_none_iff] at he; omega)]
    rw [hf] at F
    have Z := Lib.hid (xn_same h)
    clear h he hf
    go_enter Try.func50, Try.ntmps50
    go_wp2_with fail
    refine F.out.mono ?_
    rintro e w1 ⟨rfl, rfl⟩
    go_wp2
    go_ret
    exact ⟨rfl, v, Z.out⟩
  | some e =>
    have hlt := (List.getElem?_eq_some_iff.1 he).1
    have hf : fiS L id = (ixS L id : Int) := by unfold fiS; rw [if_pos hlt]
    rw [hf] at F
    obtain ⟨gb, cb, hv⟩ := own_slice' h.its (by omega)
    have c0 := h.c0
    rw [hv] at c0
    have q1 : w.cell? ⟨gb, ixS L id * 6 + 1, none⟩ = some (.int .i64 e.s) := h.at hv he (j := 1) (by omega)
    have fz := h.fzr hv (ixS L id * 6 + 1)
    have Z := Lib.hid (xn_same h)
    have Z2 := Lib.hid (h.storeS hv he 3)
    have hlt' : (ixS L id : Int) < (L.length : Int) := by omega
    generalize ixS L id = p at *
    have p0 : ¬ (p : Int) < 0 := by omega
    clear h he hf hv
    by_cases hs : e.s = 1
    · simp only [hs, if_true] at *
      go_enter Try.func50, Try.ntmps50
      go_wp2_with fail
      refine F.out.mono ?_
      rintro e w1 ⟨rfl, rfl⟩
      go_wp2
      go_ret
      exact ⟨rfl, v, Z.out⟩
    · have hsb : (e.s == 1) = false := by simpa using hs
      simp only [hs, if_false]
      go_enter Try.func50, Try.ntmps50
      go_wp2_with fail
      refine F.out.mono ?_
      rintro e w1 ⟨rfl, rfl⟩
      go_wp2
      go_ret
      exact ⟨rfl, v, Z2.out⟩
end
end Go.Proofs.Ytcjoemejoeekiaa.Fli
