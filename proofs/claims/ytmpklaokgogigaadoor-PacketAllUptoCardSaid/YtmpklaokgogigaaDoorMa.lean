/-
  LAYER 16: packets one behind the other, plain; a list of packets in a row of one's own.
-/
import Derived.Test.YtmpklaokgogigaaDoorLd
import Derived.Maps.AppendAt
namespace Go.Proofs.YtmpklaokgogigaaDoor.Pac
set_option linter.unusedVariables false
set_option linter.unusedSimpArgs false
open Go.Proofs.YtmpklaokgogigaaDoor
open Go.RowKit
/-- A head: kind, flags, length, the place behind it, the error. -/
structure Hd where
  k : Nat
  f : Nat
  n : Nat
  to : Nat
  e : Nat
def RightN (k f : Nat) : Nat := (Hea.RightF (k : Int) (f : Int)).toNat
theorem RightF_nn (k f : Int) : 0 ≤ Hea.RightF k f ∧ Hea.RightF k f ≤ 11 := by
  unfold Hea.RightF
  split
  · omega
  · split
    · split <;> omega
    · split
      · split <;> omega
      · split <;> omega
theorem RightN_eq (k f : Nat) : ((RightN k f : Nat) : Int) = Hea.RightF k f := by
  have := RightF_nn k f
  unfold RightN
  omega
def hd (l : List Nat) (k0 : Nat) : Hd :=
  if k0 = l.length then ⟨0, 0, 0, 0, 2⟩
  else if RightN (l.getD k0 0 / 16) (l.getD k0 0 % 16) ≠ 0 then ⟨0, 0, 0, 0, RightN (l.getD k0 0 / 16) (l.getD k0 0 % 16)⟩
  else if (Hea.lenF 4 0 0 (l.drop (k0 + 1))).2.2 = 0 then ⟨l.getD k0 0 / 16, l.getD k0 0 % 16, (Hea.lenF 4 0 0 (l.drop (k0 + 1))).1, k0 + 1 + (Hea.lenF 4 0 0 (l.drop (k0 + 1))).2.1, 0⟩
  else ⟨0, 0, 0, 0, (Hea.lenF 4 0 0 (l.drop (k0 + 1))).2.2⟩
theorem getV_hd (l : List Nat) (k0 : Nat) : Hea.getV l k0 = Hea.HV (hd l k0).k (hd l k0).f (hd l k0).n (hd l k0).to (hd l k0).e := by
  have E := RightN_eq (l.getD k0 0 / 16) (l.getD k0 0 % 16)
  by_cases h0 : k0 = l.length
  · have e1 : hd l k0 = ⟨0, 0, 0, 0, 2⟩ := by unfold hd; rw [if_pos h0]
    rw [e1]; unfold Hea.getV; rw [if_pos h0]; rfl
  by_cases h1 : RightN (l.getD k0 0 / 16) (l.getD k0 0 % 16) = 0
  · have h1' : ¬ Hea.RightF ((l.getD k0 0 / 16 : Nat) : Int) ((l.getD k0 0 % 16 : Nat) : Int) ≠ 0 := by rw [← E, h1]; simp
    by_cases h2 : (Hea.lenF 4 0 0 (l.drop (k0 + 1))).2.2 = 0
    · have e1 : hd l k0 = ⟨l.getD k0 0 / 16, l.getD k0 0 % 16, (Hea.lenF 4 0 0 (l.drop (k0 + 1))).1, k0 + 1 + (Hea.lenF 4 0 0 (l.drop (k0 + 1))).2.1, 0⟩ := by unfold hd; rw [if_neg h0, if_neg (by rw [h1]; simp), if_pos h2]
      rw [e1]; unfold Hea.getV; rw [if_neg h0, if_neg h1', if_pos h2]
      simp only [Hea.HV]
      congr 3
    · have e1 : hd l k0 = ⟨0, 0, 0, 0, (Hea.lenF 4 0 0 (l.drop (k0 + 1))).2.2⟩ := by unfold hd; rw [if_neg h0, if_neg (by rw [h1]; simp), if_neg h2]
      rw [e1]; unfold Hea.getV; rw [if_neg h0, if_neg h1', if_neg h2]; rfl
  · have h1' : Hea.RightF ((l.getD k0 0 / 16 : Nat) : Int) ((l.getD k0 0 % 16 : Nat) : Int) ≠ 0 := by rw [← E]; simpa using h1
    have e1 : hd l k0 = ⟨0, 0, 0, 0, RightN (l.getD k0 0 / 16) (l.getD k0 0 % 16)⟩ := by unfold hd; rw [if_neg h0, if_pos h1]
    rw [e1]; unfold Hea.getV; rw [if_neg h0, if_pos h1', ← E]; rfl
theorem lenF_bd : ∀ (g i n : Nat) (l : List Nat), (Hea.lenF g i n l).1 ≤ 4096 ∧ (Hea.lenF g i n l).2.2 ≤ 3 ∧ ((Hea.lenF g i n l).2.2 = 0 → 1 ≤ (Hea.lenF g i n l).2.1 ∧ (Hea.lenF g i n l).2.1 ≤ i + l.length)
  | 0, i, n, l => by simp [Hea.lenF]
  | g + 1, i, n, [] => by simp [Hea.lenF]
  | g + 1, i, n, c :: r => by
    simp only [Hea.lenF]
    split
    · split
      · refine ⟨by assumption, by simp, fun _ => ?_⟩
        show 1 ≤ i + 1 ∧ i + 1 ≤ i + (c :: r).length
        simp
      · simp
    · have := lenF_bd g (i + 1) (n + (c - 128) * 128 ^ i) r
      refine ⟨this.1, this.2.1, fun h => ?_⟩
      have := this.2.2 h
      simp only [List.length_cons]
      omega
theorem hd_bd (l : List Nat) (k0 : Nat) (hk : k0 ≤ l.length) : (hd l k0).n ≤ 4096 ∧ (hd l k0).e ≤ 11 ∧ ((hd l k0).e = 0 → k0 + 2 ≤ (hd l k0).to ∧ (hd l k0).to ≤ l.length) ∧ (hd l k0).to ≤ l.length := by
  have h := lenF_bd 4 0 0 (l.drop (k0 + 1))
  have hr := RightF_nn (l.getD k0 0 / 16 : Nat) (l.getD k0 0 % 16 : Nat)
  have he := RightN_eq (l.getD k0 0 / 16) (l.getD k0 0 % 16)
  rw [List.length_drop] at h
  by_cases h0 : k0 = l.length
  · have e1 : hd l k0 = ⟨0, 0, 0, 0, 2⟩ := by unfold hd; rw [if_pos h0]
    rw [e1]; simp
  by_cases h1 : RightN (l.getD k0 0 / 16) (l.getD k0 0 % 16) = 0
  · by_cases h2 : (Hea.lenF 4 0 0 (l.drop (k0 + 1))).2.2 = 0
    · have e1 : hd l k0 = ⟨l.getD k0 0 / 16, l.getD k0 0 % 16, (Hea.lenF 4 0 0 (l.drop (k0 + 1))).1, k0 + 1 + (Hea.lenF 4 0 0 (l.drop (k0 + 1))).2.1, 0⟩ := by unfold hd; rw [if_neg h0, if_neg (by rw [h1]; simp), if_pos h2]
      rw [e1]
      have := h.2.2 h2
      refine ⟨h.1, by simp, fun _ => ?_, ?_⟩
      · show k0 + 2 ≤ k0 + 1 + _ ∧ k0 + 1 + _ ≤ _
        omega
      · show k0 + 1 + _ ≤ _
        omega
    · have e1 : hd l k0 = ⟨0, 0, 0, 0, (Hea.lenF 4 0 0 (l.drop (k0 + 1))).2.2⟩ := by unfold hd; rw [if_neg h0, if_neg (by rw [h1]; simp), if_neg h2]
      rw [e1]
      exact ⟨by simp, Nat.le_trans h.2.1 (by decide), fun h => absurd h h2, by simp⟩
  · have e1 : hd l k0 = ⟨0, 0, 0, 0, RightN (l.getD k0 0 / 16) (l.getD k0 0 % 16)⟩ := by unfold hd; rw [if_neg h0, if_pos h1]
    rw [e1]
    exact ⟨by simp, by show RightN _ _ ≤ 11; omega, fun h => absurd h h1, by simp⟩
/-- Of as a function of what came. -/
theorem of_ex : ∃ F : Int → Int → Int → ByteArray → Pk × Int, ∀ k f n s, s.size ≤ 140737488351232 →
    (∀ w, Hea.Tab3 w → Calls Tryd.prog 7 #[.agg #[.int .i64 k, .int .i64 f, .int .i64 n, .string s]] w (PkP (F k f n s).1 (F k f n s).2 w)) ∧
    (∀ w, Calls Tryd.prog 8 #[.agg #[.int .i64 k, .int .i64 f, .int .i64 n, .string s]] w (PkP (F k f n s).1 (F k f n s).2 w)) := by
  have h : ∀ k f n : Int, ∀ s : ByteArray, ∃ r : Pk × Int, s.size ≤ 140737488351232 →
      (∀ w, Hea.Tab3 w → Calls Tryd.prog 7 #[.agg #[.int .i64 k, .int .i64 f, .int .i64 n, .string s]] w (PkP r.1 r.2 w)) ∧
      (∀ w, Calls Tryd.prog 8 #[.agg #[.int .i64 k, .int .i64 f, .int .i64 n, .string s]] w (PkP r.1 r.2 w)) := by
    intro k f n s
    by_cases hs : s.size ≤ 140737488351232
    · obtain ⟨P, m, h1, h2⟩ := of_both k f n s hs
      exact ⟨(P, m), fun _ => ⟨h1, h2⟩⟩
    · exact ⟨(pk0 0, 0), fun h => absurd h hs⟩
  exact ⟨fun k f n s => Classical.choose (h k f n s), fun k f n s hs => Classical.choose_spec (h k f n s) hs⟩
noncomputable def OfF : Int → Int → Int → ByteArray → Pk × Int := Classical.choose of_ex
theorem of_F (k f n : Int) (s : ByteArray) (hs : s.size ≤ 140737488351232) :
    (∀ w, Hea.Tab3 w → Calls Tryd.prog 7 #[.agg #[.int .i64 k, .int .i64 f, .int .i64 n, .string s]] w (PkP (OfF k f n s).1 (OfF k f n s).2 w)) ∧
    (∀ w, Calls Tryd.prog 8 #[.agg #[.int .i64 k, .int .i64 f, .int .i64 n, .string s]] w (PkP (OfF k f n s).1 (OfF k f n s).2 w)) := Classical.choose_spec of_ex k f n s hs
/-- What All reads: of at most g packets more, from the place k on, behind those that were read. -/
noncomputable def allF (s : ByteArray) (l : List Nat) : Nat → Nat → List Pk → List Pk × Nat × Int
  | 0, k, acc => (acc, k, 0)
  | g + 1, k, acc =>
    if (hd l k).e = 2 ∨ ((hd l k).e = 0 ∧ l.length < (hd l k).to + (hd l k).n) then (acc, k, 0)
    else if (hd l k).e ≠ 0 then (acc, k, ((hd l k).e : Int))
    else if (OfF (hd l k).k (hd l k).f (hd l k).n (s.extract (hd l k).to ((hd l k).to + (hd l k).n))).2 ≠ 0 then (acc, k, (OfF (hd l k).k (hd l k).f (hd l k).n (s.extract (hd l k).to ((hd l k).to + (hd l k).n))).2)
    else allF s l g ((hd l k).to + (hd l k).n) (acc ++ [(OfF (hd l k).k (hd l k).f (hd l k).n (s.extract (hd l k).to ((hd l k).to + (hd l k).n))).1])
theorem allF_short {s : ByteArray} {l : List Nat} {g k : Nat} {acc : List Pk} (h : (hd l k).e = 2 ∨ ((hd l k).e = 0 ∧ l.length < (hd l k).to + (hd l k).n)) : allF s l (g + 1) k acc = (acc, k, 0) := if_pos h
theorem allF_bad {s : ByteArray} {l : List Nat} {g k : Nat} {acc : List Pk} (h : (hd l k).e ≠ 0) (h2 : (hd l k).e ≠ 2) : allF s l (g + 1) k acc = (acc, k, ((hd l k).e : Int)) :=
  (if_neg (by rintro (x | ⟨x, -⟩)
              · exact h2 x
              · exact h x)).trans (if_pos h)
theorem allF_err {s : ByteArray} {l : List Nat} {g k : Nat} {acc : List Pk} {P : Pk} {m : Int} (h : (hd l k).e = 0) (hl : (hd l k).to + (hd l k).n ≤ l.length) (hO : OfF (hd l k).k (hd l k).f (hd l k).n (s.extract (hd l k).to ((hd l k).to + (hd l k).n)) = (P, m)) (hm : m ≠ 0) : allF s l (g + 1) k acc = (acc, k, m) := by
  have : allF s l (g + 1) k acc = if (OfF (hd l k).k (hd l k).f (hd l k).n (s.extract (hd l k).to ((hd l k).to + (hd l k).n))).2 ≠ 0 then (acc, k, (OfF (hd l k).k (hd l k).f (hd l k).n (s.extract (hd l k).to ((hd l k).to + (hd l k).n))).2) else _ :=
    (if_neg (by rintro (x | ⟨-, x⟩) <;> omega)).trans (if_neg (by simpa using h))
  rw [this, hO, if_pos hm]
theorem allF_ok {s : ByteArray} {l : List Nat} {g k : Nat} {acc : List Pk} {P : Pk} (h : (hd l k).e = 0) (hl : (hd l k).to + (hd l k).n ≤ l.length) (hO : OfF (hd l k).k (hd l k).f (hd l k).n (s.extract (hd l k).to ((hd l k).to + (hd l k).n)) = (P, 0)) : allF s l (g + 1) k acc = allF s l g ((hd l k).to + (hd l k).n) (acc ++ [P]) := by
  have : allF s l (g + 1) k acc = if (OfF (hd l k).k (hd l k).f (hd l k).n (s.extract (hd l k).to ((hd l k).to + (hd l k).n))).2 ≠ 0 then _ else allF s l g ((hd l k).to + (hd l k).n) (acc ++ [(OfF (hd l k).k (hd l k).f (hd l k).n (s.extract (hd l k).to ((hd l k).to + (hd l k).n))).1]) :=
    (if_neg (by rintro (x | ⟨-, x⟩) <;> omega)).trans (if_neg (by simpa using h))
  rw [this, hO, if_neg (by simp)]
/-- A packet in a list: its parts, and the slices that hold its lists. -/
structure Pt where
  p : Pk
  fs : Value
  cs : Value
def Pt.cells (x : Pt) : List Value := (x.p.v x.fs x.cs).toList
theorem Pt.len (x : Pt) : x.cells.length = 24 := rfl
theorem cells_len (L : List Pt) : (L.flatMap Pt.cells).length = L.length * 24 := by
  induction L with
  | nil => rfl
  | cons x L ih => rw [List.flatMap_cons, List.length_append, ih, Pt.len, List.length_cons]; omega
/-- What of a packet lies elsewhere, apart from the block b. -/
structure Rest (b : Option Nat) (x : Pt) (w : World) : Prop where
  f : FisAt w x.fs x.p.fl
  c : IntsAt w x.cs x.p.cl
  af : x.p.fl ≠ [] → x.fs.ownBlock ≠ b ∨ b = none
  ac : x.p.cl ≠ [] → x.cs.ownBlock ≠ b ∨ b = none
theorem fis_to' {w w' : World} {v : Value} {l : List Fi} (h : FisAt w v l) (hs : w.heap.size ≤ w'.heap.size) (hb : l ≠ [] → ∀ g, v.ownBlock = some g → w'.heap[g]? = w.heap[g]?) : FisAt w' v l := by
  by_cases hl : l = []
  · subst hl
    obtain ⟨a, cap, rfl, hc, -⟩ := h
    exact ⟨a, cap, rfl, hc, .inl rfl⟩
  · exact fis_to h hs (hb hl)
theorem ints_to' {w w' : World} {v : Value} {l : List Int} (h : IntsAt w v l) (hs : w.heap.size ≤ w'.heap.size) (hb : l ≠ [] → ∀ g, v.ownBlock = some g → w'.heap[g]? = w.heap[g]?) : IntsAt w' v l := by
  by_cases hl : l = []
  · subst hl
    obtain ⟨a, cap, rfl, hc, -⟩ := h
    exact ⟨a, cap, rfl, hc, .inl rfl⟩
  · exact ints_to h hs (hb hl)
theorem fis_lt {w : World} {v : Value} {l : List Fi} (h : FisAt w v l) (hl : l ≠ []) : ∀ g, v.ownBlock = some g → g < w.heap.size := by
  obtain ⟨a, cap, rfl, hc, h⟩ := h
  rcases h with h | ⟨b, o, rfl, hb, -⟩
  · exact absurd h hl
  · intro g hg; obtain rfl := Option.some.inj hg; exact hb
theorem ints_lt {w : World} {v : Value} {l : List Int} (h : IntsAt w v l) (hl : l ≠ []) : ∀ g, v.ownBlock = some g → g < w.heap.size := by
  obtain ⟨a, cap, rfl, hc, h⟩ := h
  rcases h with h | ⟨b, o, rfl, hb, -⟩
  · exact absurd h hl
  · intro g hg; obtain rfl := Option.some.inj hg; exact hb
theorem Rest.ext {b : Option Nat} {x : Pt} {w w' : World} (h : Rest b x w) (hb : Below w.heap.size w w') : Rest b x w' := ⟨h.f.keep hb (Nat.le_refl _), h.c.keep hb (Nat.le_refl _), h.af, h.ac⟩
/-- Behind an append onto the row in block b, which lies in block b' then. -/
theorem Rest.grown {b b' : Option Nat} {x : Pt} {w w' : World} (h : Rest b x w) (hg : w.grownBy w' b) (hb : b' = b ∨ b' = some w.heap.size) : Rest b' x w' := by
  refine ⟨fis_to' h.f hg.size (fun hl g he => ?_), ints_to' h.c hg.size (fun hl g he => ?_), fun hl => ?_, fun hl => ?_⟩
  · refine hg.block g (fis_lt h.f hl g he) (fun e => ?_)
    rcases h.af hl with h1 | h1
    · exact h1 (he.trans e)
    · rw [h1] at e; cases e
  · refine hg.block g (ints_lt h.c hl g he) (fun e => ?_)
    rcases h.ac hl with h1 | h1
    · exact h1 (he.trans e)
    · rw [h1] at e; cases e
  · rcases hb with rfl | rfl
    · exact h.af hl
    · left; intro e; have := fis_lt h.f hl _ e; omega
  · rcases hb with rfl | rfl
    · exact h.ac hl
    · left; intro e; have := ints_lt h.c hl _ e; omega
/-- A packet that has just been read, beside a row that was there ahead of it. -/
theorem Rest.new {P : Pk} {fs cs : Value} {b : Option Nat} {B : Nat} {w : World} (hf : FisAt w fs P.fl ∧ Fresh B fs) (hc : IntsAt w cs P.cl ∧ Fresh B cs) (hb : ∀ g, b = some g → g < B) : Rest b ⟨P, fs, cs⟩ w := by
  refine ⟨hf.1, hc.1, fun hl => ?_, fun hl => ?_⟩
  · cases b with
    | none => exact .inr rfl
    | some g => left; intro e; have := hf.2 g e; have := hb g rfl; omega
  · cases b with
    | none => exact .inr rfl
    | some g => left; intro e; have := hc.2 g e; have := hb g rfl; omega
/-- The slice v reads as the packets L, in a row that was made behind B. -/
structure Pks (B : Nat) (v : Value) (L : List Pt) (w : World) : Prop where
  o : w.ownsRow B 33 24 v L.length (L.flatMap Pt.cells)
  r : ∀ x ∈ L, Rest v.ownBlock x w
theorem Pks.nil (B : Nat) (w : World) : Pks B (.slice none 0 0) [] w := ⟨World.ownsRow_nil _ _ _ _, fun x hx => by cases hx⟩
theorem Pks.ext {B : Nat} {v : Value} {L : List Pt} {w w' : World} (h : Pks B v L w) (hb : Below w.heap.size w w') : Pks B v L w' := by
  refine ⟨?_, fun x hx => (h.r x hx).ext hb⟩
  obtain ⟨h1, h2⟩ := h.o
  refine ⟨h1, h2.imp id ?_⟩
  rintro ⟨g, cap, cur, hv, hg, hcur, rest⟩
  exact ⟨g, cap, cur, hv, hg, by rw [hb.block g (Array.getElem?_eq_some_iff.1 hcur).1]; exact hcur, rest⟩
theorem Pks.snoc {B : Nat} {v v' : Value} {L : List Pt} {x : Pt} {w w' : World} (h : Pks B v L w) (hx : Rest v.ownBlock x w) (ho : w'.ownsRow B 33 24 v' (L.length + 1) (L.flatMap Pt.cells ++ x.cells)) (hg : w.grownBy w' v.ownBlock) (hb : v'.ownBlock = v.ownBlock ∨ v'.ownBlock = some w.heap.size) : Pks B v' (L ++ [x]) w' := by
  refine ⟨by rw [List.length_append, List.flatMap_append]; simpa using ho, fun y hy => ?_⟩
  rcases List.mem_append.1 hy with hy | hy
  · exact (h.r y hy).grown hg hb
  · obtain rfl := List.mem_singleton.1 hy
    exact hx.grown hg hb
theorem Pks.lt {B : Nat} {v : Value} {L : List Pt} {w : World} (h : Pks B v L w) : ∀ g, v.ownBlock = some g → g < w.heap.size := fun g hg => (h.o.lt g hg).2
/-- What All answers. -/
def AllP (R : List Pk × Nat × Int) (w : World) (e : Ending) (w' : World) : Prop :=
  ∃ v L, e = .returned (.tuple #[v, .int .i64 (R.2.1 : Int), .int .i64 R.2.2]) ∧ Pks w.heap.size v L w' ∧ L.map Pt.p = R.1 ∧ Below w.heap.size w w'
end Go.Proofs.YtmpklaokgogigaaDoor.Pac
