/-
  LAYER 16: packets one behind the other, plain; a list of packets in a row of one's own.
-/
import Derived.Test.YtmpklaokgogigaaDoorLd
import Derived.Maps.AppendAt
import Derived.Test.YtmpklaokgogigaaDoorRc
import Derived.StillTailTactics
import Derived.BigQuiet
import Derived.Great.BuildSlice
import Derived.Lib.SliceRun
import Derived.Lib.OthersKept
namespace Go.Proofs.YtmpklaokgogigaaDoor.Pac
set_option linter.unusedVariables false
set_option linter.unusedSimpArgs false
open Go.Proofs.YtmpklaokgogigaaDoor
open Go.RowKit
/-- A head: kind, flags, length, the place behind it, the error. -/
structure Hd where
  k : Nat
  f : Nat
  n : Nat
  to : Nat
  e : Nat
def RightN (k f : Nat) : Nat := (Hea.RightF (k : Int) (f : Int)).toNat
theorem RightF_nn (k f : Int) : 0 ≤ Hea.RightF k f ∧ Hea.RightF k f ≤ 11 := by
  unfold Hea.RightF
  split
  · omega
  · split
    · split <;> omega
    · split
      · split <;> omega
      · split <;> omega
theorem RightN_eq (k f : Nat) : ((RightN k f : Nat) : Int) = Hea.RightF k f := by
  have := RightF_nn k f
  unfold RightN
  omega
def hd (l : List Nat) (k0 : Nat) : Hd :=
  if k0 = l.length then ⟨0, 0, 0, 0, 2⟩
  else if RightN (l.getD k0 0 / 16) (l.getD k0 0 % 16) ≠ 0 then ⟨0, 0, 0, 0, RightN (l.getD k0 0 / 16) (l.getD k0 0 % 16)⟩
  else if (Hea.lenF 4 0 0 (l.drop (k0 + 1))).2.2 = 0 then ⟨l.getD k0 0 / 16, l.getD k0 0 % 16, (Hea.lenF 4 0 0 (l.drop (k0 + 1))).1, k0 + 1 + (Hea.lenF 4 0 0 (l.drop (k0 + 1))).2.1, 0⟩
  else ⟨0, 0, 0, 0, (Hea.lenF 4 0 0 (l.drop (k0 + 1))).2.2⟩
theorem getV_hd (l : List Nat) (k0 : Nat) : Hea.getV l k0 = Hea.HV (hd l k0).k (hd l k0).f (hd l k0).n (hd l k0).to (hd l k0).e := by
  have E := RightN_eq (l.getD k0 0 / 16) (l.getD k0 0 % 16)
  by_cases h0 : k0 = l.length
  · have e1 : hd l k0 = ⟨0, 0, 0, 0, 2⟩ := by unfold hd; rw [if_pos h0]
    rw [e1]; unfold Hea.getV; rw [if_pos h0]; rfl
  by_cases h1 : RightN (l.getD k0 0 / 16) (l.getD k0 0 % 16) = 0
  · have h1' : ¬ Hea.RightF ((l.getD k0 0 / 16 : Nat) : Int) ((l.getD k0 0 % 16 : Nat) : Int) ≠ 0 := by rw [← E, h1]; simp
    by_cases h2 : (Hea.lenF 4 0 0 (l.drop (k0 + 1))).2.2 = 0
    · have e1 : hd l k0 = ⟨l.getD k0 0 / 16, l.getD k0 0 % 16, (Hea.lenF 4 0 0 (l.drop (k0 + 1))).1, k0 + 1 + (Hea.lenF 4 0 0 (l.drop (k0 + 1))).2.1, 0⟩ := by unfold hd; rw [if_neg h0, if_neg (by rw [h1]; simp), if_pos h2]
      rw [e1]; unfold Hea.getV; rw [if_neg h0, if_neg h1', if_pos h2]
      simp only [Hea.HV]
      congr 3
    · have e1 : hd l k0 = ⟨0, 0, 0, 0, (Hea.lenF 4 0 0 (l.drop (k0 + 1))).2.2⟩ := by unfold hd; rw [if_neg h0, if_neg (by rw [h1]; simp), if_neg h2]
      rw [e1]; unfold Hea.getV; rw [if_neg h0, if_neg h1', if_neg h2]; rfl
  · have h1' : Hea.RightF ((l.getD k0 0 / 16 : Nat) : Int) ((l.getD k0 0 % 16 : Nat) : Int) ≠ 0 := by rw [← E]; simpa using h1
    have e1 : hd l k0 = ⟨0, 0, 0, 0, RightN (l.getD k0 0 / 16) (l.getD k0 0 % 16)⟩ := by unfold hd; rw [if_neg h0, if_pos h1]
    rw [e1]; unfold Hea.getV; rw [if_neg h0, if_pos h1', ← E]; rfl
theorem lenF_bd : ∀ (g i n : Nat) (l : List Nat), (Hea.lenF g i n l).1 ≤ 4096 ∧ (Hea.lenF g i n l).2.2 ≤ 3 ∧ ((Hea.lenF g i n l).2.2 = 0 → 1 ≤ (Hea.lenF g i n l).2.1 ∧ (Hea.lenF g i n l).2.1 ≤ i + l.length)
  | 0, i, n, l => by simp [Hea.lenF]
  | g + 1, i, n, [] => by simp [Hea.lenF]
  | g + 1, i, n, c :: r => by
    simp only [Hea.lenF]
    split
    · split
      · refine ⟨by assumption, by simp, fun _ => ?_⟩
        show 1 ≤ i + 1 ∧ i + 1 ≤ i + (c :: r).length
        simp
      · simp
    · have := lenF_bd g (i + 1) (n + (c - 128) * 128 ^ i) r
      refine ⟨this.1, this.2.1, fun h => ?_⟩
      have := this.2.2 h
      simp only [List.length_cons]
      omega
theorem hd_bd (l : List Nat) (k0 : Nat) (hk : k0 ≤ l.length) : (hd l k0).n ≤ 4096 ∧ (hd l k0).e ≤ 11 ∧ ((hd l k0).e = 0 → k0 + 2 ≤ (hd l k0).to ∧ (hd l k0).to ≤ l.length) ∧ (hd l k0).to ≤ l.length := by
  have h := lenF_bd 4 0 0 (l.drop (k0 + 1))
  have hr := RightF_nn (l.getD k0 0 / 16 : Nat) (l.getD k0 0 % 16 : Nat)
  have he := RightN_eq (l.getD k0 0 / 16) (l.getD k0 0 % 16)
  rw [List.length_drop] at h
  by_cases h0 : k0 = l.length
  · have e1 : hd l k0 = ⟨0, 0, 0, 0, 2⟩ := by unfold hd; rw [if_pos h0]
    rw [e1]; simp
  by_cases h1 : RightN (l.getD k0 0 / 16) (l.getD k0 0 % 16) = 0
  · by_cases h2 : (Hea.lenF 4 0 0 (l.drop (k0 + 1))).2.2 = 0
    · have e1 : hd l k0 = ⟨l.getD k0 0 / 16, l.getD k0 0 % 16, (Hea.lenF 4 0 0 (l.drop (k0 + 1))).1, k0 + 1 + (Hea.lenF 4 0 0 (l.drop (k0 + 1))).2.1, 0⟩ := by unfold hd; rw [if_neg h0, if_neg (by rw [h1]; simp), if_pos h2]
      rw [e1]
      have := h.2.2 h2
      refine ⟨h.1, by simp, fun _ => ?_, ?_⟩
      · show k0 + 2 ≤ k0 + 1 + _ ∧ k0 + 1 + _ ≤ _
        omega
      · show k0 + 1 + _ ≤ _
        omega
    · have e1 : hd l k0 = ⟨0, 0, 0, 0, (Hea.lenF 4 0 0 (l.drop (k0 + 1))).2.2⟩ := by unfold hd; rw [if_neg h0, if_neg (by rw [h1]; simp), if_neg h2]
      rw [e1]
      exact ⟨by simp, Nat.le_trans h.2.1 (by decide), fun h => absurd h h2, by simp⟩
  · have e1 : hd l k0 = ⟨0, 0, 0, 0, RightN (l.getD k0 0 / 16) (l.getD k0 0 % 16)⟩ := by unfold hd; rw [if_neg h0, if_pos h1]
    rw [e1]
    exact ⟨by simp, by show RightN _ _ ≤ 11; omega, fun h => absurd h h1, by simp⟩
/-- Of as a function of what came. -/
theorem of_ex : ∃ F : Int → Int → Int → ByteArray → Pk × Int, ∀ k f n s, s.size ≤ 140737488351232 →
    (∀ w, Hea.Tab3 w → Calls Tryd.prog 7 #[.agg #[.int .i64 k, .int .i64 f, .int .i64 n, .string s]] w (PkP (F k f n s).1 (F k f n s).2 w)) ∧
    (∀ w, Calls Tryd.prog 8 #[.agg #[.int .i64 k, .int .i64 f, .int .i64 n, .string s]] w (PkP (F k f n s).1 (F k f n s).2 w)) := by
  have h : ∀ k f n : Int, ∀ s : ByteArray, ∃ r : Pk × Int, s.size ≤ 140737488351232 →
      (∀ w, Hea.Tab3 w → Calls Tryd.prog 7 #[.agg #[.int .i64 k, .int .i64 f, .int .i64 n, .string s]] w (PkP r.1 r.2 w)) ∧
      (∀ w, Calls Tryd.prog 8 #[.agg #[.int .i64 k, .int .i64 f, .int .i64 n, .string s]] w (PkP r.1 r.2 w)) := by
    intro k f n s
    by_cases hs : s.size ≤ 140737488351232
    · obtain ⟨P, m, h1, h2⟩ := of_both k f n s hs
      exact ⟨(P, m), fun _ => ⟨h1, h2⟩⟩
    · exact ⟨(pk0 0, 0), fun h => absurd h hs⟩
  exact ⟨fun k f n s => Classical.choose (h k f n s), fun k f n s hs => Classical.choose_spec (h k f n s) hs⟩
noncomputable def OfF : Int → Int → Int → ByteArray → Pk × Int := Classical.choose of_ex
theorem of_F (k f n : Int) (s : ByteArray) (hs : s.size ≤ 140737488351232) :
    (∀ w, Hea.Tab3 w → Calls Tryd.prog 7 #[.agg #[.int .i64 k, .int .i64 f, .int .i64 n, .string s]] w (PkP (OfF k f n s).1 (OfF k f n s).2 w)) ∧
    (∀ w, Calls Tryd.prog 8 #[.agg #[.int .i64 k, .int .i64 f, .int .i64 n, .string s]] w (PkP (OfF k f n s).1 (OfF k f n s).2 w)) := Classical.choose_spec of_ex k f n s hs
/-- What All reads: of at most g packets more, from the place k on, behind those that were read. -/
noncomputable def allF (s : ByteArray) (l : List Nat) : Nat → Nat → List Pk → List Pk × Nat × Int
  | 0, k, acc => (acc, k, 0)
  | g + 1, k, acc =>
    if (hd l k).e = 2 ∨ ((hd l k).e = 0 ∧ l.length < (hd l k).to + (hd l k).n) then (acc, k, 0)
    else if (hd l k).e ≠ 0 then (acc, k, ((hd l k).e : Int))
    else if (OfF (hd l k).k (hd l k).f (hd l k).n (s.extract (hd l k).to ((hd l k).to + (hd l k).n))).2 ≠ 0 then (acc, k, (OfF (hd l k).k (hd l k).f (hd l k).n (s.extract (hd l k).to ((hd l k).to + (hd l k).n))).2)
    else allF s l g ((hd l k).to + (hd l k).n) (acc ++ [(OfF (hd l k).k (hd l k).f (hd l k).n (s.extract (hd l k).to ((hd l k).to + (hd l k).n))).1])
theorem allF_short {s : ByteArray} {l : List Nat} {g k : Nat} {acc : List Pk} (h : (hd l k).e = 2 ∨ ((hd l k).e = 0 ∧ l.length < (hd l k).to + (hd l k).n)) : allF s l (g + 1) k acc = (acc, k, 0) := if_pos h
theorem allF_bad {s : ByteArray} {l : List Nat} {g k : Nat} {acc : List Pk} (h : (hd l k).e ≠ 0) (h2 : (hd l k).e ≠ 2) : allF s l (g + 1) k acc = (acc, k, ((hd l k).e : Int)) :=
  (if_neg (by rintro (x | ⟨x, -⟩)
              · exact h2 x
              · exact h x)).trans (if_pos h)
theorem allF_err {s : ByteArray} {l : List Nat} {g k : Nat} {acc : List Pk} {P : Pk} {m : Int} (h : (hd l k).e = 0) (hl : (hd l k).to + (hd l k).n ≤ l.length) (hO : OfF (hd l k).k (hd l k).f (hd l k).n (s.extract (hd l k).to ((hd l k).to + (hd l k).n)) = (P, m)) (hm : m ≠ 0) : allF s l (g + 1) k acc = (acc, k, m) := by
  have : allF s l (g + 1) k acc = if (OfF (hd l k).k (hd l k).f (hd l k).n (s.extract (hd l k).to ((hd l k).to + (hd l k).n))).2 ≠ 0 then (acc, k, (OfF (hd l k).k (hd l k).f (hd l k).n (s.extract (hd l k).to ((hd l k).to + (hd l k).n))).2) else _ :=
    (if_neg (by rintro (x | ⟨-, x⟩) <;> omega)).trans (if_neg (by simpa using h))
  rw [this, hO, if_pos hm]
theorem allF_ok {s : ByteArray} {l : List Nat} {g k : Nat} {acc : List Pk} {P : Pk} (h : (hd l k).e = 0) (hl : (hd l k).to + (hd l k).n ≤ l.length) (hO : OfF (hd l k).k (hd l k).f (hd l k).n (s.extract (hd l k).to ((hd l k).to + (hd l k).n)) = (P, 0)) : allF s l (g + 1) k acc = allF s l g ((hd l k).to + (hd l k).n) (acc ++ [P]) := by
  have : allF s l (g + 1) k acc = if (OfF (hd l k).k (hd l k).f (hd l k).n (s.extract (hd l k).to ((hd l k).to + (hd l k).n))).2 ≠ 0 then _ else allF s l g ((hd l k).to + (hd l k).n) (acc ++ [(OfF (hd l k).k (hd l k).f (hd l k).n (s.extract (hd l k).to ((hd l k).to + (hd l k).n))).1]) :=
    (if_neg (by rintro (x | ⟨-, x⟩) <;> omega)).trans (if_neg (by simpa using h))
  rw [this, hO, if_neg (by simp)]
/-- A packet in a list: its parts, and the slices that hold its lists. -/
structure Pt where
  p : Pk
  fs : Value
  cs : Value
def Pt.cells (x : Pt) : List Value := (x.p.v x.fs x.cs).toList
theorem Pt.len (x : Pt) : x.cells.length = 24 := rfl
theorem cells_len (L : List Pt) : (L.flatMap Pt.cells).length = L.length * 24 := by
  induction L with
  | nil => rfl
  | cons x L ih => rw [List.flatMap_cons, List.length_append, ih, Pt.len, List.length_cons]; omega
/-- What of a packet lies elsewhere, apart from the block b. -/
structure Rest (b : Option Nat) (x : Pt) (w : World) : Prop where
  f : FisAt w x.fs x.p.fl
  c : IntsAt w x.cs x.p.cl
  af : x.p.fl ≠ [] → x.fs.ownBlock ≠ b ∨ b = none
  ac : x.p.cl ≠ [] → x.cs.ownBlock ≠ b ∨ b = none
theorem fis_to' {w w' : World} {v : Value} {l : List Fi} (h : FisAt w v l) (hs : w.heap.size ≤ w'.heap.size) (hb : l ≠ [] → ∀ g, v.ownBlock = some g → w'.heap[g]? = w.heap[g]?) : FisAt w' v l := by
  by_cases hl : l = []
  · subst hl
    obtain ⟨a, cap, rfl, hc, -⟩ := h
    exact ⟨a, cap, rfl, hc, .inl rfl⟩
  · exact fis_to h hs (hb hl)
theorem ints_to' {w w' : World} {v : Value} {l : List Int} (h : IntsAt w v l) (hs : w.heap.size ≤ w'.heap.size) (hb : l ≠ [] → ∀ g, v.ownBlock = some g → w'.heap[g]? = w.heap[g]?) : IntsAt w' v l := by
  by_cases hl : l = []
  · subst hl
    obtain ⟨a, cap, rfl, hc, -⟩ := h
    exact ⟨a, cap, rfl, hc, .inl rfl⟩
  · exact ints_to h hs (hb hl)
theorem fis_lt {w : World} {v : Value} {l : List Fi} (h : FisAt w v l) (hl : l ≠ []) : ∀ g, v.ownBlock = some g → g < w.heap.size := by
  obtain ⟨a, cap, rfl, hc, h⟩ := h
  rcases h with h | ⟨b, o, rfl, hb, -⟩
  · exact absurd h hl
  · intro g hg; obtain rfl := Option.some.inj hg; exact hb
theorem ints_lt {w : World} {v : Value} {l : List Int} (h : IntsAt w v l) (hl : l ≠ []) : ∀ g, v.ownBlock = some g → g < w.heap.size := by
  obtain ⟨a, cap, rfl, hc, h⟩ := h
  rcases h with h | ⟨b, o, rfl, hb, -⟩
  · exact absurd h hl
  · intro g hg; obtain rfl := Option.some.inj hg; exact hb
theorem Rest.ext {b : Option Nat} {x : Pt} {w w' : World} (h : Rest b x w) (hb : Below w.heap.size w w') : Rest b x w' := ⟨h.f.keep hb (Nat.le_refl _), h.c.keep hb (Nat.le_refl _), h.af, h.ac⟩
/-- Behind an append onto the row in block b, which lies in block b' then. -/
theorem Rest.grown {b b' : Option Nat} {x : Pt} {w w' : World} (h : Rest b x w) (hg : w.grownBy w' b) (hb : b' = b ∨ b' = some w.heap.size) : Rest b' x w' := by
  refine ⟨fis_to' h.f hg.size (fun hl g he => ?_), ints_to' h.c hg.size (fun hl g he => ?_), fun hl => ?_, fun hl => ?_⟩
  · refine hg.block g (fis_lt h.f hl g he) (fun e => ?_)
    rcases h.af hl with h1 | h1
    · exact h1 (he.trans e)
    · rw [h1] at e; cases e
  · refine hg.block g (ints_lt h.c hl g he) (fun e => ?_)
    rcases h.ac hl with h1 | h1
    · exact h1 (he.trans e)
    · rw [h1] at e; cases e
  · rcases hb with rfl | rfl
    · exact h.af hl
    · left; intro e; have := fis_lt h.f hl _ e; omega
  · rcases hb with rfl | rfl
    · exact h.ac hl
    · left; intro e; have := ints_lt h.c hl _ e; omega
/-- A packet that has just been read, beside a row that was there ahead of it. -/
theorem Rest.new {P : Pk} {fs cs : Value} {b : Option Nat} {B : Nat} {w : World} (hf : FisAt w fs P.fl ∧ Fresh B fs) (hc : IntsAt w cs P.cl ∧ Fresh B cs) (hb : ∀ g, b = some g → g < B) : Rest b ⟨P, fs, cs⟩ w := by
  refine ⟨hf.1, hc.1, fun hl => ?_, fun hl => ?_⟩
  · cases b with
    | none => exact .inr rfl
    | some g => left; intro e; have := hf.2 g e; have := hb g rfl; omega
  · cases b with
    | none => exact .inr rfl
    | some g => left; intro e; have := hc.2 g e; have := hb g rfl; omega
/-- The slice v reads as the packets L, in a row that was made behind B. -/
structure Pks (B : Nat) (v : Value) (L : List Pt) (w : World) : Prop where
  o : w.ownsRow B 33 24 v L.length (L.flatMap Pt.cells)
  r : ∀ x ∈ L, Rest v.ownBlock x w
theorem Pks.nil (B : Nat) (w : World) : Pks B (.slice none 0 0) [] w := ⟨World.ownsRow_nil _ _ _ _, fun x hx => by cases hx⟩
theorem Pks.ext {B : Nat} {v : Value} {L : List Pt} {w w' : World} (h : Pks B v L w) (hb : Below w.heap.size w w') : Pks B v L w' := by
  refine ⟨?_, fun x hx => (h.r x hx).ext hb⟩
  obtain ⟨h1, h2⟩ := h.o
  refine ⟨h1, h2.imp id ?_⟩
  rintro ⟨g, cap, cur, hv, hg, hcur, rest⟩
  exact ⟨g, cap, cur, hv, hg, by rw [hb.block g (Array.getElem?_eq_some_iff.1 hcur).1]; exact hcur, rest⟩
theorem Pks.snoc {B : Nat} {v v' : Value} {L : List Pt} {x : Pt} {w w' : World} (h : Pks B v L w) (hx : Rest v.ownBlock x w) (ho : w'.ownsRow B 33 24 v' (L.length + 1) (L.flatMap Pt.cells ++ x.cells)) (hg : w.grownBy w' v.ownBlock) (hb : v'.ownBlock = v.ownBlock ∨ v'.ownBlock = some w.heap.size) : Pks B v' (L ++ [x]) w' := by
  refine ⟨by rw [List.length_append, List.flatMap_append]; simpa using ho, fun y hy => ?_⟩
  rcases List.mem_append.1 hy with hy | hy
  · exact (h.r y hy).grown hg hb
  · obtain rfl := List.mem_singleton.1 hy
    exact hx.grown hg hb
theorem Pks.lt {B : Nat} {v : Value} {L : List Pt} {w : World} (h : Pks B v L w) : ∀ g, v.ownBlock = some g → g < w.heap.size := fun g hg => (h.o.lt g hg).2
/-- What All answers. -/
def AllP (R : List Pk × Nat × Int) (w : World) (e : Ending) (w' : World) : Prop :=
  ∃ v L, e = .returned (.tuple #[v, .int .i64 (R.2.1 : Int), .int .i64 R.2.2]) ∧ Pks w.heap.size v L w' ∧ L.map Pt.p = R.1 ∧ Below w.heap.size w w'
end Go.Proofs.YtmpklaokgogigaaDoor.Pac

/-
  LAYER 16: All, the program's.
-/
namespace Go.Proofs.YtmpklaokgogigaaDoor.Pac
set_option linter.unusedVariables false
set_option linter.unusedSimpArgs false
open Go.Proofs.YtmpklaokgogigaaDoor
open Go.RowKit
theorem info33 : ∃ i z, Tryd.prog.info? 33 = some i ∧ i.zero = some z ∧ i.size = 24 ∧ i.bytes = 280 ∧ z.cells.size = 24 := by
  have h : (Tryd.prog.info? 33).map (fun i => (i.zero.map fun z => z.cells.size, i.size, i.bytes)) = some (some 24, 24, 280) := by kernel_rfl
  cases hi : Tryd.prog.info? 33 with
  | none => rw [hi] at h; cases h
  | some i =>
    rw [hi] at h
    simp only [Option.map_some, Option.some.injEq, Prod.mk.injEq] at h
    obtain ⟨h1, h2, h3⟩ := h
    cases hz : i.zero with
    | none => rw [hz] at h1; cases h1
    | some z => rw [hz] at h1; exact ⟨i, z, rfl, hz, h2, h3, by simpa using h1⟩
theorem fill33 (P : Pk) (f c : Value) (ie : TypeInfo) (z : Value) (h1 : ie.size = 24) : Instr.fill (fun i => some (i * ie.size, ie.size)) ((Array.range (1 * ie.size)).map (z.cells[· % z.cells.size]!)) [(0, .agg (P.v f c))] = some (P.v f c) := by
  rw [h1]
  kernel_rfl
theorem append_pk {w : World} {ops : Array Oper} {rest : List Oper} {o : Oper} {a : Act} {Q : Exit → Act → World → Prop} (hgd : o.guard = none) (s x : Nat)
    (ho : o.op = .call { callee := .builtin .append, args := #[.tmp s, .tmp x], argTypes := #[42, 42] }) (B : Nat) (v : Value) (L : List Pt) (y : Pt) (g : Nat)
    (hs : a.eval (.tmp s) = v) (hx : a.eval (.tmp x) = .slice (some ⟨g, 0, none⟩) 1 1) (hP : Pks B v L w) (hy : Rest v.ownBlock y w) (hg : Blk w g 33 (y.p.v y.fs y.cs))
    (hl : L.length ≤ 4294967297) (hB : B ≤ w.heap.size) (one : y.fs.oneCell' = true ∧ y.cs.oneCell' = true)
    (h : ∀ v' w', Pks B v' (L ++ [y]) w' → w.grownBy w' v.ownBlock → wpList Tryd.prog ops Q rest (a.put o.dst v') w') : wpList Tryd.prog ops Q (o :: rest) a w := by
  obtain ⟨i0, z0, hi, hz0, hz1, hz2, hzs⟩ := info33
  refine wpList_append_own_at w hgd (.tmp s) (.tmp x) 42 ho B 33 i0 z0 24 280 Tryd.underlying42 hi hz0 hz1 hz2 hzs (by decide) v L.length (L.flatMap Pt.cells) hs hP.o ⟨g, 0, none⟩ 1 1 y.cells hx rfl ?_ ?_ (by unfold maxLen; omega) (by omega) hB ?_
  · intro j u hj
    rw [add_off, Nat.zero_add, hg.cell j]
    simpa [Pt.cells] using hj
  · intro u hu
    have := pk_one y.p y.fs y.cs one.1 one.2
    rw [Array.all_eq_true_iff_forall_mem] at this
    exact this u (by simpa [Pt.cells] using hu)
  · intro v' w' ho' hg' _ hb'
    exact h v' w' (hP.snoc hy ho' hg' hb') hg'
theorem build_pk {w : World} {ops : Array Oper} {rest : List Oper} {o : Oper} {a : Act} {Q : Exit → Act → World → Prop} (hgd : o.guard = none) (x : Nat)
    (ho : o.op = .buildSlice 42 1 #[(0, .tmp x)]) (P : Pk) (fs cs : Value) (hx : a.eval (.tmp x) = .agg (P.v fs cs))
    (h : wpList Tryd.prog ops Q rest (a.put o.dst (.slice (some ⟨w.heap.size, 0, none⟩) 1 1)) (w.alloc (.cells (P.v fs cs) 33))) : wpList Tryd.prog ops Q (o :: rest) a w := by
  obtain ⟨i0, z0, hi, hz0, hz1, hz2, hzs⟩ := info33
  refine wpList_buildSlice hgd 42 33 1 #[(0, .tmp x)] ho (P.v fs cs) i0 z0 Tryd.underlying42 hi hz0 (by rw [hz1]; decide) (by rw [hz1]; decide) ?_ h
  have e : (#[(0, Operand.tmp x)].map fun (i, x) => (i, a.eval x)).toList = [(0, .agg (P.v fs cs))] := by simp [hx]
  rw [e]
  exact fill33 P fs cs i0 z0 hz1
theorem Pks.le {B C : Nat} {v : Value} {L : List Pt} {w : World} (h : Pks C v L w) (hB : B ≤ C) : Pks B v L w := by
  refine ⟨⟨h.o.1, h.o.2.imp id ?_⟩, h.r⟩
  rintro ⟨g, cap, cur, hv, hg, rest⟩
  exact ⟨g, cap, cur, hv, Nat.le_trans hB hg, rest⟩
set_option maxHeartbeats 16000000 in
set_option maxRecDepth 100000 in
theorem all_p (s : ByteArray) (w : World) (ht : Hea.Tab3 w) (hs : s.size ≤ 4294967296) : Calls Tryd.prog 11 #[.string s] w (AllP (allF s (txtL s) (s.size + 1) 0 []) w) := by
  obtain ⟨v, w1, hconv, a1, b1⟩ := bytes_of s w
  have h256 := Lib.hid (txt_lt s)
  have hl := txtL_length s
  generalize txtL s = l at *
  obtain ⟨R, hR⟩ : ∃ R, R = allF s l (s.size + 1) 0 [] := ⟨_, rfl⟩
  rw [← hR]
  have A1 := Lib.hid a1
  have B1 := Lib.hid b1
  have hT1 := Lib.hid (ht.keep b1)
  obtain ⟨av, capv, rfl, -, -⟩ := a1
  have hl' : (l.length : Int) ≤ 4294967296 := by omega
  have hsl := Lib.hid hl
  have hL2 : l.length ≤ 4294967296 := by omega
  have hRn : R = allF s l (l.length + 1) 0 [] := by rw [hl]; exact hR
  replace hR := Lib.hid hRn
  clear hl hs hRn b1 ht
  go_enter Tryd.func11, Tryd.ntmps11
  go_wp2
  go_loopw [5, 7] (fun c i wr => ∃ (k g : Nat) (L : List Pt), i = .int .i64 (k : Int) ∧ k ≤ l.length ∧ l.length < k + g ∧ R = allF s l g k (L.map Pt.p) ∧ L.length ≤ k ∧ Pks w1.heap.size c L wr ∧ Below w1.heap.size w1 wr) (fun _ i _ => l.length - (intOf i).toNat)
  case atStart => exact ⟨0, l.length + 1, [], rfl, by omega, by omega, hR.out, by simp, Pks.nil _ _, Below.refl _ _⟩
  case round =>
    obtain ⟨k, g, L, rfl, hk, hg, hRk, hLk, hP, hB⟩ := hrel
    obtain ⟨g, rfl⟩ : ∃ g', g = g' + 1 := ⟨g - 1, by omega⟩
    have BD := hd_bd l k hk
    have hk' : (k : Int) ≤ l.length := by omega
    have GET := Hea.get_any _ l k wr (hT1.out.keep hB) (A1.out.keep hB (Nat.le_refl _)) h256.out (by omega) hk
    unfold Hea.GPost at GET
    rw [getV_hd] at GET
    unfold Hea.HV at GET
    have E1 := Lib.hid (@allF_short s l g k (L.map Pt.p))
    have E2 := Lib.hid (@allF_bad s l g k (L.map Pt.p))
    have E3 := Lib.hid (fun P m => @allF_err s l g k (L.map Pt.p) P m)
    have E4 := Lib.hid (fun P => @allF_ok s l g k (L.map Pt.p) P)
    generalize hd l k = h at *
    obtain ⟨hk0, hf0, hn0, hto, he⟩ := h
    simp only at *
    obtain ⟨va, vc, hva⟩ := own_slice hP.o
    subst hva
    have HB := Lib.hid hB
    have HP := Lib.hid hP
    have HRk := Lib.hid hRk
    replace GET := Lib.hid GET
    clear hB hP hRk
    go_wp2_with fail
    refine GET.out.mono ?_
    rintro e w2 ⟨rfl, b2⟩
    clear GET
    have TA := Lib.hid ((hT1.out.keep HB.out).keep (ext_trans b2 (ext_alloc w2 (.cells #[.int .i64 (hk0 : Int), .int .i64 (hf0 : Int), .int .i64 (hn0 : Int)] 23))))
    have PA := Lib.hid (HP.out.ext (ext_trans b2 (ext_alloc w2 (.cells #[.int .i64 (hk0 : Int), .int .i64 (hf0 : Int), .int .i64 (hn0 : Int)] 23))))
    have BA := Lib.hid (HB.out.trans ((ext_trans b2 (ext_alloc w2 (.cells #[.int .i64 (hk0 : Int), .int .i64 (hf0 : Int), .int .i64 (hn0 : Int)] 23))).mono HB.out.size))
    have PE := PA
    have BE := Lib.hid (B1.out.trans (BA.out.mono B1.out.size))
    have CA := Lib.hid (Blk.new w2 23 #[.int .i64 (hk0 : Int), .int .i64 (hf0 : Int), .int .i64 (hn0 : Int)])
    have bn : (hn0 : Int) ≤ 4096 := by omega
    have bt : (hto : Int) ≤ l.length := by omega
    have be : (he : Int) ≤ 11 := by omega
    have VL := Lib.hid (fun g hg => (HP.out.ext b2).lt g hg)
    clear b2 HP HB
    by_cases h2 : he = 2
    · subst h2
      have hF := Lib.hid (HRk.out.trans (E1.out (.inl rfl)))
      clear E1 E2 E3 E4 HRk BD
      go_wp2_with fail
      refine bodyPost_ret (v := .tuple #[.slice va L.length vc, .int .i64 (k : Int), .int .i64 0]) (by simp [results, Tryd.results11, go_sem]) rfl ?_
      exact ⟨_, L, by rw [hF.out], PE.out.le B1.out.size, by rw [hF.out], BE.out⟩
    by_cases h0 : he = 0
    rotate_left
    · have hF := Lib.hid (HRk.out.trans (E2.out h0 h2))
      have q2 : ((he : Int) == 2) = false := by rw [beq_eq_false_iff_ne]; omega
      have q0 : ((he : Int) == 0) = false := by rw [beq_eq_false_iff_ne]; omega
      have q1 : ((he : Int) != 0) = true := by simp; omega
      replace h0 := Lib.hid h0
      replace h2 := Lib.hid h2
      clear E1 E2 E3 E4 HRk BD
      go_wp2_with fail
      refine bodyPost_ret (v := .tuple #[.slice va L.length vc, .int .i64 (k : Int), .int .i64 (he : Int)]) (by simp [results, Tryd.results11, go_sem]) rfl ?_
      exact ⟨_, L, by rw [hF.out], PE.out.le B1.out.size, by rw [hF.out], BE.out⟩
    subst h0
    by_cases hx : l.length < hto + hn0
    · have hF := Lib.hid (HRk.out.trans (E1.out (.inr ⟨rfl, hx⟩)))
      have hx' : (l.length : Int) - (hto : Int) < (hn0 : Int) := by omega
      clear E1 E2 E3 E4 HRk BD
      go_wp2_with fail
      refine bodyPost_ret (v := .tuple #[.slice va L.length vc, .int .i64 (k : Int), .int .i64 0]) (by simp [results, Tryd.results11, go_sem]) rfl ?_
      exact ⟨_, L, by rw [hF.out], PE.out.le B1.out.size, by rw [hF.out], BE.out⟩
    have hx' : ¬ (l.length : Int) - (hto : Int) < (hn0 : Int) := by omega
    have hx2 : (hto : Int) + (hn0 : Int) ≤ (l.length : Int) := by omega
    have OFC := Lib.hid (of_F hk0 hf0 hn0 (s.extract hto (hto + hn0)) (by rw [ByteArray.size_extract]; omega)).1
    obtain ⟨⟨P, m⟩, hO⟩ : ∃ r, OfF hk0 hf0 hn0 (s.extract hto (hto + hn0)) = r := ⟨_, rfl⟩
    have E3' := Lib.hid (E3.out P m rfl (by omega) hO)
    have E4' := Lib.hid (E4.out P rfl (by omega))
    have hO' := Lib.hid hO
    rw [hO] at OFC
    simp only at OFC
    clear E1 E2 E3 E4 hO
    have bd2 := BD.2.2.1 rfl
    clear BD
    go_wp2_with fail
    have hs1 : (hto : Int) + (hn0 : Int) ≤ (s.size : Int) := by have := hsl.out; omega
    have hs2 : (s.size : Int) ≤ 4294967296 := by have := hsl.out; omega
    have hsn : hto + hn0 ≤ s.size := by have := hsl.out; omega
    clear PE BE
    have hw0 : IntKind.i64.wrap ((hto : Int) + (hn0 : Int)) = (hto : Int) + (hn0 : Int) := IntWalk.i64_in _ (by omega)
    have hw1 : 0 ≤ (hto : Int) + (hn0 : Int) := by omega
    have hw2 : (hto : Int) ≤ (hto : Int) + (hn0 : Int) := by omega
    have hw3 : ((hto : Int) + (hn0 : Int)).toNat = hto + hn0 := by omega
    have KS : Hid (∀ W, Below (w2.alloc (.cells #[.int .i64 (hk0 : Int), .int .i64 (hf0 : Int), .int .i64 (hn0 : Int)] 23)).heap.size (w2.alloc (.cells #[.int .i64 (hk0 : Int), .int .i64 (hf0 : Int), .int .i64 (hn0 : Int)] 23)) W → W.rangeAt w2.heap.size 0 [.int .i64 (hk0 : Int), .int .i64 (hf0 : Int), .int .i64 (hn0 : Int)] ∧ W.cell? ⟨w2.heap.size, 2, none⟩ = some (.int .i64 (hn0 : Int))) := Lib.hid fun W hW => by
      refine ⟨fun j u hj => ?_, (CA.out.ext hW).cell 2⟩
      have := (CA.out.ext hW).cell j
      rw [Nat.zero_add, this]
      simpa using hj
    have BD0 := Lib.hid (ext_drew (w2.alloc (.cells #[.int .i64 (hk0 : Int), .int .i64 (hf0 : Int), .int .i64 (hn0 : Int)] 23)))
    refine wp_region_held_drew (S := fun W => W.rangeAt w2.heap.size 0 [.int .i64 (hk0 : Int), .int .i64 (hf0 : Int), .int .i64 (hn0 : Int)] ∧ W.cell? ⟨w2.heap.size, 2, none⟩ = some (.int .i64 (hn0 : Int))) (by kernel_rfl) (KS.out _ (ext_drew _)) (fun hHeld => ?_)
    refine wpAnyH_take (i := 0) (oi := _) (v := .agg #[.int .i64 (hk0 : Int), .int .i64 (hf0 : Int), .int .i64 (hn0 : Int)]) rfl (by kernel_rfl) (by kernel_rfl) (by kernel_rfl) (fun _ _ _ h => h) (yieldsIf_load_mid (by rfl) 23 _ rfl w2.heap.size 0 (by rfl) [.int .i64 (hk0 : Int), .int .i64 (hf0 : Int), .int .i64 (hn0 : Int)] _ (fun w hSw => hSw.1) Tryd.underlying23 rfl (by kernel_rfl)) (by assumption) ?zr0
    try simp only [Act.put, List.setIfInBounds_toArray, List.set_cons_zero, List.set_cons_succ]
    refine wpAnyH_take (i := 1) (oi := _) (v := ?zv1) rfl (by kernel_rfl) (by kernel_rfl) (by kernel_rfl) (fun _ _ _ h => h) (Or.inl ⟨by rfl, ?zy1⟩) (by assumption) ?zr1
    case zy1 => (intro w hSw; have c2 := hSw.2; go_simp <;> with_reducible rfl)
    try simp only [Act.put, List.setIfInBounds_toArray, List.set_cons_zero, List.set_cons_succ]
    refine wpAnyH_take (i := 2) (oi := _) (v := ?zv2) rfl (by kernel_rfl) (by kernel_rfl) (by kernel_rfl) (fun _ _ _ h => h) (Or.inl ⟨by rfl, ?zy2⟩) (by assumption) ?zr2
    case zy2 => (intro w hSw; have c2 := hSw.2; go_simp <;> with_reducible rfl)
    try simp only [Act.put, List.setIfInBounds_toArray, List.set_cons_zero, List.set_cons_succ]
    refine wpAnyH_take (i := 3) (oi := _) (v := ?zv3) rfl (by kernel_rfl) (by kernel_rfl) (by kernel_rfl) (fun _ _ _ h => h) (Or.inl ⟨by rfl, ?zy3⟩) (by assumption) ?zr3
    case zy3 => (intro w hSw; have c2 := hSw.2; go_simp <;> with_reducible rfl)
    try simp only [Act.put, List.setIfInBounds_toArray, List.set_cons_zero, List.set_cons_succ]
    refine wpAnyH_take (i := 4) (oi := _) (v := ?zv4) rfl (by kernel_rfl) (by kernel_rfl) (by kernel_rfl) (fun _ _ _ h => h) (Or.inl ⟨by rfl, ?zy4⟩) (by assumption) ?zr4
    case zy4 => (intro w hSw; have c2 := hSw.2; go_simp <;> with_reducible rfl)
    try simp only [Act.put, List.setIfInBounds_toArray, List.set_cons_zero, List.set_cons_succ]
    refine wpAnyH_take (i := 5) (oi := _) (v := ?zv5) rfl (by kernel_rfl) (by kernel_rfl) (by kernel_rfl) (fun _ _ _ h => h) (Or.inl ⟨by rfl, ?zy5⟩) (by assumption) ?zr5
    case zy5 => (intro w hSw; have c2 := hSw.2; go_simp <;> with_reducible rfl)
    try simp only [Act.put, List.setIfInBounds_toArray, List.set_cons_zero, List.set_cons_succ]
    refine wpAnyH_take (i := 6) (oi := _) (v := ?zv6) rfl (by kernel_rfl) (by kernel_rfl) (by kernel_rfl) (fun _ _ _ h => h) (Or.inl ⟨by rfl, ?zy6⟩) (by assumption) ?zr6
    case zy6 => (intro w hSw; have c2 := hSw.2; go_simp <;> with_reducible rfl)
    try simp only [Act.put, List.setIfInBounds_toArray, List.set_cons_zero, List.set_cons_succ]
    refine wpAnyH_take (i := 7) (oi := _) (v := ?zv7) rfl (by kernel_rfl) (by kernel_rfl) (by kernel_rfl) (fun _ _ _ h => h) (Or.inl ⟨by rfl, ?zy7⟩) (by assumption) ?zr7
    case zy7 => (intro w hSw; have c2 := hSw.2; go_simp <;> with_reducible rfl)
    try simp only [Act.put, List.setIfInBounds_toArray, List.set_cons_zero, List.set_cons_succ]
    refine wpAnyH_take (i := 8) (oi := _) (v := ?zv8) rfl (by kernel_rfl) (by kernel_rfl) (by kernel_rfl) (fun _ _ _ h => h) (Or.inl ⟨by rfl, ?zy8⟩) (by assumption) ?zr8
    case zy8 => (intro w hSw; have c2 := hSw.2; go_simp <;> with_reducible rfl)
    try simp only [Act.put, List.setIfInBounds_toArray, List.set_cons_zero, List.set_cons_succ]
    refine wpAnyH_ready (rs := [9, 13]) (by kernel_rfl) (by simp) ?_
    refine AllReadyH.cons (o := _) rfl (fun K hK => ?_) (AllReadyH.cons (o := _) rfl (fun K hK => ?_) AllReadyH.nil)
    · go_simp
      refine (OFC.out _ (TA.out.keep BD0.out)).mono ?_
      rintro e w5 ⟨fs, cs, rfl, hf, hc, b5⟩
      go_wp2_with fail
      have q5 := ext_trans BD0.out b5
      refine hK _ _ (KS.out _ q5) (fun hHeld2 => ?_)
      clear hK K
      try simp only [Act.put, List.setIfInBounds_toArray, List.set_cons_zero, List.set_cons_succ]
      refine wpAnyH_take (i := 10) (oi := _) (v := ?zv10) rfl (by kernel_rfl) (by kernel_rfl) (by kernel_rfl) (fun _ _ _ h => h) (Or.inl ⟨by rfl, ?zy10⟩) (by assumption) ?zr10
      case zy10 => (intro w hSw; have c2 := hSw.2; go_simp <;> with_reducible rfl)
      try simp only [Act.put, List.setIfInBounds_toArray, List.set_cons_zero, List.set_cons_succ]
      refine wpAnyH_take (i := 11) (oi := _) (v := ?zv11) rfl (by kernel_rfl) (by kernel_rfl) (by kernel_rfl) (fun _ _ _ h => h) (Or.inl ⟨by rfl, ?zy11⟩) (by assumption) ?zr11
      case zy11 => (intro w hSw; have c2 := hSw.2; go_simp <;> with_reducible rfl)
      try simp only [Act.put, List.setIfInBounds_toArray, List.set_cons_zero, List.set_cons_succ]
      refine wpAnyH_take (i := 12) (oi := _) (v := ?zv12) rfl (by kernel_rfl) (by kernel_rfl) (by kernel_rfl) (fun _ _ _ h => h) (Or.inl ⟨by rfl, ?zy12⟩) (by assumption) ?zr12
      case zy12 => (intro w hSw; have c2 := hSw.2; go_simp <;> with_reducible rfl)
      try simp only [Act.put, List.setIfInBounds_toArray, List.set_cons_zero, List.set_cons_succ]
      refine wpAnyH_ready (rs := [13]) (by kernel_rfl) (by simp) ?_
      refine AllReadyH.cons (o := _) rfl (fun K hK => ?_) AllReadyH.nil
      go_simp
      have A2 := Lib.hid (heap_alloc_new w5 (.cells #[.int .i64 0, .int .i64 0, .bool false, .string ⟨#[]⟩, .string ⟨#[]⟩, .int .i64 0, .bool false, .int .i64 0, .bool false, .int .i64 0, .string ⟨#[]⟩, .bool false, .string ⟨#[]⟩, .string ⟨#[]⟩, .int .i64 0, .bool false, .bool false, .string ⟨#[]⟩, .bool false, .string ⟨#[]⟩, .bool false, .int .i64 0, .slice none 0 0, .slice none 0 0] 33))
      have A3 := Lib.hid (World.setRow_alloc_new w5 #[.int .i64 0, .int .i64 0, .bool false, .string ⟨#[]⟩, .string ⟨#[]⟩, .int .i64 0, .bool false, .int .i64 0, .bool false, .int .i64 0, .string ⟨#[]⟩, .bool false, .string ⟨#[]⟩, .string ⟨#[]⟩, .int .i64 0, .bool false, .bool false, .string ⟨#[]⟩, .bool false, .string ⟨#[]⟩, .bool false, .int .i64 0, .slice none 0 0, .slice none 0 0] (P.v fs cs) 33)
      have o12 := Lib.hid (And.intro (fis_one hf.1) (ints_one hc.1))
      have q6 := ext_trans q5 (ext_alloc w5 (.cells #[.int .i64 0, .int .i64 0, .bool false, .string ⟨#[]⟩, .string ⟨#[]⟩, .int .i64 0, .bool false, .int .i64 0, .bool false, .int .i64 0, .string ⟨#[]⟩, .bool false, .string ⟨#[]⟩, .string ⟨#[]⟩, .int .i64 0, .bool false, .bool false, .string ⟨#[]⟩, .bool false, .string ⟨#[]⟩, .bool false, .int .i64 0, .slice none 0 0, .slice none 0 0] 33))
      have q7 := ext_trans q5 (ext_alloc w5 (.cells (P.v fs cs) 33))
      refine hK _ _ (KS.out _ q6) (fun hHeld3 => ?_)
      clear hK K
      try simp only [Act.put, List.setIfInBounds_toArray, List.set_cons_zero, List.set_cons_succ]
      refine wpAnyH_ready (rs := [14]) (by kernel_rfl) (by simp) ?_
      refine AllReadyH.cons (o := _) rfl (fun K hK => ?_) AllReadyH.nil
      refine wp_store_row 33 (.tmp 11) (.tmp 54) rfl w5.heap.size (P.v fs cs) rfl rfl 33 #[.int .i64 0, .int .i64 0, .bool false, .string ⟨#[]⟩, .string ⟨#[]⟩, .int .i64 0, .bool false, .int .i64 0, .bool false, .int .i64 0, .string ⟨#[]⟩, .bool false, .string ⟨#[]⟩, .string ⟨#[]⟩, .int .i64 0, .bool false, .bool false, .string ⟨#[]⟩, .bool false, .string ⟨#[]⟩, .bool false, .int .i64 0, .slice none 0 0, .slice none 0 0] A2.out (pk_size _ _ _) rfl (pk_one _ _ _ o12.out.1 o12.out.2) ?_
      rw [A3.out]
      refine hK _ _ (KS.out _ q7) (fun hHeld4 => ?_)
      clear hK K
      try simp only [Act.put, List.setIfInBounds_toArray, List.set_cons_zero, List.set_cons_succ]
      refine wpAnyH_take (i := 15) (oi := _) (v := ?zv15) rfl (by kernel_rfl) (by kernel_rfl) (by kernel_rfl) (fun _ _ _ h => h) (Or.inl ⟨by rfl, ?zy15⟩) (by assumption) ?zr15
      case zy15 => (intro w hSw; have c2 := hSw.2; go_simp <;> with_reducible rfl)
      try simp only [Act.put, List.setIfInBounds_toArray, List.set_cons_zero, List.set_cons_succ]
      refine wpAnyH_done (by kernel_rfl) ?_ _
      clear hHeld hHeld2 hHeld3 hHeld4
      have ba := ext_alloc w5 (.cells (P.v fs cs) 33)
      have NB := Blk.new w5 33 (P.v fs cs)
      have R9 : Rest (Value.slice va L.length vc).ownBlock ⟨P, fs, cs⟩ (w5.alloc (.cells (P.v fs cs) 33)) := Rest.new (B := (w2.alloc (.cells #[.int .i64 (hk0 : Int), .int .i64 (hf0 : Int), .int .i64 (hn0 : Int)] 23)).heap.size) ⟨hf.1.keep ba (Nat.le_refl _), hf.2⟩ ⟨hc.1.keep ba (Nat.le_refl _), hc.2⟩ (fun g hg => PA.out.lt g hg)
      clear A2 A3 hf hc b5 q5 q6 ba
      generalize w5.alloc (.cells (P.v fs cs) 33) = w9 at *
      generalize w5.heap.size = nb at *
      have PB := Lib.hid (PA.out.ext q7)
      have BB := Lib.hid (BA.out.trans (q7.mono BA.out.size))
      have CB := Lib.hid (CA.out.ext q7)
      have NB' := Lib.hid NB
      have RB := Lib.hid R9
      clear KS TA PA BA CA BD0 OFC q7 NB R9
      by_cases hm : m = 0
      rotate_left
      · have hF := Lib.hid (HRk.out.trans (E3'.out hm))
        have hm' : (m != 0) = true := by simpa using hm
        have BE := Lib.hid (B1.out.trans (BB.out.mono B1.out.size))
        replace hm := Lib.hid hm
        clear E3' E4' HRk
        go_wp2_with fail
        refine bodyPost_ret (v := .tuple #[.slice va L.length vc, .int .i64 (k : Int), .int .i64 m]) (by simp [results, Tryd.results11, go_sem]) rfl ?_
        exact ⟨_, L, by rw [hF.out], PB.out.le B1.out.size, by rw [hF.out], BE.out⟩
      · subst hm
        have hR2 : Hid (R = allF s l g (hto + hn0) ((L ++ [(⟨P, fs, cs⟩ : Pt)]).map Pt.p)) := Lib.hid (by rw [List.map_append]; exact HRk.out.trans (E4'.out hO'.out))
        have KA := Lib.hid (ext_alloc w9 (.cells (P.v fs cs) 33))
        have PC := Lib.hid (PB.out.ext KA.out)
        have RC := Lib.hid (RB.out.ext KA.out)
        have CC := Lib.hid (CB.out.ext KA.out)
        have NC := Lib.hid (Blk.new w9 33 (P.v fs cs))
        have hw9 := Lib.hid (Nat.le_trans BB.out.size KA.out.size)
        clear E3' E4' HRk RB hO'
        have hLb : L.length + 1 ≤ 4294967297 := by omega
        go_wp2_with (first
          | (refine wpList_load_row rfl 33 (.tmp 11) rfl nb rfl 33 (P.v fs cs) (0, 0) _ NB'.out Tryd.underlying33 rfl (pk_size _ _ _) ?_)
          | (refine build_pk rfl 62 rfl P fs cs rfl ?_)
          | (at_builtin; refine append_pk rfl 61 63 rfl w1.heap.size (.slice va L.length vc) L ⟨P, fs, cs⟩ w9.heap.size rfl rfl PC.out RC.out NC.out (by omega) hw9.out o12.out ?_; intro v4 w4 p4 g4; have P4 := Lib.hid p4; have kc := (CC.out.grown g4 (fun e => Nat.lt_irrefl _ (VL.out _ e.symm))).cell 2; have B4 := Lib.hid (BB.out.trans ((KA.out.mono BB.out.size).trans ((Below.refl _ _).grown g4 hw9.out (fun k hk => (PC.out.o.lt k hk).1)))); clear p4 g4))
        go_roundw
        case rel => exact ⟨hto + hn0, g, L ++ [⟨P, fs, cs⟩], by simp, by omega, by omega, hR2.out, by simp; omega, P4.out, B4.out⟩
        case measure => simp [intOf]; omega
    · go_simp
      have A2 := Lib.hid (heap_alloc_new (w2.alloc (.cells #[.int .i64 (hk0 : Int), .int .i64 (hf0 : Int), .int .i64 (hn0 : Int)] 23)).drew (.cells #[.int .i64 0, .int .i64 0, .bool false, .string ⟨#[]⟩, .string ⟨#[]⟩, .int .i64 0, .bool false, .int .i64 0, .bool false, .int .i64 0, .string ⟨#[]⟩, .bool false, .string ⟨#[]⟩, .string ⟨#[]⟩, .int .i64 0, .bool false, .bool false, .string ⟨#[]⟩, .bool false, .string ⟨#[]⟩, .bool false, .int .i64 0, .slice none 0 0, .slice none 0 0] 33))
      have q4 := ext_trans BD0.out (ext_alloc (w2.alloc (.cells #[.int .i64 (hk0 : Int), .int .i64 (hf0 : Int), .int .i64 (hn0 : Int)] 23)).drew (.cells #[.int .i64 0, .int .i64 0, .bool false, .string ⟨#[]⟩, .string ⟨#[]⟩, .int .i64 0, .bool false, .int .i64 0, .bool false, .int .i64 0, .string ⟨#[]⟩, .bool false, .string ⟨#[]⟩, .string ⟨#[]⟩, .int .i64 0, .bool false, .bool false, .string ⟨#[]⟩, .bool false, .string ⟨#[]⟩, .bool false, .int .i64 0, .slice none 0 0, .slice none 0 0] 33))
      refine hK _ _ (KS.out _ q4) (fun hHeld2 => ?_)
      clear hK K
      try simp only [Act.put, List.setIfInBounds_toArray, List.set_cons_zero, List.set_cons_succ]
      refine wpAnyH_ready (rs := [9]) (by kernel_rfl) (by simp) ?_
      refine AllReadyH.cons (o := _) rfl (fun K hK => ?_) AllReadyH.nil
      go_simp
      refine (OFC.out _ (TA.out.keep q4)).mono ?_
      rintro e w5 ⟨fs, cs, rfl, hf, hc, b5⟩
      go_wp2_with fail
      have q5 := ext_trans q4 b5
      refine hK _ _ (KS.out _ q5) (fun hHeld3 => ?_)
      clear hK K
      try simp only [Act.put, List.setIfInBounds_toArray, List.set_cons_zero, List.set_cons_succ]
      refine wpAnyH_take (i := 10) (oi := _) (v := ?zv10b) rfl (by kernel_rfl) (by kernel_rfl) (by kernel_rfl) (fun _ _ _ h => h) (Or.inl ⟨by rfl, ?zy10b⟩) (by assumption) ?zr10b
      case zy10b => (intro w hSw; have c2 := hSw.2; go_simp <;> with_reducible rfl)
      try simp only [Act.put, List.setIfInBounds_toArray, List.set_cons_zero, List.set_cons_succ]
      refine wpAnyH_take (i := 11) (oi := _) (v := ?zv11b) rfl (by kernel_rfl) (by kernel_rfl) (by kernel_rfl) (fun _ _ _ h => h) (Or.inl ⟨by rfl, ?zy11b⟩) (by assumption) ?zr11b
      case zy11b => (intro w hSw; have c2 := hSw.2; go_simp <;> with_reducible rfl)
      try simp only [Act.put, List.setIfInBounds_toArray, List.set_cons_zero, List.set_cons_succ]
      refine wpAnyH_take (i := 12) (oi := _) (v := ?zv12b) rfl (by kernel_rfl) (by kernel_rfl) (by kernel_rfl) (fun _ _ _ h => h) (Or.inl ⟨by rfl, ?zy12b⟩) (by assumption) ?zr12b
      case zy12b => (intro w hSw; have c2 := hSw.2; go_simp <;> with_reducible rfl)
      try simp only [Act.put, List.setIfInBounds_toArray, List.set_cons_zero, List.set_cons_succ]
      have o12 := Lib.hid (And.intro (fis_one hf.1) (ints_one hc.1))
      have zz : (w2.alloc (.cells #[.int .i64 (hk0 : Int), .int .i64 (hf0 : Int), .int .i64 (hn0 : Int)] 23)).drew.heap.size = w2.heap.size + 1 := by simp
      have A4 : Hid (w5.heap[w2.heap.size + 1]? = some (.cells #[.int .i64 0, .int .i64 0, .bool false, .string ⟨#[]⟩, .string ⟨#[]⟩, .int .i64 0, .bool false, .int .i64 0, .bool false, .int .i64 0, .string ⟨#[]⟩, .bool false, .string ⟨#[]⟩, .string ⟨#[]⟩, .int .i64 0, .bool false, .bool false, .string ⟨#[]⟩, .bool false, .string ⟨#[]⟩, .bool false, .int .i64 0, .slice none 0 0, .slice none 0 0] 33 (0, 0))) := Lib.hid (zz ▸ ((b5.block _ (by simp)).trans A2.out))
      have NB0 : Blk (w5.setRow (w2.heap.size + 1) (P.v fs cs)) (w2.heap.size + 1) 33 (P.v fs cs) := setRow_heap _ _ _ _ 33 (0, 0) A4.out
      have q7 : Below (w2.alloc (.cells #[.int .i64 (hk0 : Int), .int .i64 (hf0 : Int), .int .i64 (hn0 : Int)] 23)).heap.size (w2.alloc (.cells #[.int .i64 (hk0 : Int), .int .i64 (hf0 : Int), .int .i64 (hn0 : Int)] 23)) (w5.setRow (w2.heap.size + 1) (P.v fs cs)) := below_setRow q5 (by simp) _
      refine wpAnyH_ready (rs := [14]) (by kernel_rfl) (by simp) ?_
      refine AllReadyH.cons (o := _) rfl (fun K hK => ?_) AllReadyH.nil
      refine wp_store_row 33 (.tmp 11) (.tmp 54) rfl (w2.heap.size + 1) (P.v fs cs) rfl rfl 33 #[.int .i64 0, .int .i64 0, .bool false, .string ⟨#[]⟩, .string ⟨#[]⟩, .int .i64 0, .bool false, .int .i64 0, .bool false, .int .i64 0, .string ⟨#[]⟩, .bool false, .string ⟨#[]⟩, .string ⟨#[]⟩, .int .i64 0, .bool false, .bool false, .string ⟨#[]⟩, .bool false, .string ⟨#[]⟩, .bool false, .int .i64 0, .slice none 0 0, .slice none 0 0] A4.out (pk_size _ _ _) rfl (pk_one _ _ _ o12.out.1 o12.out.2) ?_
      refine hK _ _ (KS.out _ q7) (fun hHeld4 => ?_)
      clear hK K
      try simp only [Act.put, List.setIfInBounds_toArray, List.set_cons_zero, List.set_cons_succ]
      refine wpAnyH_take (i := 15) (oi := _) (v := ?zv15b) rfl (by kernel_rfl) (by kernel_rfl) (by kernel_rfl) (fun _ _ _ h => h) (Or.inl ⟨by rfl, ?zy15b⟩) (by assumption) ?zr15b
      case zy15b => (intro w hSw; have c2 := hSw.2; go_simp <;> with_reducible rfl)
      try simp only [Act.put, List.setIfInBounds_toArray, List.set_cons_zero, List.set_cons_succ]
      refine wpAnyH_done (by kernel_rfl) ?_ _
      clear hHeld hHeld2 hHeld3 hHeld4
      have NB := NB0
      have ba := but_setRow (But.refl (w2.heap.size + 1) w5) (P.v fs cs)
      have R9 : Rest (Value.slice va L.length vc).ownBlock ⟨P, fs, cs⟩ (w5.setRow (w2.heap.size + 1) (P.v fs cs)) := Rest.new (B := (w2.alloc (.cells #[.int .i64 (hk0 : Int), .int .i64 (hf0 : Int), .int .i64 (hn0 : Int)] 23)).heap.size) ⟨ba.fis hf.1 hf.2 (by simp), Fresh.le hf.2 (by simp)⟩ ⟨ba.ints hc.1 hc.2 (by simp), Fresh.le hc.2 (by simp)⟩ (fun g hg => PA.out.lt g hg)
      clear A2 A4 hf hc b5 q4 q5 ba NB0
      generalize w5.setRow (w2.heap.size + 1) (P.v fs cs) = w9 at *
      have PB := Lib.hid (PA.out.ext q7)
      have BB := Lib.hid (BA.out.trans (q7.mono BA.out.size))
      have CB := Lib.hid (CA.out.ext q7)
      have NB' := Lib.hid NB
      have RB := Lib.hid R9
      clear KS TA PA BA CA BD0 OFC q7 NB R9
      by_cases hm : m = 0
      rotate_left
      · have hF := Lib.hid (HRk.out.trans (E3'.out hm))
        have hm' : (m != 0) = true := by simpa using hm
        have BE := Lib.hid (B1.out.trans (BB.out.mono B1.out.size))
        replace hm := Lib.hid hm
        clear E3' E4' HRk
        go_wp2_with fail
        refine bodyPost_ret (v := .tuple #[.slice va L.length vc, .int .i64 (k : Int), .int .i64 m]) (by simp [results, Tryd.results11, go_sem]) rfl ?_
        exact ⟨_, L, by rw [hF.out], PB.out.le B1.out.size, by rw [hF.out], BE.out⟩
      · subst hm
        have hR2 : Hid (R = allF s l g (hto + hn0) ((L ++ [(⟨P, fs, cs⟩ : Pt)]).map Pt.p)) := Lib.hid (by rw [List.map_append]; exact HRk.out.trans (E4'.out hO'.out))
        have KA := Lib.hid (ext_alloc w9 (.cells (P.v fs cs) 33))
        have PC := Lib.hid (PB.out.ext KA.out)
        have RC := Lib.hid (RB.out.ext KA.out)
        have CC := Lib.hid (CB.out.ext KA.out)
        have NC := Lib.hid (Blk.new w9 33 (P.v fs cs))
        have hw9 := Lib.hid (Nat.le_trans BB.out.size KA.out.size)
        clear E3' E4' HRk RB hO'
        have hLb : L.length + 1 ≤ 4294967297 := by omega
        go_wp2_with (first
          | (refine wpList_load_row rfl 33 (.tmp 11) rfl (w2.heap.size + 1) rfl 33 (P.v fs cs) (0, 0) _ NB'.out Tryd.underlying33 rfl (pk_size _ _ _) ?_)
          | (refine build_pk rfl 62 rfl P fs cs rfl ?_)
          | (at_builtin; refine append_pk rfl 61 63 rfl w1.heap.size (.slice va L.length vc) L ⟨P, fs, cs⟩ w9.heap.size rfl rfl PC.out RC.out NC.out (by omega) hw9.out o12.out ?_; intro v4 w4 p4 g4; have P4 := Lib.hid p4; have kc := (CC.out.grown g4 (fun e => Nat.lt_irrefl _ (VL.out _ e.symm))).cell 2; have B4 := Lib.hid (BB.out.trans ((KA.out.mono BB.out.size).trans ((Below.refl _ _).grown g4 hw9.out (fun k hk => (PC.out.o.lt k hk).1)))); clear p4 g4))
        go_roundw
        case rel => exact ⟨hto + hn0, g, L ++ [⟨P, fs, cs⟩], by simp, by omega, by omega, hR2.out, by simp; omega, P4.out, B4.out⟩
        case measure => simp [intOf]; omega
end Go.Proofs.YtmpklaokgogigaaDoor.Pac

/-
  LAYER 16: a packet in a list that was read.
-/
namespace Go.Proofs.YtmpklaokgogigaaDoor.Pac
set_option linter.unusedVariables false
set_option linter.unusedSimpArgs false
open Go.Proofs.YtmpklaokgogigaaDoor
open Go.RowKit
theorem cells_get (L : List Pt) : ∀ (k : Nat) (x : Pt), L[k]? = some x → ∀ j, j < 24 → (L.flatMap Pt.cells)[k * 24 + j]? = x.cells[j]? := by
  induction L with
  | nil => intro k x h; simp at h
  | cons y L ih =>
    intro k x h j hj
    rw [List.flatMap_cons]
    cases k with
    | zero =>
      simp at h; subst h
      rw [Nat.zero_mul, Nat.zero_add, List.getElem?_append_left (by rw [Pt.len]; exact hj)]
    | succ k =>
      have h' : L[k]? = some x := by simpa using h
      rw [List.getElem?_append_right (by rw [Pt.len]; omega), Pt.len, show (k + 1) * 24 + j - 24 = k * 24 + j from by omega]
      exact ih k x h' j hj
theorem Pks.at {B : Nat} {v : Value} {L : List Pt} {w : World} (h : Pks B v L w) {k : Nat} {x : Pt} (hk : L[k]? = some x) : ∃ g cap, v = .slice (some ⟨g, 0, none⟩) L.length cap ∧ g < w.heap.size ∧ L.length ≤ cap ∧ w.rangeAt g (k * 24) x.cells := by
  have hkl := (List.getElem?_eq_some_iff.1 hk).1
  obtain ⟨h1, ⟨rfl, h0⟩ | ⟨g, cap, cur, hv, hg, hcur, hn, hm, hsz, ht⟩⟩ := h.o
  · omega
  · refine ⟨g, cap, hv, (Array.getElem?_eq_some_iff.1 hcur).1, hn, fun j u hj => ?_⟩
    have hj24 : j < 24 := by have := (List.getElem?_eq_some_iff.1 hj).1; rwa [Pt.len] at this
    have hc := cells_get L k x hk j hj24
    rw [hj, ← ht, List.getElem?_take] at hc
    have hlt : k * 24 + j < L.length * 24 := by omega
    rw [if_pos hlt] at hc
    rw [cell_of_row w g _ cur 33 (0, 0) hcur, ← Array.getElem?_toList]
    exact hc
end Go.Proofs.YtmpklaokgogigaaDoor.Pac

/-
  LAYER 16: slices.Clone of filters and of numbers.
-/
namespace Go.Proofs.YtmpklaokgogigaaDoor.Pac
set_option linter.unusedVariables false
set_option linter.unusedSimpArgs false
open Go.Proofs.YtmpklaokgogigaaDoor
open Go.RowKit
theorem info56 : ∃ i z, Tryd.prog.info? 56 = some i ∧ i.zero = some z ∧ i.size = 2 ∧ i.bytes = 24 ∧ z.cells.size = 2 := by
  have h : (Tryd.prog.info? 56).map (fun i => (i.zero.map fun z => z.cells.size, i.size, i.bytes)) = some (some 2, 2, 24) := by kernel_rfl
  cases hi : Tryd.prog.info? 56 with
  | none => rw [hi] at h; cases h
  | some i =>
    rw [hi] at h
    simp only [Option.map_some, Option.some.injEq, Prod.mk.injEq] at h
    obtain ⟨h1, h2, h3⟩ := h
    cases hz : i.zero with
    | none => rw [hz] at h1; cases h1
    | some z => rw [hz] at h1; exact ⟨i, z, rfl, hz, h2, h3, by simpa using h1⟩
theorem info3 : ∃ i z, Tryd.prog.info? 3 = some i ∧ i.zero = some z ∧ i.size = 1 ∧ i.bytes = 8 ∧ z.cells.size = 1 := by
  have h : (Tryd.prog.info? 3).map (fun i => (i.zero.map fun z => z.cells.size, i.size, i.bytes)) = some (some 1, 1, 8) := by kernel_rfl
  cases hi : Tryd.prog.info? 3 with
  | none => rw [hi] at h; cases h
  | some i =>
    rw [hi] at h
    simp only [Option.map_some, Option.some.injEq, Prod.mk.injEq] at h
    obtain ⟨h1, h2, h3⟩ := h
    cases hz : i.zero with
    | none => rw [hz] at h1; cases h1
    | some z => rw [hz] at h1; exact ⟨i, z, rfl, hz, h2, h3, by simpa using h1⟩
theorem fis_cells {w : World} {b o : Nat} {l : List Fi} (h : ∀ i f, l[i]? = some f → w.cell? ⟨b, o + i * 2, none⟩ = some (.string f.t) ∧ w.cell? ⟨b, o + i * 2 + 1, none⟩ = some (.int .i64 f.q)) (j : Nat) (u : Value) (hj : (fisC l)[j]? = some u) : w.cell? ((⟨b, o, none⟩ : Addr).add j) = some u := by
  have hlt : j < l.length * 2 := by
    have := (List.getElem?_eq_some_iff.1 hj).1
    rwa [fisC_length] at this
  have hf : l[j / 2]? = some (l[j / 2]'(by omega)) := List.getElem?_eq_getElem (by omega)
  obtain ⟨g1, g2⟩ := fisC_get l (j / 2) _ hf
  obtain ⟨h1, h2⟩ := h (j / 2) _ hf
  rw [add_off]
  rcases Nat.mod_two_eq_zero_or_one j with hm | hm
  · have e : j / 2 * 2 = j := by omega
    rw [e] at g1 h1
    rw [h1, ← hj, g1]
  · have e : j / 2 * 2 + 1 = j := by omega
    rw [e] at g2
    rw [show o + j / 2 * 2 + 1 = o + j from by omega] at h2
    rw [h2, ← hj, g2]
theorem fisC_one (l : List Fi) : ∀ u ∈ fisC l, u.oneCell' = true := by
  intro u hu
  unfold fisC at hu
  obtain ⟨f, -, hf⟩ := List.mem_flatMap.1 hu
  simp only [Fi.cells, List.mem_cons, List.not_mem_nil, or_false] at hf
  rcases hf with rfl | rfl <;> rfl
def CloF (l : List Fi) (w : World) (e : Ending) (w' : World) : Prop := ∃ v', e = .returned v' ∧ (FisAt w' v' l ∧ Fresh w.heap.size v') ∧ Below w.heap.size w w'
def CloI (l : List Int) (w : World) (e : Ending) (w' : World) : Prop := ∃ v', e = .returned v' ∧ (IntsAt w' v' l ∧ Fresh w.heap.size v') ∧ Below w.heap.size w w'
set_option maxHeartbeats 1000000 in
set_option maxRecDepth 100000 in
theorem clone_f (v : Value) (l : List Fi) (w : World) (h : FisAt w v l) (hb : l.length * 24 ≤ 140737488355328) : Calls Tryd.prog 25 #[v] w (CloF l w) := by
  have q22 : ∀ (w : World) (a : Option Addr) (n c n' c' : Nat), (binOp .eql 30 (.slice a n c) (.slice none n' c')).run Tryd.prog w = .ok (.bool a.isNone) w := fun w a n c n' c' => Lib.run_eql_slice_nil w _ _ a n c n' c' Tryd.underlying30
  obtain ⟨a, cap, rfl, hl, hc⟩ := h
  obtain ⟨i0, z, hi, hz0, hz1, hz2, hzs⟩ := info56
  cases a with
  | none =>
    have hL : l = [] := by
      rcases hc with h | ⟨b, o, h, -⟩
      · exact h
      · cases h
    subst hL
    clear hc
    go_enter Tryd.func25, Tryd.ntmps25
    go_wp2
    go_ret
    exact ⟨_, rfl, ⟨fis_none _, fresh_nil _⟩, Below.refl _ _⟩
  | some ad =>
    have hcell : ∀ j u, (fisC l)[j]? = some u → w.cell? (ad.add j) = some u := by
      rcases hc with h | ⟨b, o, h, hlt, hcell⟩
      · subst h; intro j u hj; simp [fisC] at hj
      · simp only [Option.some.injEq] at h
        subst h
        exact fis_cells hcell
    clear hc
    replace hcell := Lib.hid hcell
    replace hi := Lib.hid hi
    replace hz0 := Lib.hid hz0
    replace hz1 := Lib.hid hz1
    replace hz2 := Lib.hid hz2
    replace hzs := Lib.hid hzs
    go_enter Tryd.func25, Tryd.ntmps25
    go_wp2_with (at_builtin; refine wpList_append_own _ rfl _ _ 30 rfl w.heap.size 56 i0 z 2 24 Tryd.underlying30 hi.out hz0.out hz1.out hz2.out hzs.out (by decide) (.slice (some ⟨w.heap.size, 0, none⟩) 0 0) 0 [] rfl (World.ownsRow_made w #[] 0 (Nat.le_refl _) (Nat.zero_le _) (by simp)) ad l.length cap (fisC l) rfl (fisC_length l) (fun j u hj => Lib.cell?_alloc_some _ (hcell.out j u hj)) (fisC_one l) (by unfold maxLen; omega) (by omega) (by simp) ?_; intro v1 w1 o1 g1 n1)
    go_ret
    have o2 : w1.ownsRow w.heap.size 56 2 v1 l.length (fisC l) := by simpa using o1
    exact ⟨_, rfl, ⟨FisAt.of_own o2 hl, fresh_own o2 (Nat.le_refl _)⟩, ((Below.refl _ w).alloc (Nat.le_refl _) _).grown g1 (by simp) (fun k hk => by simp [Value.ownBlock] at hk; omega)⟩
set_option maxHeartbeats 1000000 in
set_option maxRecDepth 100000 in
theorem clone_i (v : Value) (l : List Int) (w : World) (h : IntsAt w v l) (hb : l.length * 8 ≤ 140737488355328) : Calls Tryd.prog 26 #[v] w (CloI l w) := by
  have q22 : ∀ (w : World) (a : Option Addr) (n c n' c' : Nat), (binOp .eql 31 (.slice a n c) (.slice none n' c')).run Tryd.prog w = .ok (.bool a.isNone) w := fun w a n c n' c' => Lib.run_eql_slice_nil w _ _ a n c n' c' Tryd.underlying31
  obtain ⟨a, cap, rfl, hl, hc⟩ := h
  obtain ⟨i0, z, hi, hz0, hz1, hz2, hzs⟩ := info3
  cases a with
  | none =>
    have hL : l = [] := by
      rcases hc with h | ⟨b, o, h, -⟩
      · exact h
      · cases h
    subst hL
    clear hc
    go_enter Tryd.func26, Tryd.ntmps26
    go_wp2
    go_ret
    exact ⟨_, rfl, ⟨ints_none _, fresh_nil _⟩, Below.refl _ _⟩
  | some ad =>
    have hcell : ∀ j u, (il l)[j]? = some u → w.cell? (ad.add j) = some u := by
      rcases hc with h | ⟨b, o, h, hlt, hcell⟩
      · subst h; intro j u hj; simp [il] at hj
      · simp only [Option.some.injEq] at h
        subst h
        intro j u hj
        have hjl : j < l.length := by have := (List.getElem?_eq_some_iff.1 hj).1; simpa [il] using this
        rw [add_off, hcell j hjl, ← hj]
        simp [il, List.getD, List.getElem?_eq_getElem hjl]
    clear hc
    replace hcell := Lib.hid hcell
    replace hi := Lib.hid hi
    replace hz0 := Lib.hid hz0
    replace hz1 := Lib.hid hz1
    replace hz2 := Lib.hid hz2
    replace hzs := Lib.hid hzs
    go_enter Tryd.func26, Tryd.ntmps26
    go_wp2_with (at_builtin; refine wpList_append_own _ rfl _ _ 31 rfl w.heap.size 3 i0 z 1 8 Tryd.underlying31 hi.out hz0.out hz1.out hz2.out hzs.out (by decide) (.slice (some ⟨w.heap.size, 0, none⟩) 0 0) 0 [] rfl (World.ownsRow_made w #[] 0 (Nat.le_refl _) (Nat.zero_le _) (by simp)) ad l.length cap (il l) rfl (by simp [il]) (fun j u hj => Lib.cell?_alloc_some _ (hcell.out j u hj)) (by intro u hu; unfold il at hu; obtain ⟨x, -, rfl⟩ := List.mem_map.1 hu; rfl) (by unfold maxLen; omega) (by omega) (by simp) ?_; intro v1 w1 o1 g1 n1)
    go_ret
    have o2 : w1.ownsRow w.heap.size 3 1 v1 l.length (il l) := by simpa using o1
    exact ⟨_, rfl, ⟨IntsAt.of_own o2 hl, fresh_own o2 (Nat.le_refl _)⟩, ((Below.refl _ w).alloc (Nat.le_refl _) _).grown g1 (by simp) (fun k hk => by simp [Value.ownBlock] at hk; omega)⟩
end Go.Proofs.YtmpklaokgogigaaDoor.Pac
