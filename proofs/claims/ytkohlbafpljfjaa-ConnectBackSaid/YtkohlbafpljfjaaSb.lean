/-
  LAYER 15: filters; the program's Put, the document's.
-/
import Derived.Test.YtkohlbafpljfjaaSa
import Derived.Deep.DeepMust
namespace Go.Proofs.Ytkohlbafpljfjaa
set_option linter.unusedSimpArgs false
set_option linter.unusedVariables false
open Go.RowKit

structure Fi where
  t : ByteArray
  q : Int
def Fi.cells (f : Fi) : List Value := [.string f.t, .int .i64 f.q]
def Fi.ok (f : Fi) : Prop := f.t.size ≤ 140737488351232 ∧ -9223372036854775808 ≤ f.q ∧ f.q ≤ 9223372036854775807
/-- The slice value v reads as the filters l. -/
def FisAt (w : World) (v : Value) (l : List Fi) : Prop :=
  ∃ a cap, v = .slice a l.length cap ∧ l.length ≤ 9223372036854775807 ∧ (l = [] ∨ ∃ b o, a = some ⟨b, o, none⟩ ∧ b < w.heap.size ∧ ∀ i f, l[i]? = some f → w.cell? ⟨b, o + i * 2, none⟩ = some (.string f.t) ∧ w.cell? ⟨b, o + i * 2 + 1, none⟩ = some (.int .i64 f.q))
theorem FisAt.keep {w w' : World} {v : Value} {l : List Fi} (h : FisAt w v l) {B : Nat} (hb : Below B w w') (hB : w.heap.size ≤ B) : FisAt w' v l := by
  obtain ⟨a, cap, hv, hc, h⟩ := h
  refine ⟨a, cap, hv, hc, h.imp id ?_⟩
  rintro ⟨b, o, ha, hlt, hcell⟩
  exact ⟨b, o, ha, Nat.lt_of_lt_of_le hlt hb.size, fun i f hi => by rw [hb.cell (by simpa using by omega), hb.cell (by simpa using by omega)]; exact hcell i f hi⟩
/-- Why a text is none. -/
def txtE (s : ByteArray) : Int := if 65535 < s.size then 3 else if rightB s then 0 else 9
/-- Why a wish may not be. -/
def fiE (ends : Bool) (f : Fi) : Int := if ends = false ∧ (f.q < 0 ∨ 2 < f.q) then 5 else txtE f.t
def fiL (ends : Bool) (f : Fi) : List Nat := rawL f.t ++ if ends then [] else [f.q.toNat]
def firstF (ends : Bool) : List Fi → Int
  | [] => 0
  | f :: l => if fiE ends f ≠ 0 then fiE ends f else firstF ends l
def fisL (ends : Bool) (l : List Fi) : List Nat := l.flatMap (fiL ends)
def putE (id : Int) (l : List Fi) (ends : Bool) : Int :=
  if beginE id l.length ≠ 0 then beginE id l.length else if firstF ends l ≠ 0 then firstF ends l else if 4096 < 2 + (fisL ends l).length then 3 else 0
def putLs (id : Int) (l : List Fi) (ends : Bool) : List Nat := if putE id l ends = 0 then [(id / 256).toNat, (id % 256).toNat] ++ fisL ends l else []
theorem firstF_zero {ends : Bool} {l : List Fi} : firstF ends l = 0 ↔ ∀ f ∈ l, fiE ends f = 0 := by
  induction l with
  | nil => simp [firstF]
  | cons f l ih =>
    rw [firstF]
    by_cases h : fiE ends f = 0
    · rw [if_neg (by simpa using h), ih]; simp [h]
    · rw [if_pos h]
      exact ⟨fun e => absurd e h, fun e => e f (by simp)⟩
theorem firstF_at {ends : Bool} {l : List Fi} {i : Nat} {f : Fi} (h : ∀ g ∈ l.take i, fiE ends g = 0) (hi : l[i]? = some f) (hf : fiE ends f ≠ 0) : firstF ends l = fiE ends f := by
  induction l generalizing i with
  | nil => simp at hi
  | cons g l ih =>
    cases i with
    | zero => simp at hi; subst hi; rw [firstF, if_pos hf]
    | succ k =>
      rw [firstF, if_neg (by simpa using h g (by simp))]
      exact ih (i := k) (fun g hg => h g (by rw [List.take_succ_cons]; exact List.mem_cons_of_mem _ hg)) (by simpa using hi)
theorem fisL_snoc (ends : Bool) (l : List Fi) (f : Fi) : fisL ends (l ++ [f]) = fisL ends l ++ fiL ends f := by simp [fisL]
theorem fisL_len (ends : Bool) (l : List Fi) (h : ∀ f ∈ l, fiE ends f = 0) : (fisL ends l).length ≤ l.length * 65538 := by
  induction l with
  | nil => simp [fisL]
  | cons f l ih =>
    have h1 := h f (by simp)
    have : f.t.size ≤ 65535 := by
      unfold fiE txtE at h1
      by_cases a : ends = false ∧ (f.q < 0 ∨ 2 < f.q)
      · rw [if_pos a] at h1; cases h1
      · rw [if_neg a] at h1
        by_cases b : 65535 < f.t.size
        · rw [if_pos b] at h1; cases h1
        · omega
    have h2 : (fiL ends f).length ≤ 65538 := by
      unfold fiL
      rw [List.length_append, rawL_length]
      cases ends <;> simp <;> omega
    have := ih fun g hg => h g (List.mem_cons_of_mem _ hg)
    simp only [fisL, List.flatMap_cons, List.length_append, List.length_cons] at this ⊢
    omega
/-- A text's bytes, of both sides. -/
def TxtP (s : ByteArray) (w : World) (e : Ending) (w' : World) : Prop := ∃ v, e = .returned (.tuple #[v, .int .i64 (txtE s)]) ∧ Below w.heap.size w w' ∧ (txtE s = 0 → BytesAt w' v (rawL s))
theorem own_bytes {w : World} {B : Nat} {v : Value} {l : List Nat} (h : w.ownsRow B 5 1 v l.length (bl l)) : BytesAt w v l := BytesAt.of_own h
theorem txt_both (s : ByteArray) (w : World) (hs : s.size ≤ 140737488351232) : Calls Try.prog 25 #[.string s] w (TxtP s w) ∧ Calls Try.prog 27 #[.string s] w (TxtP s w) := by
  unfold TxtP txtE
  by_cases h : 65535 < s.size
  · simp only [if_pos h]
    refine ⟨(put_long s w h).mono ?_, (rput_long s w h).mono ?_⟩
    all_goals
      rintro e w' ⟨rfl, hw⟩
      refine ⟨_, rfl, ?_, fun h => by cases h⟩
      first | exact hw | (subst hw; exact Below.refl _ _)
  · simp only [if_neg h]
    cases hr : rightB s
    · refine ⟨(put_bad s w (by omega) hr).mono ?_, (rput_bad s w (by omega) hr).mono ?_⟩
      all_goals
        rintro e w' ⟨rfl, hw⟩
        refine ⟨_, rfl, ?_, fun h => by simp at h⟩
        first | exact hw | (subst hw; exact Below.refl _ _)
    · refine ⟨(put_ok s w (by omega) hr).mono ?_, (rput_ok s w (by omega) hr).mono ?_⟩
      all_goals
        rintro e w' ⟨v, rfl, ho, hw⟩
        exact ⟨v, rfl, hw, fun _ => own_bytes ho⟩
end Go.Proofs.Ytkohlbafpljfjaa
