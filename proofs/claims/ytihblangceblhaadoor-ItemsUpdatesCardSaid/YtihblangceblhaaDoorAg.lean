/-
  LAYER 30: just these: plain.
-/
import Derived.Test.YtihblangceblhaaDoorAf
namespace Go.Proofs.YtihblangceblhaaDoor
set_option linter.unusedSimpArgs false
set_option linter.unusedVariables false
open Go.RowKit Go.Maps Go.WideMaps

theorem ents_own {o : ByteArray} {l : List It} : ∀ e ∈ ents o l, e.o = o := by
  intro e he
  unfold ents at he
  obtain ⟨x, -, rfl⟩ := List.mem_map.1 he
  rfl
theorem setT_own {T : List En} {o : ByteArray} {l : List It} (h : ∀ e ∈ T, e.o = o) : ∀ e ∈ setT T o l, e.o = o := by
  intro e he
  unfold setT at he
  split at he
  · rcases List.mem_append.1 he with he | he
    · exact h e (List.mem_filter.1 he).1
    · exact ents_own e he
  · exact h e he
theorem notO_own {T : List En} {o : ByteArray} (h : ∀ e ∈ T, e.o = o) : notO T o = [] := by
  unfold notO
  rw [List.filter_eq_nil_iff]
  intro e he; simp [h e he]
theorem notO_other {T : List En} {o p : ByteArray} (h : ∀ e ∈ T, e.o = o) (hp : o ≠ p) : notO T p = T := by
  unfold notO
  rw [List.filter_eq_self]
  intro e he; rw [h e he]; simpa using hp
theorem usedB_own {T : List En} {o : ByteArray} {s : List Int} {a : Int} (h : ∀ e ∈ T, e.o = o) : usedB T o s a = usedB [] o s a := by
  unfold usedB
  cases hf : findT T a with
  | none => rfl
  | some e => simp [h e (findT_some hf).1, findT]
theorem scan_own {T : List En} {o : ByteArray} (h : ∀ e ∈ T, e.o = o) : ∀ (l : List It) (s : List Int), scan T o s l = scan [] o s l := by
  intro l
  induction l with
  | nil => intro s; rfl
  | cons x l ih => intro s; rw [scan, scan, usedB_own h, ih, ih]
theorem tryE_own {T : List En} {o : ByteArray} {l : List It} (h : ∀ e ∈ T, e.o = o) : tryE T o l = tryE [] o l := by
  unfold tryE
  rw [scan_own h, notO_own h]
  rfl
theorem findV_some {T : List En} {o : ByteArray} (hn : Nd T) {e : En} (he : e ∈ T) (ho : e.o = o) : findV T o e.a = (e.n, true) := by
  unfold findV; rw [findT_mem hn he]; simp [ho]
def hasA (T : List En) (a : Int) : Bool := T.any fun e => decide (e.a = a)
theorem findV_has {T : List En} {o : ByteArray} (h : ∀ e ∈ T, e.o = o) (a : Int) : (findV T o a).2 = hasA T a := by
  unfold findV hasA
  cases hf : findT T a with
  | none =>
    have := findT_none hf
    symm; simp only
    rw [List.any_eq_false]
    intro e he; simpa using this e he
  | some e =>
    obtain ⟨h1, h2⟩ := findT_some hf
    simp only [h e h1, if_true]
    symm; rw [List.any_eq_true]
    exact ⟨e, h1, by simpa using h2⟩
theorem hasA_snoc (T : List En) (e : En) (a : Int) : hasA (T ++ [e]) a = (hasA T a || decide (e.a = a)) := by
  unfold hasA; rw [List.any_append]; simp
end Go.Proofs.YtihblangceblhaaDoor
