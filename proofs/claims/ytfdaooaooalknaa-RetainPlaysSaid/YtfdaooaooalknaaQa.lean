/-
  LAYER 27: the document's list, plain: where a topic stands, and what Keep makes of it.
-/
import Derived.Test.YtfdaooaooalknaaPb
namespace Go.Proofs.Ytfdaooaooalknaa
set_option linter.unusedVariables false
set_option linter.unusedSimpArgs false
open Go.RowKit Go.Maps Go.WideMaps
def pr (t : ByteArray) : List Mg → List Mg
  | [] => []
  | f :: l => if f.a0.toList < t.toList then f :: pr t l else []
def po (t : ByteArray) : List Mg → List Mg
  | [] => []
  | f :: l => if f.a0.toList < t.toList then po t l else f :: l
/-- Is the topic there? -/
def thr (t : ByteArray) (l : List Mg) : Bool := match po t l with | [] => false | f :: _ => decide (f.a0 = t)
theorem pr_po (t : ByteArray) : ∀ l : List Mg, pr t l ++ po t l = l
  | [] => rfl
  | f :: l => by
    unfold pr po
    split
    · rw [List.cons_append, pr_po t l]
    · rfl
theorem pr_lt {t : ByteArray} : ∀ {l : List Mg}, ∀ f ∈ pr t l, f.a0.toList < t.toList
  | [], f, hf => by simp [pr] at hf
  | g :: l, f, hf => by
    unfold pr at hf
    split at hf
    · rename_i h
      rcases List.mem_cons.1 hf with rfl | hf
      · exact h
      · exact pr_lt f hf
    · cases hf
theorem po_head {t : ByteArray} : ∀ {l : List Mg} {f : Mg} {r : List Mg}, po t l = f :: r → ¬ f.a0.toList < t.toList
  | [], f, r, h => by simp [po] at h
  | g :: l, f, r, h => by
    unfold po at h
    split at h
    · exact po_head h
    · rename_i hn
      obtain ⟨rfl, -⟩ := List.cons.inj h
      exact hn
abbrev Up (l : List Mg) : Prop := l.Pairwise fun f g => f.a0.toList < g.a0.toList
theorem str_le {a b : ByteArray} (h1 : ¬ a.toList < b.toList) (h2 : a ≠ b) : b.toList < a.toList := by
  by_cases x : b.toList < a.toList
  · exact x
  · have y := List.le_antisymm (List.not_lt.1 h1) (List.not_lt.1 x)
    exact absurd (by rw [ByteArray.toList_eq, ByteArray.toList_eq] at y; exact (ba_ext y).symm) h2
theorem up_parts {t : ByteArray} {l : List Mg} (h : Up l) : Up (pr t l) ∧ Up (po t l) := by
  have := h
  rw [← pr_po t l] at this
  exact ⟨(List.pairwise_append.1 this).1, (List.pairwise_append.1 this).2.1⟩
/-- It is there: it stands ahead of all that is greater. -/
theorem there_yes {t : ByteArray} {l : List Mg} (h : Up l) (ht : thr t l = true) : ∃ f r, po t l = f :: r ∧ f.a0 = t ∧ l = pr t l ++ f :: r ∧ ∀ g ∈ r, t.toList < g.a0.toList := by
  unfold thr at ht
  cases hp : po t l with
  | nil => rw [hp] at ht; cases ht
  | cons f r =>
    rw [hp] at ht
    have e : f.a0 = t := by simpa using ht
    refine ⟨f, r, rfl, e, by rw [← hp]; exact (pr_po t l).symm, fun g hg => ?_⟩
    have := (up_parts (t := t) h).2
    rw [hp] at this
    rw [← e]
    exact (List.pairwise_cons.1 this).1 g hg
/-- It is not: all behind are greater. -/
theorem there_no {t : ByteArray} {l : List Mg} (h : Up l) (ht : thr t l = false) : ∀ g ∈ po t l, t.toList < g.a0.toList := by
  unfold thr at ht
  cases hp : po t l with
  | nil => intro g hg; cases hg
  | cons f r =>
    rw [hp] at ht
    have e : f.a0 ≠ t := by simpa using ht
    have hf := str_le (po_head hp) e
    have := (up_parts (t := t) h).2
    rw [hp] at this
    intro g hg
    rcases List.mem_cons.1 hg with rfl | hg
    · exact hf
    · exact List.lt_trans hf ((List.pairwise_cons.1 this).1 g hg)
theorem ne_of_lt' {a b : ByteArray} (h : a.toList < b.toList) : a ≠ b := fun e => by rw [e] at h; exact List.lt_irrefl _ h
theorem thr_mem {t : ByteArray} {l : List Mg} (h : Up l) : thr t l = true ↔ ∃ f ∈ l, f.a0 = t := by
  constructor
  · intro ht
    obtain ⟨f, r, -, e, hl, -⟩ := there_yes h ht
    exact ⟨f, by rw [hl]; simp, e⟩
  · rintro ⟨f, hf, e⟩
    by_cases ht : thr t l = true
    · exact ht
    · have hn := there_no h (by simpa using ht)
      rw [← pr_po t l] at hf
      rcases List.mem_append.1 hf with hf | hf
      · exact absurd e (ne_of_lt' (pr_lt f hf))
      · exact absurd e.symm (ne_of_lt' (hn f hf))
theorem thr_has {D : DataW Value} {L : List Mg} (h : Lst D (fun _ => true) L) (hg : Good D) (t : ByteArray) : thr t L = has D (kS t) := by
  rw [Bool.eq_iff_iff, thr_mem h.up]
  constructor
  · rintro ⟨f, hf, rfl⟩
    exact has_true_of_atKey (h.inn f hf).2.2.2.2
  · intro hh
    obtain ⟨t', x, q, e1, e2, e3, e4⟩ := hg.ent _ hh
    obtain rfl := kS_inj e1
    exact ⟨⟨t, x, q, true⟩, h.all _ rfl ⟨e3, rfl, e2, e4⟩, rfl⟩
/-- What Keep makes of the document's list. -/
def kL (L : List Mg) (t x : ByteArray) (q : Int) : List Mg :=
  if nameB t = false then L else if x.size = 0 then (if thr t L then pr t L ++ (po t L).tail else L)
  else if thr t L then pr t L ++ ⟨t, x, q, true⟩ :: (po t L).tail else if 32 ≤ L.length then L else pr t L ++ ⟨t, x, q, true⟩ :: po t L
theorem up_mid {t : ByteArray} {P Q : List Mg} {n : Mg} (hn : n.a0 = t) (hP : Up P) (hQ : Up Q) (h1 : ∀ f ∈ P, f.a0.toList < t.toList) (h2 : ∀ f ∈ Q, t.toList < f.a0.toList) : Up (P ++ n :: Q) := by
  refine List.pairwise_append.2 ⟨hP, List.pairwise_cons.2 ⟨fun g hg => by rw [hn]; exact h2 g hg, hQ⟩, fun a ha b hb => ?_⟩
  rcases List.mem_cons.1 hb with rfl | hb
  · rw [hn]; exact h1 a ha
  · exact List.lt_trans (h1 a ha) (h2 b hb)
theorem up_two {t : ByteArray} {P Q : List Mg} (hP : Up P) (hQ : Up Q) (h1 : ∀ f ∈ P, f.a0.toList < t.toList) (h2 : ∀ f ∈ Q, t.toList < f.a0.toList) : Up (P ++ Q) :=
  List.pairwise_append.2 ⟨hP, hQ, fun a ha b hb => List.lt_trans (h1 a ha) (h2 b hb)⟩
theorem ind_put {D : DataW Value} {f : Mg} {t x : ByteArray} {q : Int} (h : f.a0 ≠ t) : InD (D.put (kS t) (.held (mV t x q true))) f ↔ InD D f := by
  unfold InD
  simp only [atKey_put_other (kS_ne h)]
theorem ind_del {D : DataW Value} {f : Mg} {t : ByteArray} (h : f.a0 ≠ t) : InD (D.del (kS t)) f ↔ InD D f := by
  unfold InD
  simp only [atKey_del_other (kS_ne h)]
theorem kL_lst {D : DataW Value} {L : List Mg} (h : Lst D (fun _ => true) L) (hg : Good D) (ht : Tidy D) (hfull : L.length = size D) (t x : ByteArray) (q : Int) : Lst (kD D t x q) (fun _ => true) (kL L t x q) := by
  unfold kD kL
  by_cases h1 : nameB t = false
  · rw [if_pos h1, if_pos h1]; exact h
  rw [if_neg h1, if_neg h1]
  have hth := thr_has h hg t
  have hP : ∀ f ∈ pr t L, f.a0 ≠ t := fun f hf => ne_of_lt' (pr_lt f hf)
  by_cases h2 : x.size = 0
  · rw [if_pos h2, if_pos h2]
    have sd := size_del (k := kS t) ht
    by_cases h3 : thr t L = true
    · rw [if_pos h3]
      obtain ⟨f0, r, e0, e1, e2, e3⟩ := there_yes h.up h3
      rw [e0, List.tail_cons]
      have hR : ∀ f ∈ r, f.a0 ≠ t := fun f hf => (ne_of_lt' (e3 f hf)).symm
      have ul := (up_parts (t := t) h.up).2
      rw [e0] at ul
      rw [← hth, h3] at sd
      refine ⟨fun f hf => ⟨rfl, ?_⟩, fun f _ hi => ?_, up_two (up_parts h.up).1 (List.pairwise_cons.1 ul).2 pr_lt e3, ?_⟩
      · rcases List.mem_append.1 hf with hf | hf
        · exact (ind_del (hP f hf)).2 (h.inn f (by rw [e2]; exact List.mem_append_left _ hf)).2
        · exact (ind_del (hR f hf)).2 (h.inn f (by rw [e2]; exact List.mem_append_right _ (List.mem_cons_of_mem _ hf))).2
      · by_cases e : f.a0 = t
        · have := hi.2.2.2 (.nil)
          rw [e, atKey_del_same] at this
          cases this
        · have := h.all f rfl ((ind_del e).1 hi)
          rw [e2] at this
          rcases List.mem_append.1 this with hf | hf
          · exact List.mem_append_left _ hf
          · rcases List.mem_cons.1 hf with rfl | hf
            · exact absurd e1 e
            · exact List.mem_append_right _ hf
      · have : L.length = (pr t L).length + (r.length + 1) := by
          have := congrArg List.length e2
          simpa using this
        rw [List.length_append]
        rw [if_pos rfl] at sd
        omega
    · rw [if_neg h3]
      have hh : has D (kS t) = false := by rw [← hth]; simpa using h3
      rw [del_of_not_has hh]
      exact h
  rw [if_neg h2, if_neg h2]
  by_cases h3 : thr t L = true
  · rw [if_pos h3]
    have hh : has D (kS t) = true := by rw [← hth]; exact h3
    rw [if_neg (by rw [hh]; simp)]
    obtain ⟨f0, r, e0, e1, e2, e3⟩ := there_yes h.up h3
    rw [e0, List.tail_cons]
    have hR : ∀ f ∈ r, f.a0 ≠ t := fun f hf => (ne_of_lt' (e3 f hf)).symm
    have ul := (up_parts (t := t) h.up).2
    rw [e0] at ul
    have hnew : InD (D.put (kS t) (.held (mV t x q true))) ⟨t, x, q, true⟩ := ⟨h2, rfl, by simpa using h1, fun z => atKey_put_same ht.isMap (kS_key t) _ z⟩
    refine ⟨fun f hf => ⟨rfl, ?_⟩, fun f _ hi => ?_, up_mid rfl (up_parts h.up).1 (List.pairwise_cons.1 ul).2 pr_lt e3, ?_⟩
    · rcases List.mem_append.1 hf with hf | hf
      · exact (ind_put (hP f hf)).2 (h.inn f (by rw [e2]; exact List.mem_append_left _ hf)).2
      · rcases List.mem_cons.1 hf with rfl | hf
        · exact hnew
        · exact (ind_put (hR f hf)).2 (h.inn f (by rw [e2]; exact List.mem_append_right _ (List.mem_cons_of_mem _ hf))).2
    · by_cases e : f.a0 = t
      · have e5 := hi.2.2.2 (.nil)
        rw [e, atKey_put_same ht.isMap (kS_key t)] at e5
        obtain ⟨-, a1, a2, a3⟩ := mV_inj e5
        have : f = ⟨t, x, q, true⟩ := by
          cases f
          simp only at e a1 a2 a3
          subst e a1 a2 a3
          rfl
        rw [this]
        simp
      · have := h.all f rfl ((ind_put e).1 hi)
        rw [e2] at this
        rcases List.mem_append.1 this with hf | hf
        · exact List.mem_append_left _ hf
        · rcases List.mem_cons.1 hf with rfl | hf
          · exact absurd e1 e
          · exact List.mem_append_right _ (List.mem_cons_of_mem _ hf)
    · have : L.length = (pr t L).length + (r.length + 1) := by
        have := congrArg List.length e2
        simpa using this
      rw [size_put ht, if_pos hh, List.length_append, List.length_cons]
      omega
  rw [if_neg h3]
  have h3' : thr t L = false := by simpa using h3
  have hh : has D (kS t) = false := by rw [← hth]; exact h3'
  by_cases h4 : 32 ≤ L.length
  · rw [if_pos h4, if_pos ⟨hh, by rw [← hfull]; exact h4⟩]
    exact h
  rw [if_neg h4, if_neg (fun hx => h4 (by rw [hfull]; exact hx.2))]
  have hQ := there_no h.up h3'
  have hR : ∀ f ∈ po t L, f.a0 ≠ t := fun f hf => (ne_of_lt' (hQ f hf)).symm
  have hnew : InD (D.put (kS t) (.held (mV t x q true))) ⟨t, x, q, true⟩ := ⟨h2, rfl, by simpa using h1, fun z => atKey_put_same ht.isMap (kS_key t) _ z⟩
  have hsplit := pr_po t L
  refine ⟨fun f hf => ⟨rfl, ?_⟩, fun f _ hi => ?_, up_mid rfl (up_parts h.up).1 (up_parts h.up).2 pr_lt hQ, ?_⟩
  · rcases List.mem_append.1 hf with hf | hf
    · exact (ind_put (hP f hf)).2 (h.inn f (by rw [← hsplit]; exact List.mem_append_left _ hf)).2
    · rcases List.mem_cons.1 hf with rfl | hf
      · exact hnew
      · exact (ind_put (hR f hf)).2 (h.inn f (by rw [← hsplit]; exact List.mem_append_right _ hf)).2
  · by_cases e : f.a0 = t
    · have e5 := hi.2.2.2 (.nil)
      rw [e, atKey_put_same ht.isMap (kS_key t)] at e5
      obtain ⟨-, a1, a2, a3⟩ := mV_inj e5
      have : f = ⟨t, x, q, true⟩ := by
        cases f
        simp only at e a1 a2 a3
        subst e a1 a2 a3
        rfl
      rw [this]
      simp
    · have := h.all f rfl ((ind_put e).1 hi)
      rw [← hsplit] at this
      rcases List.mem_append.1 this with hf | hf
      · exact List.mem_append_left _ hf
      · exact List.mem_append_right _ (List.mem_cons_of_mem _ hf)
  · have : L.length = (pr t L).length + (po t L).length := by
      have := congrArg List.length hsplit
      simpa using this.symm
    rw [size_put ht, hh, List.length_append, List.length_cons]
    simp
    omega
end Go.Proofs.Ytfdaooaooalknaa
