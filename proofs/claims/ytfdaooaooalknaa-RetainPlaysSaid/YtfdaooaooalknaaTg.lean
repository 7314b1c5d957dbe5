/-
  LAYER 18: from there on: what a/#, a/+, # and +/b want; plain.
-/
import Derived.Test.YtfdaooaooalknaaTf
namespace Go.Proofs.Ytfdaooaooalknaa
set_option linter.unusedSimpArgs false
set_option linter.unusedVariables false
open Go.RowKit

theorem gB_left (a b : ByteArray) (k : Nat) (h : k < a.size) : gB (a ++ b) k = gB a k := by
  have h2 : k < (a ++ b).size := by rw [ByteArray.size_append]; omega
  rw [← gB_idx _ _ h2, ← gB_idx _ _ h, ByteArray.getElem_append_left h]
theorem gB_right (a b : ByteArray) (k : Nat) (h : k < b.size) : gB (a ++ b) (a.size + k) = gB b k := by
  have h2 : a.size + k < (a ++ b).size := by rw [ByteArray.size_append]; omega
  rw [← gB_idx _ _ h2, ← gB_idx _ _ h, ByteArray.getElem_append_right (by omega)]
  simp
theorem wd_asc (g : Nat → Nat) (n i : Nat) (h0 : g i ≠ 0) (h : g i < 128) : wd g n i = 1 := by
  have : stp g n i = (1, g i) := by unfold stp; rw [if_pos h]
  unfold wd; rw [this]; simp [h0]
/-- A right text from a place on is right where it stands elsewhere. -/
theorem Rgt.move {g g' : Nat → Nat} {n n' d d' : Nat} (hn : n' + d = n + d') (hd : d ≤ n) (hg : ∀ k, d + k < n → g' (d' + k) = g (d + k)) : ∀ {j}, Rgt g n j → ∀ i, j = d + i → Rgt g' n' (d' + i) := by
  intro j h
  induction h with
  | fin j h => intro i e; exact .fin _ (by omega)
  | step j h h0 k ih =>
    intro i e; subst e
    have hf := wd_fits g n (d + i) h
    have e := wd_same g g' n n' (d + i) (d' + i) h0 (by omega) (fun k hk => by rw [Nat.add_assoc, Nat.add_assoc]; exact hg _ (by omega))
    exact .step _ (by omega) (by rw [e]; exact h0) (by rw [e, Nat.add_assoc]; exact ih _ (by rw [Nat.add_assoc]))
theorem join_right (a b : ByteArray) (ha : rightB a = true) (hb : rightB b = true) (h : a.size + b.size ≤ 65535) : rightB (a ++ b) = true := by
  unfold rightB at *
  simp only [Bool.and_eq_true, decide_eq_true_eq] at *
  refine ⟨by rw [ByteArray.size_append]; omega, ?_⟩
  have ra := (rtB_iff a).1 ha.2
  have rb := (rtB_iff b).1 hb.2
  refine (rtB_iff _).2 (Rgt.join (m := b.size) (by rw [ByteArray.size_append]) (fun k hk => gB_left a b k hk) ra (by omega) ?_)
  have := Rgt.shift (d := a.size) (g' := gB (a ++ b)) (n' := (a ++ b).size) (by rw [ByteArray.size_append]) (fun k hk => gB_right a b k hk) rb
  simpa using this
/-- What stands behind a right beginning is right. -/
theorem right_tail (a b : ByteArray) (ha : rightB a = true) (h : rightB (a ++ b) = true) : rightB b = true := by
  unfold rightB at *
  simp only [Bool.and_eq_true, decide_eq_true_eq] at *
  have hs : (a ++ b).size = a.size + b.size := ByteArray.size_append
  refine ⟨by omega, ?_⟩
  have ra := (rtB_iff a).1 ha.2
  have rr := (rtB_iff _).1 h.2
  have rc := Rgt.cut (m := b.size) hs.symm (fun k hk => gB_left a b k hk) ra (by omega) rr
  have := Rgt.move (d := a.size) (d' := 0) (g' := gB b) (n' := b.size) (by omega) (by omega) (fun k hk => by rw [gB_right a b k (by omega)]; simp) rc 0 rfl
  exact (rtB_iff _).2 this
abbrev slHash : ByteArray := ⟨#[47, 35]⟩
abbrev slPlus : ByteArray := ⟨#[47, 43]⟩
abbrev plSl : ByteArray := ⟨#[43, 47]⟩
abbrev sl1 : ByteArray := ⟨#[47]⟩
theorem dl (a b : ByteArray) : (a ++ b).data.toList = a.data.toList ++ b.data.toList := by simp
theorem sp_hash (a : ByteArray) : spS (a ++ slHash) = spS a ++ [isHash] := by
  rw [spS_app a isHash _ (by rw [dl]; rfl)]; congr 1
theorem sp_plus (a : ByteArray) : spS (a ++ slPlus) = spS a ++ [isPlus] := by
  rw [spS_app a isPlus _ (by rw [dl]; rfl)]; congr 1
theorem sp_n (a b : ByteArray) : spS ((a ++ sl1) ++ b) = spS a ++ spS b := spS_app a b _ (by rw [dl, dl]; simp)
theorem sp_pl (b : ByteArray) : spS (plSl ++ b) = isPlus :: spS b := by
  rw [spS_app isPlus b _ (by rw [dl]; rfl)]; rfl
theorem first_app (A X : List ByteArray) (h : 1 ≤ A.length) : (A ++ X).getD 0 ⟨#[]⟩ = A.getD 0 ⟨#[]⟩ := by
  cases A with
  | nil => simp at h
  | cons x l => rfl
theorem lead_same {a c : ByteArray} {X : List ByteArray} (h : spS c = spS a ++ X) : leadB c = leadB a := by
  unfold leadB; rw [h, first_app _ _ (spS_pos a)]
theorem hid_same {a c : ByteArray} {X : List ByteArray} (h : spS c = spS a ++ X) : hidB c = hidB a := by
  rw [hid_first c, hid_first a, h, first_app _ _ (spS_pos a)]
theorem fits_iff (s : ByteArray) : fitsB s = true ↔ s.size ≠ 0 ∧ s.size ≤ 96 ∧ rightB s = true ∧ s.data.toList.count 47 < 12 := by
  unfold fitsB; simp only [Bool.and_eq_true, decide_eq_true_eq]
theorem name_iff (s : ByteArray) : nameB s = true ↔ fitsB s = true ∧ anyB s = false := by
  unfold nameB; simp only [Bool.and_eq_true, Bool.not_eq_true']
theorem filt_of {ss : List ByteArray} (h : ∀ x ∈ ss, x = isPlus ∨ anyB x = false) : filtL ss = true := by
  refine filtL_yes fun i hi => ?_
  have hx : ss.getD i ⟨#[]⟩ ∈ ss := by
    rw [List.getD_eq_getElem?_getD, List.getElem?_eq_getElem hi]
    exact List.getElem_mem hi
  unfold okAt
  have hy := h _ hx
  generalize ss.getD i ⟨#[]⟩ = z at *
  rcases hy with e | e
  · simp [e]
  · simp [e]
theorem filter_iff (s : ByteArray) : filterB s = true ↔ fitsB s = true ∧ filtL (spS s) = true := by
  unfold filterB; simp only [Bool.and_eq_true]
theorem fil_plus {a : ByteArray} (hA : nameB a = true) (hF : filterB (a ++ slHash) = true) : filterB (a ++ slPlus) = true := by
  have hA' := (name_iff a).1 hA
  have hf := (fits_iff _).1 ((filter_iff _).1 hF).1
  have hs : (a ++ slPlus).size = (a ++ slHash).size := by rw [ByteArray.size_append, ByteArray.size_append]; rfl
  have ha := (fits_iff _).1 hA'.1
  refine (filter_iff _).2 ⟨(fits_iff _).2 ⟨by rw [hs]; exact hf.1, by rw [hs]; exact hf.2.1, join_right _ _ ha.2.2.1 (by decide +kernel) (by have := ha.2.1; show a.size + 2 ≤ 65535; omega), ?_⟩, ?_⟩
  · have := hf.2.2.2
    rw [dl, List.count_append] at this ⊢
    exact this
  · rw [sp_plus]
    refine filt_of fun x hx => ?_
    rcases List.mem_append.1 hx with h | h
    · exact .inr (any_part hA'.2 h)
    · exact .inl (by simpa using h)
theorem fil_pl {a b : ByteArray} (hA : nameB a = true) (hN : nameB ((a ++ sl1) ++ b) = true) : filterB (plSl ++ b) = true := by
  have hA' := (name_iff a).1 hA
  have hN' := (name_iff _).1 hN
  have ha := (fits_iff _).1 hA'.1
  have hn := (fits_iff _).1 hN'.1
  have s1 : ((a ++ sl1) ++ b).size = a.size + 1 + b.size := by rw [ByteArray.size_append, ByteArray.size_append]; rfl
  have s2 : (plSl ++ b).size = 2 + b.size := by rw [ByteArray.size_append]; rfl
  have r1 : rightB (a ++ sl1) = true := join_right _ _ ha.2.2.1 (by decide +kernel) (by have := ha.2.1; show a.size + 1 ≤ 65535; omega)
  have rb := right_tail _ _ r1 hn.2.2.1
  refine (filter_iff _).2 ⟨(fits_iff _).2 ⟨by omega, by have := hn.2.1; have := ha.1; omega, join_right _ _ (by decide +kernel) rb (by have := hn.2.1; show 2 + b.size ≤ 65535; omega), ?_⟩, ?_⟩
  · have := hn.2.2.2
    rw [dl, dl, List.count_append, List.count_append] at this
    rw [dl, List.count_append]
    have e1 : List.count 47 sl1.data.toList = 1 := by decide
    have e2 : List.count 47 plSl.data.toList = 1 := by decide
    omega
  · rw [sp_pl]
    refine filt_of fun x hx => ?_
    rcases List.mem_cons.1 hx with h | h
    · exact .inl h
    · refine .inr (any_part hN'.2 ?_)
      rw [sp_n]; exact List.mem_append_right _ h
theorem covF_nil_hash : covF [isHash] [] = true := covF_hash _ _
theorem fil_hash : filterB isHash = true := by decide +kernel
theorem lead_hash : leadB isHash = true := by decide +kernel
theorem sp_isHash : spS isHash = [isHash] := by decide +kernel
section
variable {a b : ByteArray} (hA : nameB a = true) (hN : nameB ((a ++ sl1) ++ b) = true) (hF : filterB (a ++ slHash) = true)
include hA
theorem no_hash : ∀ x ∈ spS a, x ≠ isHash := fun x hx => (name_parts hA x hx).2
theorem lead_no : leadB a = false := lead_plain (name_parts hA)
include hF
theorem deep1 : matchB (a ++ slHash) a = true := by
  unfold matchB coverB
  rw [hF, hA, lead_same (sp_hash a), lead_no hA, sp_hash]
  have := covF_app (spS a) [isHash] [] (no_hash hA)
  rw [List.append_nil] at this
  rw [this, covF_nil_hash]; rfl
omit hF in
theorem deep4 : matchB (a ++ slPlus) a = false := by
  unfold matchB coverB
  have := covF_app (spS a) [isPlus] [] (no_hash hA)
  rw [List.append_nil] at this
  rw [sp_plus, this, covF_end _ (fun h => hash_plus h.symm)]
  simp
include hN
theorem deep2 : matchB (a ++ slHash) ((a ++ sl1) ++ b) = true := by
  unfold matchB coverB
  rw [hF, hN, lead_same (sp_hash a), lead_no hA, sp_hash, sp_n, covF_app _ _ _ (no_hash hA), covF_hash]; rfl
theorem deep3 : matchB (a ++ slPlus) ((a ++ sl1) ++ b) = decide ((spS b).length = 1) := by
  unfold matchB coverB
  have pb := spS_pos b
  have hp : ∀ x ∈ spS b, x ≠ isHash := fun x hx => (name_parts hN x (by rw [sp_n]; exact List.mem_append_right _ hx)).2
  rw [fil_plus hA hF, hN, lead_same (sp_plus a), lead_no hA, sp_plus, sp_n, covF_app _ _ _ (no_hash hA)]
  cases hb : spS b with
  | nil => rw [hb] at pb; simp at pb
  | cons y Y =>
    rw [covF_plus _ _ (hp y (by rw [hb]; simp))]
    simp
omit hF
omit hA in
theorem deep5 : matchB isHash ((a ++ sl1) ++ b) = !hidB a := by
  unfold matchB coverB
  rw [fil_hash, hN, lead_hash, hid_same (sp_n a b), sp_isHash, covF_hash]; simp
theorem deep6 : matchB (plSl ++ b) ((a ++ sl1) ++ b) = (!hidB a && decide ((spS a).length = 1)) := by
  unfold matchB coverB
  have pa := spS_pos a
  have hp : ∀ x ∈ spS b, x ≠ isPlus ∧ x ≠ isHash := fun x hx => name_parts hN x (by rw [sp_n]; exact List.mem_append_right _ hx)
  have hl : leadB (plSl ++ b) = true := by unfold leadB; rw [sp_pl]; rfl
  rw [fil_pl hA hN, hN, hl, hid_same (sp_n a b), sp_pl, sp_n]
  have hc : covF (isPlus :: spS b) (spS a ++ spS b) = decide ((spS a).length = 1) := by
    have hq := no_hash hA
    cases ha : spS a with
    | nil => rw [ha] at pa; simp at pa
    | cons x t =>
      rw [List.cons_append, covF_yes _ _ (fun h => hash_plus h.symm) (.inl ⟨rfl, hq x (by rw [ha]; simp)⟩)]
      cases t with
      | nil => simp [covF_refl]
      | cons z t =>
        rw [decide_eq_false (by simp)]
        cases hv : covF (spS b) (z :: t ++ spS b) with
        | false => rfl
        | true =>
          have := congrArg List.length (covF_plain _ _ hp hv)
          simp at this
          omega
  rw [hc]; simp
end
/-- A text too long is no name. -/
theorem fits_big (s : ByteArray) (w : World) (h : 96 < s.size) (hs : s.size ≤ 4194304) : Calls Try.prog 27 #[.string s] w (BoolIs false w) := by
  have he := size1 (s := s) (by omega)
  have h96' : ¬ (s.size : Int) ≤ 96 := by omega
  have hs' : (s.size : Int) ≤ 4194304 := by omega
  replace h := Lib.hid h
  replace hs := Lib.hid hs
  go_enter Try.func27, Try.ntmps27
  go_wp2_with fail
  go_ret
  exact ⟨rfl, Below.refl _ _⟩
theorem nam_all (s : ByteArray) (w : World) (hs : s.size ≤ 4194304) : Calls Try.prog 18 #[.string s] w (BoolIs (nameB s) w) := by
  by_cases h : s.size ≤ 1048576
  · exact nam_any s w h
  have e : nameB s = false := by
    unfold nameB fitsB
    rw [decide_eq_false (p := s.size ≤ 96) (by omega)]; simp
  rw [e]
  have F := Lib.hid (fun w => fits_big s w (by omega) hs)
  replace h := Lib.hid h
  clear hs e
  go_enter Try.func18, Try.ntmps18
  go_wp2_with fail
  refine (F.out _).mono ?_
  rintro e w1 ⟨rfl, b1⟩
  go_wp2_with fail
  go_ret
  exact ⟨rfl, b1⟩
end Go.Proofs.Ytfdaooaooalknaa
