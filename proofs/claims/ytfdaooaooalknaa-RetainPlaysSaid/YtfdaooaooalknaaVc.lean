/-
  LAYER 18: the document's Match, Wide, Covers.
-/
import Derived.Test.YtfdaooaooalknaaVb
import Derived.Test.YtfdaooaooalknaaTg
import Derived.Test.YtfdaooaooalknaaSg
namespace Go.Proofs.Ytfdaooaooalknaa
set_option linter.unusedSimpArgs false
set_option linter.unusedVariables false
open Go.RowKit

theorem want_cov : ∀ (F N : List ByteArray), (∀ y ∈ N, y ≠ isHash) → wantF F N = covF F N
  | [], N, _ => by unfold wantF covF; rfl
  | x :: f, N, h => by
    by_cases hx : x = isHash
    · rw [hx, wantF_hash, covF_hash]
    cases N with
    | nil => rw [wantF_end _ hx, covF_end _ hx]
    | cons y n =>
      have hy := h y (by simp)
      by_cases hc : x = isPlus ∨ x = y
      · rw [wantF_yes _ _ hx hc, covF_yes _ _ hx (by rcases hc with h | h; exact .inl ⟨h, hy⟩; exact .inr h), want_cov f n (fun z hz => h z (by simp [hz]))]
      · rw [wantF_no _ _ hx hc, covF_no _ _ hx (fun h' => hc (by rcases h' with ⟨h, -⟩ | h; exact .inl h; exact .inr h))]
theorem gB_zero (s : ByteArray) (c : UInt8) (r : List UInt8) (h : s.data.toList = c :: r) : gB s 0 = c.toNat := by
  obtain ⟨⟨l⟩⟩ := s
  simp only at h
  subst h
  rfl
theorem hid_is (s : ByteArray) (h : s.size ≠ 0) : hidB s = decide (gB s 0 = 36) := by
  cases hl : s.data.toList with
  | nil => exact absurd (by have : s.data.toList.length = s.size := Array.length_toList; rw [hl] at this; simpa using this.symm) h
  | cons c r =>
    rw [gB_zero s c r hl]
    unfold hidB
    rw [hl]
    by_cases hc : c = 36
    · subst hc; simp [Lib.hasPrefix, List.isPrefixOf]
    · have : ¬ c.toNat = 36 := fun e => hc (UInt8.toNat_inj.1 e)
      rw [decide_eq_false this]
      simp [Lib.hasPrefix, List.isPrefixOf]
      exact fun e => hc e.symm
theorem lead_is (s : ByteArray) (h : s.size ≠ 0) (hf : filtL (spS s) = true) : leadB s = (decide (gB s 0 = 43) || decide (gB s 0 = 35)) := by
  cases hl : s.data.toList with
  | nil => exact absurd (by have : s.data.toList.length = s.size := Array.length_toList; rw [hl] at this; simpa using this.symm) h
  | cons c r =>
    rw [gB_zero s c r hl]
    have h0 : okAt (spS s) 0 = true := (List.all_eq_true.1 hf) 0 (List.mem_range.2 (by have := spS_pos s; omega))
    have hx : (spS s).getD 0 ⟨#[]⟩ = bs (if c = 47 then [] else c :: (spl r).getD 0 []) := by
      unfold spS
      rw [hl, spl_cons]
      by_cases hc : c = 47
      · rw [if_pos hc, if_pos hc]; rfl
      · rw [if_neg hc, if_neg hc]
        cases hs : spl r with
        | nil => exact absurd hs (spl_ne r)
        | cons p ps => rfl
    unfold okAt at h0
    unfold leadB
    rw [hx] at h0 ⊢
    by_cases hc : c = 47
    · subst hc; rfl
    rw [if_neg hc] at h0 ⊢
    generalize (spl r).getD 0 [] = t at *
    simp only [Bool.or_eq_true, decide_eq_true_eq, Bool.and_eq_true, Bool.not_eq_true'] at h0
    rcases h0 with (h0 | ⟨h0, -⟩) | h0
    · have e : c :: t = [43] := congrArg (fun b : ByteArray => b.data.toList) h0
      simp only [List.cons.injEq] at e
      rw [h0, e.1]; rfl
    · have e : c :: t = [35] := congrArg (fun b : ByteArray => b.data.toList) h0
      simp only [List.cons.injEq] at e
      rw [h0, e.1]; rfl
    · obtain ⟨n1, n2⟩ := plain_of_any h0
      have hk : stK (bs (c :: t)) = 0 := by unfold stK; rw [if_neg n1, if_neg n2]
      rw [hk]
      unfold anyB bs at h0
      simp only [List.any_cons, Bool.or_eq_false_iff, beq_eq_false_iff_ne] at h0
      have a1 : ¬ c.toNat = 43 := fun e => h0.1.1 (UInt8.toNat_inj.1 e)
      have a2 : ¬ c.toNat = 35 := fun e => h0.1.2 (UInt8.toNat_inj.1 e)
      rw [decide_eq_false a1, decide_eq_false a2]; rfl
def shyB (a b : ByteArray) : Bool := (decide (gB a 0 = 43) || decide (gB a 0 = 35)) && decide (gB b 0 = 36)
set_option maxHeartbeats 1000000 in
set_option maxRecDepth 100000 in
theorem shy_any (a b : ByteArray) (w : World) (ha : a.size ≠ 0) (hb : b.size ≠ 0) : Calls Try.prog 35 #[.string a, .string b] w (BoolIs (shyB a b) w) := by
  have i1 : 0 < a.size := by omega
  have i2 : 0 < b.size := by omega
  have g1 := gB_idx a 0 i1
  have g2 := gB_idx b 0 i2
  have i3 : (0 : Int) < a.size := by omega
  have i4 : (0 : Int) < b.size := by omega
  unfold shyB
  rw [← g1, ← g2]
  clear g1 g2 ha hb
  go_enter Try.func35, Try.ntmps35
  go_wp2_with fail
  all_goals go_ret
  all_goals refine ⟨?_, Below.refl _ _⟩
  all_goals show Ending.returned (.bool _) = Ending.returned (.bool _)
  all_goals congr 2
  all_goals rw [Bool.eq_iff_iff]
  all_goals simp only [beq_iff_eq, Bool.and_eq_true, Bool.or_eq_true, decide_eq_true_eq, Bool.false_eq_true]
  all_goals first | omega | exact ⟨fun h => h.elim, fun h => by omega⟩
theorem shy_is {a b : ByteArray} (ha : filterB a = true) (hb : b.size ≠ 0) : shyB a b = (leadB a && hidB b) := by
  have h := (filter_iff _).1 ha
  unfold shyB
  rw [lead_is a ((fits_iff _).1 h.1).1 h.2, hid_is b hb]
theorem spl_lies {w : World} {B : Nat} {v : Value} {s : ByteArray} (h : w.ownsRow B 9 1 v (spS s).length (sl (spS s))) :
    ∃ g cap, v = .slice (some ⟨g, 0, none⟩) (spS s).length cap ∧ (spS s).length ≤ cap ∧ g < w.heap.size ∧ LiesF w g 0 (spS s) := by
  obtain ⟨g, cap, hv, -, hg, hc, hcell⟩ := own_cells h (by have := spS_pos s; omega)
  exact ⟨g, cap, hv, hc, hg, fun i x hx => by rw [Nat.zero_add]; exact hcell i x hx⟩
theorem LiesF.keep {w w' : World} {g o : Nat} {ss : List ByteArray} (h : LiesF w g o ss) (hg : g < w.heap.size) (hb : Below w.heap.size w w') : LiesF w' g o ss := fun i x hx => (hb.cell (by simpa using hg)).trans (h i x hx)
end Go.Proofs.Ytfdaooaooalknaa
