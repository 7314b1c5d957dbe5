/-
  LAYER 18: level by level: the document's wants and covers.
-/
import Derived.Test.YtfdaooaooalknaaTb
import Derived.Deep.QuietTactic
namespace Go.Proofs.Ytfdaooaooalknaa
set_option linter.unusedSimpArgs false
set_option linter.unusedVariables false
open Go.RowKit

def wantF : List ByteArray → List ByteArray → Bool
  | [], b => decide (b = [])
  | x :: a, b => if x = isHash then true else
    match b with
    | [] => false
    | y :: b => if x = isPlus ∨ x = y then wantF a b else false
theorem wantF_hash (a b : List ByteArray) : wantF (isHash :: a) b = true := by unfold wantF; simp
theorem wantF_end {x : ByteArray} (a : List ByteArray) (h : x ≠ isHash) : wantF (x :: a) [] = false := by unfold wantF; simp [h]
theorem wantF_yes {x y : ByteArray} (a b : List ByteArray) (h : x ≠ isHash) (h2 : x = isPlus ∨ x = y) : wantF (x :: a) (y :: b) = wantF a b := by rw [wantF]; rw [if_neg h, if_pos h2]
theorem wantF_no {x y : ByteArray} (a b : List ByteArray) (h : x ≠ isHash) (h2 : ¬ (x = isPlus ∨ x = y)) : wantF (x :: a) (y :: b) = false := by rw [wantF]; rw [if_neg h, if_neg h2]
/-- The texts of a slice from a place on. -/
def LiesF (w : World) (g o : Nat) (ss : List ByteArray) : Prop := ∀ i x, ss[i]? = some x → w.cell? ⟨g, o + i, none⟩ = some (.string x)
theorem LiesF.tl {w : World} {g o : Nat} {x : ByteArray} {ss : List ByteArray} (h : LiesF w g o (x :: ss)) : LiesF w g (o + 1) ss := fun i y hy => by
  have := h (i + 1) y (by simpa using hy)
  rw [show o + 1 + i = o + (i + 1) by omega]; exact this
theorem LiesF.hd {w : World} {g o : Nat} {x : ByteArray} {ss : List ByteArray} (h : LiesF w g o (x :: ss)) : w.cell? ⟨g, o, none⟩ = some (.string x) := by
  have := h 0 x rfl
  simpa using this
theorem LiesF.drew {w : World} {g o : Nat} {ss : List ByteArray} (h : LiesF w g o ss) (n : Nat) : LiesF (w.drewN n) g o ss := fun i x hx => by
  have := h i x hx
  simpa using this
def Pure (v : Value) (w : World) (e : Ending) (w' : World) : Prop := e = .returned v ∧ ∃ m, w' = w.drewN m
theorem eq_hash_no {x : ByteArray} (h : x ≠ isHash) : (x.toList == [35]) = false := by rw [is_hash, decide_eq_false h]
theorem eq_hash_yes : (isHash.toList == [35]) = true := by rw [is_hash, decide_eq_true rfl]
theorem eq_plus_yes : (isPlus.toList == [43]) = true := by rw [is_plus, decide_eq_true rfl]
theorem eq_plus_no {x : ByteArray} (h : x ≠ isPlus) : (x.toList == [43]) = false := by rw [is_plus, decide_eq_false h]
theorem step_off (w : World) (g o c : Nat) (f : List ByteArray) (h : f.length + 1 ≤ c) (hf : LiesF w g (o + 1) f) : ∃ o1, (if c = 1 then some (⟨g, o, none⟩ : Addr) else some ⟨g, o + 1, none⟩) = some ⟨g, o1, none⟩ ∧ LiesF w g o1 f := by
  by_cases hc : c = 1
  · refine ⟨o, by rw [if_pos hc], ?_⟩
    have : f = [] := List.length_eq_zero_iff.1 (by omega)
    subst this
    intro i x hx; simp at hx
  · exact ⟨o + 1, by rw [if_neg hc], hf⟩
set_option maxHeartbeats 2000000 in
set_option maxRecDepth 100000 in
theorem wants_any : ∀ (F N : List ByteArray) (w : World) (g o c g' o' c' : Nat), F.length ≤ c → F.length ≤ 4194304 → N.length ≤ c' → N.length ≤ 4194304 → LiesF w g o F → LiesF w g' o' N →
    Calls Try.prog 36 #[.slice (some ⟨g, o, none⟩) F.length c, .slice (some ⟨g', o', none⟩) N.length c'] w (Pure (.bool (wantF F N)) w) := by
  intro F
  induction F with
  | nil =>
    intro N w g o c g' o' c' h1 h2 h3 h4 hF hN
    have hv : wantF [] N = ((N.length : Int) == 0) := by
      unfold wantF
      cases N <;> simp
      omega
    rw [hv]
    clear hv h1 h2
    have hN' : (N.length : Int) ≤ 4194304 := by omega
    go_enter Try.func36, Try.ntmps36
    go_wp2_with fail
    go_ret
    exact ⟨rfl, 0, rfl⟩
  | cons x f ih =>
    intro N w g o c g' o' c' h1 h2 h3 h4 hF hN
    have c1 := hF.hd
    have l2 : ¬ ((f.length : Int) + 1 = 0) := by omega
    have l3 : ((f.length : Int) + 1 == 0) = false := by rw [beq_eq_false_iff_ne]; exact l2
    have l4 : (0 : Int) < (f.length : Int) + 1 := by omega
    have l6 : (f.length : Int) + 1 ≤ 4194304 := by simp at h2; omega
    rw [List.length_cons]
    by_cases hx : x = isHash
    · rw [hx, wantF_hash]
      rw [hx] at c1
      have e1 := eq_hash_yes
      clear ih h1 h2 h3 h4 hF hN
      go_enter Try.func36, Try.ntmps36
      go_wp2_with fail
      go_ret
      exact ⟨rfl, 0, rfl⟩
    have e1 := eq_hash_no hx
    cases N with
    | nil =>
      rw [wantF_end _ hx, List.length_nil]
      replace hx := Lib.hid hx
      clear ih h1 h2 h3 h4 hF hN
      go_enter Try.func36, Try.ntmps36
      go_wp2_with fail
      refine wp_region_quiet_lit (by kernel_rfl) (by kernel_rfl) ?_
      repeat (with_reducible refine wpQuiet_step (fun K hK => ?_); go_simp; (first | (with_reducible refine hK _ ?_) | (rw [if_neg (by decide)]; with_reducible refine hK _ ?_) | (apply Exists.intro; refine ⟨fun _ => ?_, hK _ ?_⟩; exact Calls.quiet_of (IH.out _))); clear hK K)
      refine wpQuiet_nil ?_
      intro _ hw'
      obtain ⟨nq, hw''⟩ := hw'
      subst hw''
      go_wp2_with fail
      go_ret
      exact ⟨rfl, _, rfl⟩
    | cons y n =>
      have d1 := hN.hd
      have l8 : (n.length : Int) + 1 ≤ 4194304 := by simp at h4; omega
      have l9 : (0 : Int) < (n.length : Int) + 1 := by omega
      have m1 : (1 : Int) ≤ (f.length : Int) + 1 := by omega
      have m2 : (1 : Int) ≤ (n.length : Int) + 1 := by omega
      obtain ⟨o1, k1, z1⟩ := step_off w g o c f (by simpa using h1) hF.tl
      obtain ⟨o2, k2, z2⟩ := step_off w g' o' c' n (by simpa using h3) hN.tl
      have IH := Lib.hid (fun k => ih n (w.drewN k) g o1 (c - 1) g' o2 (c' - 1) (by simp at h1; omega) (by simp at h2; omega) (by simp at h3; omega) (by simp at h4; omega) (z1.drew k) (z2.drew k))
      rw [List.length_cons]
      clear ih h1 h3 h2 h4 hF hN z1 z2
      by_cases hp : x = isPlus
      · rw [wantF_yes _ _ hx (.inl hp)]
        replace hx := Lib.hid hx
        subst hp
        have e2 := eq_plus_yes
        go_enter Try.func36, Try.ntmps36
        go_wp2_with fail
        refine wp_region_quiet_lit (by kernel_rfl) (by kernel_rfl) ?_
        repeat (with_reducible refine wpQuiet_step (fun K hK => ?_); go_simp; (first | (with_reducible refine hK _ ?_) | (rw [if_neg (by decide)]; with_reducible refine hK _ ?_) | (apply Exists.intro; refine ⟨fun _ => ?_, hK _ ?_⟩; exact Calls.quiet_of (IH.out _))); clear hK K)
        refine wpQuiet_nil ?_
        intro _ hw'
        obtain ⟨nq, hw''⟩ := hw'
        subst hw''
        go_wp2_with fail
        go_ret
        exact ⟨rfl, _, rfl⟩
      have e2 := eq_plus_no hp
      by_cases hy : x = y
      · rw [wantF_yes _ _ hx (.inr hy)]
        replace hx := Lib.hid hx
        replace hp := Lib.hid hp
        subst hy
        go_enter Try.func36, Try.ntmps36
        go_wp2_with fail
        refine wp_region_quiet_lit (by kernel_rfl) (by kernel_rfl) ?_
        repeat (with_reducible refine wpQuiet_step (fun K hK => ?_); go_simp; (first | (with_reducible refine hK _ ?_) | (rw [if_neg (by decide)]; with_reducible refine hK _ ?_) | (apply Exists.intro; refine ⟨fun _ => ?_, hK _ ?_⟩; exact Calls.quiet_of (IH.out _))); clear hK K)
        refine wpQuiet_nil ?_
        intro _ hw'
        obtain ⟨nq, hw''⟩ := hw'
        subst hw''
        go_wp2_with fail
        go_ret
        exact ⟨rfl, _, rfl⟩
      · rw [wantF_no _ _ hx (by rintro (h | h); exact hp h; exact hy h)]
        have e3 := bne_bytes hy
        replace hx := Lib.hid hx
        replace hp := Lib.hid hp
        replace hy := Lib.hid hy
        go_enter Try.func36, Try.ntmps36
        go_wp2_with fail
        refine wp_region_quiet_lit (by kernel_rfl) (by kernel_rfl) ?_
        repeat (with_reducible refine wpQuiet_step (fun K hK => ?_); go_simp; (first | (with_reducible refine hK _ ?_) | (rw [if_neg (by decide)]; with_reducible refine hK _ ?_) | (apply Exists.intro; refine ⟨fun _ => ?_, hK _ ?_⟩; exact Calls.quiet_of (IH.out _))); clear hK K)
        refine wpQuiet_nil ?_
        intro _ hw'
        obtain ⟨nq, hw''⟩ := hw'
        subst hw''
        go_wp2_with fail
        go_ret
        exact ⟨rfl, _, rfl⟩
end Go.Proofs.Ytfdaooaooalknaa
