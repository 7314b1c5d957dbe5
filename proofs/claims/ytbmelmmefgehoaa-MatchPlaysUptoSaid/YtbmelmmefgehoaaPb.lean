/-
  LAYER 18: the document's covers.
-/
import Derived.Test.YtbmelmmefgehoaaPa
namespace Go.Proofs.Ytbmelmmefgehoaa
open Go.RowKit

set_option maxHeartbeats 2000000 in
set_option maxRecDepth 100000 in
theorem rcovs_any : ∀ (F N : List ByteArray) (w : World) (g o c g' o' c' : Nat), F.length ≤ c → F.length ≤ 4194304 → N.length ≤ c' → N.length ≤ 4194304 → LiesF w g o F → LiesF w g' o' N →
    Calls Try.prog 24 #[.slice (some ⟨g, o, none⟩) F.length c, .slice (some ⟨g', o', none⟩) N.length c'] w (Pure (.bool (covF F N)) w) := by
  intro F
  induction F with
  | nil =>
    intro N w g o c g' o' c' h1 h2 h3 h4 hF hN
    have hv : covF [] N = ((N.length : Int) == 0) := by
      unfold covF
      cases N <;> simp
      omega
    rw [hv]
    clear hv h1 h2
    have hN' : (N.length : Int) ≤ 4194304 := by omega
    go_enter Try.func24, Try.ntmps24
    go_wp2_with fail
    go_ret
    exact ⟨rfl, 0, rfl⟩
  | cons x f ih =>
    intro N w g o c g' o' c' h1 h2 h3 h4 hF hN
    have c1 := hF.hd
    have l2 : ¬ ((f.length : Int) + 1 = 0) := by omega
    have l3 : ((f.length : Int) + 1 == 0) = false := by rw [beq_eq_false_iff_ne]; exact l2
    have l4 : (0 : Int) < (f.length : Int) + 1 := by omega
    have l6 : (f.length : Int) + 1 ≤ 4194304 := by simp at h2; omega
    rw [List.length_cons]
    by_cases hx : x = isHash
    · rw [hx, covF_hash]
      rw [hx] at c1
      have e1 := eq_hash_yes
      clear ih h1 h2 h3 h4 hF hN
      go_enter Try.func24, Try.ntmps24
      go_wp2_with fail
      go_ret
      exact ⟨rfl, 0, rfl⟩
    have e1 := eq_hash_no hx
    cases N with
    | nil =>
      rw [covF_end _ hx, List.length_nil]
      replace hx := Lib.hid hx
      clear ih h1 h2 h3 h4 hF hN
      go_enter Try.func24, Try.ntmps24
      go_wp2_with fail
      refine wp_region_quiet_lit (by kernel_rfl) (by kernel_rfl) ?_
      repeat (with_reducible refine wpQuiet_step (fun K hK => ?_); go_simp; (first | (with_reducible refine hK _ ?_) | (rw [if_neg (by decide)]; with_reducible refine hK _ ?_) | (apply Exists.intro; refine ⟨fun _ => ?_, hK _ ?_⟩; exact Calls.quiet_of (IH.out _))); clear hK K)
      refine wpQuiet_nil ?_
      intro _ hw'
      obtain ⟨nq, hw''⟩ := hw'
      subst hw''
      go_wp2_with fail
      go_ret
      exact ⟨rfl, _, rfl⟩
    | cons y n =>
      have d1 := hN.hd
      have l8 : (n.length : Int) + 1 ≤ 4194304 := by simp at h4; omega
      have l9 : (0 : Int) < (n.length : Int) + 1 := by omega
      have m1 : (1 : Int) ≤ (f.length : Int) + 1 := by omega
      have m2 : (1 : Int) ≤ (n.length : Int) + 1 := by omega
      obtain ⟨o1, k1, z1⟩ := step_off w g o c f (by simpa using h1) hF.tl
      obtain ⟨o2, k2, z2⟩ := step_off w g' o' c' n (by simpa using h3) hN.tl
      have IH := Lib.hid (fun k => ih n (w.drewN k) g o1 (c - 1) g' o2 (c' - 1) (by simp at h1; omega) (by simp at h2; omega) (by simp at h3; omega) (by simp at h4; omega) (z1.drew k) (z2.drew k))
      rw [List.length_cons]
      clear ih h1 h3 h2 h4 hF hN z1 z2
      by_cases hy : x = y
      · rw [covF_yes _ _ hx (.inr hy)]
        replace hx := Lib.hid hx
        subst hy
        go_enter Try.func24, Try.ntmps24
        go_wp2_with fail
        refine wp_region_quiet_lit (by kernel_rfl) (by kernel_rfl) ?_
        repeat (with_reducible refine wpQuiet_step (fun K hK => ?_); go_simp; (first | (with_reducible refine hK _ ?_) | (rw [if_neg (by decide)]; with_reducible refine hK _ ?_) | (apply Exists.intro; refine ⟨fun _ => ?_, hK _ ?_⟩; exact Calls.quiet_of (IH.out _))); clear hK K)
        refine wpQuiet_nil ?_
        intro _ hw'
        obtain ⟨nq, hw''⟩ := hw'
        subst hw''
        go_wp2_with fail
        go_ret
        exact ⟨rfl, _, rfl⟩
      have e3 := bne_bytes hy
      by_cases hp : x = isPlus
      · subst hp
        have e2 := eq_plus_yes
        by_cases hq : y = isHash
        · rw [covF_no _ _ hx (by rintro (⟨-, h⟩ | h); exact h hq; exact hy h)]
          subst hq
          have e4 := eq_hash_yes
          replace hx := Lib.hid hx
          replace hy := Lib.hid hy
          go_enter Try.func24, Try.ntmps24
          go_wp2_with fail
          refine wp_region_quiet_lit (by kernel_rfl) (by kernel_rfl) ?_
          repeat (with_reducible refine wpQuiet_step (fun K hK => ?_); go_simp; (first | (with_reducible refine hK _ ?_) | (rw [if_neg (by decide)]; with_reducible refine hK _ ?_) | (apply Exists.intro; refine ⟨fun _ => ?_, hK _ ?_⟩; exact Calls.quiet_of (IH.out _))); clear hK K)
          refine wpQuiet_nil ?_
          intro _ hw'
          obtain ⟨nq, hw''⟩ := hw'
          subst hw''
          go_wp2_with fail
          go_ret
          exact ⟨rfl, _, rfl⟩
        · rw [covF_yes _ _ hx (.inl ⟨rfl, hq⟩)]
          have e4 := eq_hash_no hq
          have e5 : (y.toList != [35]) = true := by unfold bne; rw [e4]; rfl
          replace hx := Lib.hid hx
          replace hy := Lib.hid hy
          replace hq := Lib.hid hq
          go_enter Try.func24, Try.ntmps24
          go_wp2_with fail
          refine wp_region_quiet_lit (by kernel_rfl) (by kernel_rfl) ?_
          repeat (with_reducible refine wpQuiet_step (fun K hK => ?_); go_simp; (first | (with_reducible refine hK _ ?_) | (rw [if_neg (by decide)]; with_reducible refine hK _ ?_) | (apply Exists.intro; refine ⟨fun _ => ?_, hK _ ?_⟩; exact Calls.quiet_of (IH.out _))); clear hK K)
          refine wpQuiet_nil ?_
          intro _ hw'
          obtain ⟨nq, hw''⟩ := hw'
          subst hw''
          go_wp2_with fail
          go_ret
          exact ⟨rfl, _, rfl⟩
      · have e2 := eq_plus_no hp
        rw [covF_no _ _ hx (by rintro (⟨h, -⟩ | h); exact hp h; exact hy h)]
        replace hx := Lib.hid hx
        replace hp := Lib.hid hp
        replace hy := Lib.hid hy
        go_enter Try.func24, Try.ntmps24
        go_wp2_with fail
        refine wp_region_quiet_lit (by kernel_rfl) (by kernel_rfl) ?_
        repeat (with_reducible refine wpQuiet_step (fun K hK => ?_); go_simp; (first | (with_reducible refine hK _ ?_) | (rw [if_neg (by decide)]; with_reducible refine hK _ ?_) | (apply Exists.intro; refine ⟨fun _ => ?_, hK _ ?_⟩; exact Calls.quiet_of (IH.out _))); clear hK K)
        refine wpQuiet_nil ?_
        intro _ hw'
        obtain ⟨nq, hw''⟩ := hw'
        subst hw''
        go_wp2_with fail
        go_ret
        exact ⟨rfl, _, rfl⟩
end Go.Proofs.Ytbmelmmefgehoaa
