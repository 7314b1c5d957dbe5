/-
  LAYER 23: each answer of FlightEnds.
-/
import Derived.Test.YtcjoemejoeekiaaFm
namespace Go.Proofs.Ytcjoemejoeekiaa.Fli
open Go.RowKit Que Hp Ids
def e3 (F : Nat → Bool) (k : Nat) : Se := { sE F k with s := 3 }
def l3 (F : Nat → Bool) (n k : Nat) : List Se := (sL F n).set k (e3 F k)
section
variable {w W : World} {f g n k : Nat} {T : List Bool} {v : Value} {F : Nat → Bool}
theorem l3_get (hk : k < n) : (l3 F n k)[k]? = some (e3 F k) := List.getElem?_set_self (by rw [sL_len]; exact hk)
theorem l3_set : (l3 F n k).set k (e3 F k) = l3 F n k := by unfold l3; rw [List.set_set]
theorem c1 (h : FN w W f g T (sL F n) v n) (hk : k < n) (hF : F k = true) : Calls Try.prog 37 #[.pointer (some ⟨f, 0, none⟩), .int .i64 ((k : Int) + 1)] W fun x w' => x = .returned (.bool false) ∧ FN w w' f g T (sL F n) v n :=
  (ack_no' h.fs (e := sE F k) (sL_get F hk) (by simp [sE, qOf, hF])).mono fun _ _ ⟨he, s, k⟩ => ⟨he, h.onF s k⟩
theorem c2 (h : FN w W f g T (sL F n) v n) (hk : k < n) : Calls Try.prog 38 #[.pointer (some ⟨f, 0, none⟩), .int .i64 ((k : Int) + 1)] W fun x w' => x = .returned (.bool false) ∧ FN w w' f g T (sL F n) v n :=
  (comp_no' h.fs (e := sE F k) (sL_get F hk) (by unfold sE qOf; split <;> rfl)).mono fun _ _ ⟨he, s, k⟩ => ⟨he, h.onF s k⟩
theorem c3 (h : FN w W f g T (sL F n) v n) (hk : k < n) (hF : F k = true) : Calls Try.prog 39 #[.pointer (some ⟨f, 0, none⟩), .int .i64 ((k : Int) + 1)] W fun x w' => x = .returned (.bool true) ∧ ∃ T', FN w w' f g T' (l3 F n k) v n :=
  (rec_yes' h.fs (e := sE F k) (sL_get F hk) (by simp [sE, qOf, hF])).mono fun _ _ ⟨he, T', L', hL, s, k⟩ => ⟨he, T', h.onF (by rw [hL] at s; exact s) k⟩
theorem c4 (h : FN w W f g T (l3 F n k) v n) (hk : k < n) : Calls Try.prog 39 #[.pointer (some ⟨f, 0, none⟩), .int .i64 ((k : Int) + 1)] W fun x w' => x = .returned (.bool true) ∧ ∃ T', FN w w' f g T' (l3 F n k) v n :=
  (rec_yes' h.fs (e := e3 F k) (l3_get hk) rfl).mono fun _ _ ⟨he, T', L', hL, s, kp⟩ => ⟨he, T', h.onF (by rw [hL] at s; have : (l3 F n k).set k { e3 F k with s := 3 } = l3 F n k := l3_set; rw [this] at s; exact s) kp⟩
theorem c5 (h : FN w W f g T (l3 F n k) v n) (hk : k < n) : Calls Try.prog 38 #[.pointer (some ⟨f, 0, none⟩), .int .i64 ((k : Int) + 1)] W fun x w' => x = .returned (.bool true) ∧ ∃ T', FN w w' f g T' (lft F n k) v n :=
  (comp_yes' h.fs (e := e3 F k) (l3_get hk) rfl).mono fun _ _ ⟨he, T', L', hL, s, kp⟩ => ⟨he, T', h.onF (by
    have e1 : oth (e3 F k).i (l3 F n k) = lft F n k := oth_set (e := e3 F k) hk rfl h.fs
    rw [hL, e1] at s; exact s) kp⟩
theorem c6 (h : FN w W f g T (lft F n k) v n) (hk : k < n) : Calls Try.prog 39 #[.pointer (some ⟨f, 0, none⟩), .int .i64 ((k : Int) + 1)] W fun x w' => x = .returned (.bool false) ∧ FN w w' f g T (lft F n k) v n :=
  (rec_none' h.fs _ (lft_none F hk)).mono fun _ _ ⟨he, s, k⟩ => ⟨he, h.onF s k⟩
theorem d0 (h : FN w W f g T (lft F n k) v n) (hk : k < n) : Calls Try.prog 37 #[.pointer (some ⟨f, 0, none⟩), .int .i64 ((k : Int) + 1)] W fun x w' => x = .returned (.bool false) ∧ FN w w' f g T (lft F n k) v n :=
  (ack_none' h.fs _ (lft_none F hk)).mono fun _ _ ⟨he, s, k⟩ => ⟨he, h.onF s k⟩
theorem d1 (h : FN w W f g T (sL F n) v n) (hk : k < n) (hF : F k = false) : Calls Try.prog 39 #[.pointer (some ⟨f, 0, none⟩), .int .i64 ((k : Int) + 1)] W fun x w' => x = .returned (.bool false) ∧ FN w w' f g T (sL F n) v n :=
  (rec_no' h.fs (e := sE F k) (sL_get F hk) (by simp [sE, qOf, hF])).mono fun _ _ ⟨he, s, k⟩ => ⟨he, h.onF s k⟩
theorem d3 (h : FN w W f g T (sL F n) v n) (hk : k < n) (hF : F k = false) : Calls Try.prog 37 #[.pointer (some ⟨f, 0, none⟩), .int .i64 ((k : Int) + 1)] W fun x w' => x = .returned (.bool true) ∧ ∃ T', FN w w' f g T' (lft F n k) v n :=
  (ack_yes' h.fs (e := sE F k) (sL_get F hk) (by simp [sE, qOf, hF])).mono fun _ _ ⟨he, T', L', hL, s, kp⟩ => ⟨he, T', h.onF (by
    have e1 : oth (sE F k).i (sL F n) = lft F n k := oth_sL hk h.fs
    rw [hL, e1] at s; exact s) kp⟩
theorem s9 (h : FN w W f g T (lft F n k) v n) (hk : k < n) (hn : n ≤ 8) : Calls Try.prog 36 #[.pointer (some ⟨f, 0, none⟩), .agg #[.string { data := #[116] }, .string { data := #[] }, .int .i64 1, .bool false]] W fun x w' => x = .returned (.tuple #[.int .i64 ((k : Int) + 1), .int .i64 0]) ∧ ∃ T' L', FN w w' f g T' L' v n := by
  have s := send_ok h.fs { data := #[116] } { data := #[] } 1 false (.inl rfl) (by rw [lft_len F hk]; omega)
  rw [nxt_lft hk h.fs] at s
  exact s.mono fun _ _ ⟨he, s, k⟩ => ⟨he, _, _, h.onF s k⟩
/-- The k-th number. -/
theorem FN.num {L : List Se} {ga c : Nat} (h : FN w W f g T L (.slice (some ⟨ga, 0, none⟩) n c) n) (hk : k < n) : W.cell? ⟨ga, k, none⟩ = some (.int .i64 ((k : Int) + 1)) := own_get h.row (idL_get hk)
end
end Go.Proofs.Ytcjoemejoeekiaa.Fli
