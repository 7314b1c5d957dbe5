/-
  LAYER 23: so many sent, one of them answered: plain.
-/
import Derived.Test.YtcjoemejoeekiaaFk
namespace Go.Proofs.Ytcjoemejoeekiaa.Fli
open Go.RowKit Que Hp Ids
def tT : ByteArray := { data := #[116] }
def qOf (b : Bool) : Int := if b then 2 else 1
/-- The i-th one sent. -/
def sE (F : Nat → Bool) (i : Nat) : Se := ⟨(i : Int) + 1, qOf (F i), tT, { data := #[] }, qOf (F i), false⟩
def sL (F : Nat → Bool) (n : Nat) : List Se := (List.range n).map (sE F)
theorem sL_len (F : Nat → Bool) (n : Nat) : (sL F n).length = n := by simp [sL]
theorem sL_get (F : Nat → Bool) {n i : Nat} (h : i < n) : (sL F n)[i]? = some (sE F i) := by simp [sL, h]
theorem sL_snoc (F : Nat → Bool) (n : Nat) : sL F (n + 1) = sL F n ++ [sE F n] := by simp [sL, List.range_succ]
theorem trues_ge (T : List Bool) : ∀ m, (∀ j, j < m → T.getD j false = true) → m ≤ trues T := by
  intro m h
  have hl : m ≤ T.length := by
    apply Classical.byContradiction
    intro hn
    have := h T.length (by omega)
    rw [List.getD_eq_getElem?_getD, List.getElem?_eq_none (Nat.le_refl _)] at this
    cases this
  have h2 : (T.take m).count true = m := by
    rw [List.count_eq_length.2 (fun b hb => ?_)]
    · rw [List.length_take]; omega
    · obtain ⟨j, hj, rfl⟩ := List.getElem_of_mem hb
      rw [List.length_take] at hj
      have := h j (by omega)
      rw [List.getD_eq_getElem?_getD, List.getElem?_eq_getElem (by omega)] at this
      simp at this
      simp [this]
  have := (List.take_sublist m T).count_le true
  unfold trues
  omega
/-- All of the first n but k are taken, and no more than these: k is the first that is free. -/
theorem nxt_hole {T : List Bool} {n k : Nat} (hk : k < n) (h : ∀ j, j < n → j ≠ k → T.getD j false = true) (ht : trues T = n - 1) : nxt T = k := by
  have hf : T.getD k false = false := by
    cases hb : T.getD k false
    · rfl
    · have := trues_ge T n (fun j hj => by
        by_cases e : j = k
        · rw [e]; exact hb
        · exact h j hj e)
      omega
  have hlo : ∀ j, j < k → T.getD j true = true := fun j hj => by
    have h1 := h j (by omega) (by omega)
    have hl : j < T.length := by
      apply Classical.byContradiction
      intro hn
      rw [List.getD_eq_getElem?_getD, List.getElem?_eq_none (by omega)] at h1
      cases h1
    rw [getD_tf hl]; exact h1
  by_cases hl : k < T.length
  · exact nxt_eq hl (by rw [getD_tf hl]; exact hf) hlo
  · have hle : T.length ≤ k := by omega
    have hge : k ≤ T.length := by
      apply Classical.byContradiction
      intro hn
      have := h T.length (by omega) (by omega)
      rw [List.getD_eq_getElem?_getD, List.getElem?_eq_none (Nat.le_refl _)] at this
      cases this
    rw [nxt_none (fun j hj => hlo j (by omega))]
    omega
section
variable {A : Nat → Prop} {w : World} {f g : Nat} {T : List Bool}
theorem Fs.got {L : List Se} (h : Fs A w f g T L) {q j : Nat} {e : Se} (he : L[q]? = some e) (hj : e.i = (j : Int) + 1) : T.getD j false = true := by
  obtain ⟨i, h1, h2⟩ := h.ids e (List.mem_of_getElem? he)
  have : i = j := by omega
  rwa [← this]
theorem nxt_sL {F : Nat → Bool} {n : Nat} (h : Fs A w f g T (sL F n)) : nxt T = n := by
  refine nxt_hole (n := n + 1) (by omega) (fun j hj hne => h.got (sL_get F (show j < n by omega)) rfl) ?_
  rw [h.tr, sL_len]; omega
/-- What is left. -/
def lft (F : Nat → Bool) (n k : Nat) : List Se := (sL F n).take k ++ (sL F n).drop (k + 1)
theorem lft_len (F : Nat → Bool) {n k : Nat} (hk : k < n) : (lft F n k).length = n - 1 := by
  unfold lft; simp [sL_len]; omega
theorem lft_lo (F : Nat → Bool) {n k i : Nat} (hk : k < n) (hi : i < k) : (lft F n k)[i]? = some (sE F i) := by
  unfold lft
  rw [List.getElem?_append_left (by simp [sL_len]; omega), List.getElem?_take_of_lt hi, sL_get F (by omega)]
theorem lft_hi (F : Nat → Bool) {n k i : Nat} (hk : k < n) (hi : k ≤ i) (hin : i < n - 1) : (lft F n k)[i]? = some (sE F (i + 1)) := by
  unfold lft
  rw [List.getElem?_append_right (by simp [sL_len]; omega), List.getElem?_drop]
  have e : k + 1 + (i - (List.take k (sL F n)).length) = i + 1 := by simp [sL_len]; omega
  rw [e, sL_get F (by omega)]
theorem filter_mid {B C : List Se} {e : Se} (hn : (B ++ e :: C).Pairwise fun x y => x.i ≠ y.i) : oth e.i (B ++ e :: C) = B ++ C := by
  rw [List.pairwise_append, List.pairwise_cons] at hn
  obtain ⟨-, ⟨h2, -⟩, h3⟩ := hn
  unfold oth
  rw [List.filter_append, List.filter_cons, if_neg (by simp), List.filter_eq_self.2, List.filter_eq_self.2]
  · exact fun y hy => by have := h2 y hy; simp; exact fun e => this e.symm
  · exact fun y hy => by have := h3 y hy e (by simp); simpa using this
theorem filter_hole {L : List Se} {k : Nat} {e : Se} (he : L[k]? = some e) (hn : L.Pairwise fun x y => x.i ≠ y.i) : oth e.i L = L.take k ++ L.drop (k + 1) := by
  have hs : L = L.take k ++ e :: L.drop (k + 1) := by
    obtain ⟨hk, rfl⟩ := List.getElem?_eq_some_iff.1 he
    rw [List.getElem_cons_drop, List.take_append_drop]
  have h2 := hn
  rw [hs] at h2
  have := filter_mid h2
  rw [← hs] at this
  exact this
theorem oth_sL {F : Nat → Bool} {n k : Nat} (hk : k < n) (h : Fs A w f g T (sL F n)) : oth ((k : Int) + 1) (sL F n) = lft F n k := filter_hole (e := sE F k) (sL_get F hk) h.nd
theorem oth_set {F : Nat → Bool} {n k : Nat} {e : Se} (hk : k < n) (hei : e.i = (k : Int) + 1) (h : Fs A w f g T ((sL F n).set k e)) : oth ((k : Int) + 1) ((sL F n).set k e) = lft F n k := by
  have hx : ((sL F n).set k e)[k]? = some e := List.getElem?_set_self (by rw [sL_len]; exact hk)
  have := filter_hole hx h.nd
  rw [hei] at this
  rw [this]
  unfold lft
  rw [List.take_set_of_le (Nat.le_refl _), List.drop_set_of_lt (by omega)]
theorem nxt_lft {F : Nat → Bool} {n k : Nat} (hk : k < n) (h : Fs A w f g T (lft F n k)) : nxt T = k := by
  refine nxt_hole hk (fun j hj hne => ?_) (by rw [h.tr, lft_len F hk])
  by_cases hlt : j < k
  · exact h.got (lft_lo F hk hlt) rfl
  · have := lft_hi F (n := n) hk (i := j - 1) (by omega) (by omega)
    rw [show j - 1 + 1 = j by omega] at this
    exact h.got this rfl
theorem lft_none (F : Nat → Bool) {n k : Nat} (hk : k < n) : ∀ e ∈ lft F n k, e.i ≠ (k : Int) + 1 := by
  intro e he
  obtain ⟨i, hi⟩ := List.mem_iff_getElem?.1 he
  have hl := (List.getElem?_eq_some_iff.1 hi).1
  rw [lft_len F hk] at hl
  by_cases h : i < k
  · rw [lft_lo F hk h] at hi
    obtain rfl := Option.some.inj hi
    show (i : Int) + 1 ≠ (k : Int) + 1
    omega
  · rw [lft_hi F hk (by omega) hl] at hi
    obtain rfl := Option.some.inj hi
    show ((i + 1 : Nat) : Int) + 1 ≠ (k : Int) + 1
    omega
end
end Go.Proofs.Ytcjoemejoeekiaa.Fli
