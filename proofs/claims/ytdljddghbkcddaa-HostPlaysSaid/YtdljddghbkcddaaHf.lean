/-
  LAYER 34: what is told of one host, whatever others tell.
-/
import Derived.Test.YtdljddghbkcddaaHd
import Derived.Test.YtdljddghbkcddaaStr
namespace Go.Proofs.Ytdljddghbkcddaa.Hst
open Go.RowKit Go.Maps Go.WideMaps

/-- What is known of a name. -/
def lk (q : ByteArray) : List Host → Option Bool
  | [] => none
  | x :: r => if x.1.data.toList = q.data.toList then some x.2 else lk q r
theorem lk_none {q : ByteArray} : ∀ {l : List Host}, idx q l = none → lk q l = none
  | [], _ => rfl
  | x :: r, h => by
    unfold idx at h
    split at h
    · cases h
    · rename_i e
      rw [lk, if_neg e]
      exact lk_none (by simpa using h)
theorem lk_some {q : ByteArray} : ∀ {l : List Host} {i : Nat}, idx q l = some i → ∃ on, lk q l = some on ∧ l[i]? = some (q, on)
  | [], i, h => by simp [idx] at h
  | x :: r, i, h => by
    unfold idx at h
    split at h
    · rename_i e
      simp at h; subst h
      have : x.1 = q := kl_inj (congrArg Lit.string e)
      exact ⟨x.2, by rw [lk, if_pos e], by simp [← this]⟩
    · rename_i e
      simp only [Option.map_eq_some_iff] at h
      obtain ⟨j, hj, rfl⟩ := h
      obtain ⟨on, h1, h2⟩ := lk_some hj
      exact ⟨on, by rw [lk, if_neg e]; exact h1, by simpa using h2⟩
theorem lk_snoc (q n : ByteArray) (on : Bool) : ∀ l : List Host, idx n l = none → lk q (l ++ [(n, on)]) = if n.data.toList = q.data.toList then some on else lk q l
  | [], _ => by simp [lk]
  | x :: r, h => by
    unfold idx at h
    split at h
    · cases h
    · rename_i e
      rw [List.cons_append, lk, lk, lk_snoc q n on r (by simpa using h)]
      by_cases e1 : n.data.toList = q.data.toList
      · rw [if_pos e1, if_neg (fun e2 => e (e2.trans e1.symm)), if_pos e1]
      · rw [if_neg e1, if_neg e1]
theorem lk_set (q n : ByteArray) (on : Bool) : ∀ (l : List Host) (i : Nat), idx n l = some i → lk q (l.set i (n, on)) = if n.data.toList = q.data.toList then some on else lk q l
  | [], i, h => by simp [idx] at h
  | x :: r, i, h => by
    unfold idx at h
    split at h
    · rename_i e
      simp at h; subst h
      simp only [List.set_cons_zero, lk, e]
      split <;> rfl
    · rename_i e
      simp only [Option.map_eq_some_iff] at h
      obtain ⟨j, hj, rfl⟩ := h
      simp only [List.set_cons_succ, lk]
      rw [lk_set q n on r j hj]
      by_cases e1 : n.data.toList = q.data.toList
      · rw [if_pos e1, if_neg (fun e2 => e (e2.trans e1.symm)), if_pos e1]
      · rw [if_neg e1, if_neg e1]

def TakeAny (B g m n : Nat) (kn : List Host) (k t q : ByteArray) (w : World) (e : Ending) (w' : World) : Prop :=
  ∃ (c : Int) (n' : Nat) (kn' : List Host) (D' : DataW Unit), e = .returned (.int .i64 c) ∧ Hs w' g m n' kn' D' ∧ Below B w w' ∧
    ((c = 1 ∧ ∃ on, t = tOf on ∧ lk q (kn'.take n') = if k.data.toList = q.data.toList then some on else lk q (kn.take n)) ∨ ((c == 1) = false ∧ lk q (kn'.take n') = lk q (kn.take n)))
theorem text_cases (t : ByteArray) : Bad t ∨ ∃ on, t = tOf on := by
  by_cases h1 : t.toList = [79, 78, 76, 73, 78, 69]
  · right
    refine ⟨true, kl_inj (congrArg Lit.string ?_)⟩
    rw [← ByteArray.toList_eq, h1]; rfl
  · by_cases h2 : t.toList = [79, 70, 70, 76, 73, 78, 69]
    · right
      refine ⟨false, kl_inj (congrArg Lit.string ?_)⟩
      rw [← ByteArray.toList_eq, h2]; rfl
    · exact .inl ⟨beq_eq_false_iff_ne.2 h1, beq_eq_false_iff_ne.2 h2⟩
theorem empty_cases (k : ByteArray) : k = { data := #[] } ∨ k.toList.isEmpty = false := by
  cases h : k.toList.isEmpty with
  | true =>
    left
    refine kl_inj (congrArg Lit.string ?_)
    rw [← ByteArray.toList_eq]
    simpa using h
  | false => exact .inr rfl

theorem take_any (B g m n : Nat) (kn : List Host) (D : DataW Unit) (k t q : ByteArray) (w : World) (h : Hs w g m n kn D) (hBg : B ≤ g) (hBm : B ≤ m) (hs : k.size ≤ maxLen) :
    Calls Try.prog 21 #[.pointer (some ⟨g, 0, none⟩), .string k, .string t] w (TakeAny B g m n kn k t q w) := by
  rcases empty_cases k with rfl | hk
  · refine (take_name g m n kn D t w h).mono ?_
    rintro e w' ⟨rfl, rfl⟩
    exact ⟨7, n, kn, D, rfl, h, Below.refl _ _, .inr ⟨by decide, rfl⟩⟩
  rcases text_cases t with hb | ⟨on, rfl⟩
  · refine (take_text g m n kn D k t w h hk hb).mono ?_
    rintro e w' ⟨rfl, rfl⟩
    exact ⟨3, n, kn, D, rfl, h, Below.refl _ _, .inr ⟨by decide, rfl⟩⟩
  cases hi : idx k (kn.take n) with
  | some i =>
    refine (take_known B g m n i kn D k on w h hBg hk hs hi).mono ?_
    rintro e w' ⟨rfl, h', hb⟩
    refine ⟨1, n, _, D, rfl, h', hb, .inl ⟨rfl, on, rfl, ?_⟩⟩
    rw [List.take_set]
    exact lk_set q k on _ i hi
  | none =>
    by_cases hn : n < 4
    · refine (take_new B g m n kn D k on w h hBg hBm hk hs hn hi).mono ?_
      rintro e w' ⟨rfl, h', hb⟩
      refine ⟨1, n + 1, _, _, rfl, h', hb, .inl ⟨rfl, on, rfl, ?_⟩⟩
      have hln := h.len
      have hlt : (kn.take n).length = n := by rw [List.length_take]; omega
      rw [List.take_set, List.take_succ_eq_append_getElem (show n < kn.length by omega), List.set_append_right _ _ (by omega), hlt, Nat.sub_self]
      exact lk_snoc q k on _ hi
    · obtain rfl : n = 4 := by have := h.le; omega
      refine (take_full g m kn D k on w h hk hs hi).mono ?_
      rintro e w' ⟨rfl, rfl⟩
      exact ⟨8, 4, kn, D, rfl, h, Below.refl _ _, .inr ⟨by decide, rfl⟩⟩

theorem online_any (g m n : Nat) (kn : List Host) (D : DataW Unit) (q : ByteArray) (w : World) (h : Hs w g m n kn D) (hs : q.size ≤ maxLen) :
    Calls Try.prog 43 #[.pointer (some ⟨g, 0, none⟩), .string q] w fun e w' => e = .returned (.tuple #[.bool ((lk q (kn.take n)).getD false), .bool (lk q (kn.take n)).isSome]) ∧ w = w' := by
  cases hi : idx q (kn.take n) with
  | none =>
    rw [lk_none hi]
    exact online_none g m n kn D q w h hs hi
  | some i =>
    obtain ⟨on, h1, h2⟩ := lk_some hi
    rw [h1]
    have hil := idx_lt hi
    rw [List.length_take] at hil
    rw [List.getElem?_take_of_lt (by omega)] at h2
    exact online_known g m n i kn D q on w h hs hi h2
end Go.Proofs.Ytdljddghbkcddaa.Hst
