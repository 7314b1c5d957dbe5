/-
  LAYER 18: level by level: the program's closure.
-/
import Derived.Test.YtfdaooaooalknaaTa
import Derived.Deep.QuietTactic
namespace Go.Proofs.Ytfdaooaooalknaa
set_option linter.unusedSimpArgs false
set_option linter.unusedVariables false
open Go.RowKit

def covF : List ByteArray → List ByteArray → Bool
  | [], b => decide (b = [])
  | x :: a, b => if x = isHash then true else
    match b with
    | [] => false
    | y :: b => if (x = isPlus ∧ y ≠ isHash) ∨ x = y then covF a b else false
def stK (x : ByteArray) : Int := if x = isPlus then 1 else if x = isHash then 2 else 0
def stT (x : ByteArray) : ByteArray := if x = isPlus ∨ x = isHash then ⟨#[]⟩ else x
theorem stV_is (x : ByteArray) : stV x = [.int .i64 (stK x), .string (stT x)] := by
  unfold stV stK stT
  by_cases h : x = isPlus
  · simp [h]
  · by_cases h2 : x = isHash
    · subst h2; simp [h]
    · simp [h, h2]
/-- The steps stand in a block. -/
def StAt (w : World) (g : Nat) (A : List ByteArray) : Prop := g < w.heap.size ∧ ∀ i x, A[i]? = some x → w.cell? ⟨g, i * 2, none⟩ = some (.int .i64 (stK x)) ∧ w.cell? ⟨g, i * 2 + 1, none⟩ = some (.string (stT x))
theorem StAt.keep {w w' : World} {g : Nat} {A : List ByteArray} (h : StAt w g A) (hb : Below w.heap.size w w') : StAt w' g A :=
  ⟨Nat.lt_of_lt_of_le h.1 hb.size, fun i x hx => ⟨(hb.cell (by simpa using h.1)).trans (h.2 i x hx).1, (hb.cell (by simpa using h.1)).trans (h.2 i x hx).2⟩⟩
structure CovW (w : World) (p q r : Nat) (ga ca gb cb : Nat) (A B : List ByteArray) : Prop where
  a : w.cell? ⟨p, 0, none⟩ = some (.slice (some ⟨ga, 0, none⟩) A.length ca)
  b : w.cell? ⟨q, 0, none⟩ = some (.slice (some ⟨gb, 0, none⟩) B.length cb)
  f : w.cell? ⟨r, 0, none⟩ = some (.func (.func 41) #[] #[.pointer (some ⟨p, 0, none⟩), .pointer (some ⟨q, 0, none⟩), .pointer (some ⟨r, 0, none⟩)])
  sa : StAt w ga A
  sb : StAt w gb B
theorem CovW.keep {w w' : World} {p q r ga ca gb cb : Nat} {A B : List ByteArray} (h : CovW w p q r ga ca gb cb A B) (hb : Below w.heap.size w w') : CovW w' p q r ga ca gb cb A B := by
  have k : ∀ {g : Nat} {v : Value}, w.cell? ⟨g, 0, none⟩ = some v → w'.cell? ⟨g, 0, none⟩ = some v := fun {g v} hc => (hb.cell (by simpa using World.block_lt_of_cell? w _ hc)).trans hc
  exact ⟨k h.a, k h.b, k h.f, h.sa.keep hb, h.sb.keep hb⟩
theorem cdrop {l : List ByteArray} {k : Nat} {f : ByteArray} (h : l[k]? = some f) : l.drop k = f :: l.drop (k + 1) := by
  obtain ⟨hlt, he⟩ := List.getElem?_eq_some_iff.1 h
  rw [List.drop_eq_getElem_cons hlt, he]
theorem drewN_below (w : World) : ∀ n, Below w.heap.size w (w.drewN n)
  | 0 => Below.refl _ _
  | n + 1 => by
    have h := drewN_below w n
    exact h.trans (Below.refl _ _).drew
theorem hash_plus : isHash ≠ isPlus := by decide
theorem covF_hash (a b : List ByteArray) : covF (isHash :: a) b = true := by unfold covF; simp
theorem covF_end {x : ByteArray} (a : List ByteArray) (h : x ≠ isHash) : covF (x :: a) [] = false := by unfold covF; simp [h]
theorem covF_yes {x y : ByteArray} (a b : List ByteArray) (h : x ≠ isHash) (h2 : (x = isPlus ∧ y ≠ isHash) ∨ x = y) : covF (x :: a) (y :: b) = covF a b := by rw [covF]; rw [if_neg h, if_pos h2]
theorem covF_no {x y : ByteArray} (a b : List ByteArray) (h : x ≠ isHash) (h2 : ¬ ((x = isPlus ∧ y ≠ isHash) ∨ x = y)) : covF (x :: a) (y :: b) = false := by rw [covF]; rw [if_neg h, if_neg h2]
theorem bne_bytes {x y : ByteArray} (h : x ≠ y) : (x.toList == y.toList) = false := by
  rw [beq_eq_false_iff_ne, ByteArray.toList_eq, ByteArray.toList_eq]
  obtain ⟨⟨a⟩⟩ := x
  obtain ⟨⟨b⟩⟩ := y
  exact fun e => h (by simp only at e; rw [e])
set_option maxHeartbeats 2000000 in
set_option maxRecDepth 100000 in
theorem cov_any (p q r ga ca gb cb : Nat) (A B : List ByteArray) (hA : A.length ≤ 1048577) (hB : B.length ≤ 1048577) : ∀ (n i j : Nat) (w : World), A.length - i = n → i ≤ A.length → j ≤ B.length → CovW w p q r ga ca gb cb A B →
    Calls Try.prog 41 #[.int .i64 i, .int .i64 j, .pointer (some ⟨p, 0, none⟩), .pointer (some ⟨q, 0, none⟩), .pointer (some ⟨r, 0, none⟩)] w (BoolIs (covF (A.drop i) (B.drop j)) w) := by
  intro n
  induction n with
  | zero =>
    intro i j w hn hi hj hW
    obtain rfl : i = A.length := by omega
    rw [List.drop_length]
    obtain ⟨c1, c2, c3, -, -⟩ := hW
    have hv : covF [] (B.drop j) = decide (j = B.length) := by
      unfold covF
      by_cases h : j = B.length
      · subst h; simp
      · have : B.drop j ≠ [] := by rw [ne_eq, List.drop_eq_nil_iff]; omega
        simp [h, this]
    rw [hv]
    clear hv hn
    by_cases h : j = B.length
    · subst h
      go_enter Try.func41, Try.ntmps41
      go_wp2_with fail
      go_ret
      exact ⟨by simp, Below.refl _ _⟩
    · have h' : ((j : Int) == (B.length : Int)) = false := by rw [beq_eq_false_iff_ne]; omega
      rw [decide_eq_false h]
      replace h := Lib.hid h
      go_enter Try.func41, Try.ntmps41
      go_wp2_with fail
      go_ret
      exact ⟨rfl, Below.refl _ _⟩
  | succ n ih =>
    intro i j w hn hi hj hW
    have hilt : i < A.length := by omega
    obtain ⟨x, hx⟩ : ∃ x, A[i]? = some x := ⟨_, List.getElem?_eq_getElem hilt⟩
    rw [cdrop hx]
    have IH := Lib.hid (fun w' (hb : Below w.heap.size w w') (hj2 : j + 1 ≤ B.length) => ih (i + 1) (j + 1) w' (by omega) (by omega) hj2 (hW.keep hb))
    obtain ⟨c1, c2, c3, ⟨la, sa⟩, ⟨lb, sb⟩⟩ := hW
    obtain ⟨x1, x2⟩ := sa i x hx
    have i1 : ((i : Int) == (A.length : Int)) = false := by rw [beq_eq_false_iff_ne]; omega
    have i2 : (i : Int) < (A.length : Int) := by omega
    have i3 : (i : Int) ≤ 1048577 := by omega
    have j3 : (j : Int) ≤ 1048577 := by omega
    replace sa := Lib.hid sa
    replace sb := Lib.hid sb
    replace hx := Lib.hid hx
    clear ih hn hi
    by_cases hh : x = isHash
    · have k1 : stK x = 2 := by rw [hh]; rfl
      rw [hh, covF_hash]
      rw [k1] at x1
      replace hh := Lib.hid hh
      replace k1 := Lib.hid k1
      go_enter Try.func41, Try.ntmps41
      go_wp2_with fail
      go_ret
      exact ⟨rfl, Below.refl _ _⟩
    by_cases hje : j = B.length
    · subst hje
      rw [List.drop_length, covF_end _ hh]
      have k1 : (stK x == 2) = false := by
        unfold stK
        rw [if_neg hh]; split <;> rfl
      generalize stK x = kx at *
      replace hh := Lib.hid hh
      go_enter Try.func41, Try.ntmps41
      go_wp2_with fail
      go_ret
      exact ⟨rfl, Below.refl _ _⟩
    have hjlt : j < B.length := by omega
    obtain ⟨y, hy⟩ : ∃ y, B[j]? = some y := ⟨_, List.getElem?_eq_getElem hjlt⟩
    rw [cdrop hy]
    obtain ⟨y1, y2⟩ := sb.out j y hy
    have j1 : ((j : Int) == (B.length : Int)) = false := by rw [beq_eq_false_iff_ne]; omega
    have j2 : (j : Int) < (B.length : Int) := by omega
    replace hy := Lib.hid hy
    have IH' := Lib.hid (fun w' hb => IH.out w' hb hjlt)
    clear IH hje
    by_cases hp : x = isPlus
    · by_cases hq : y = isHash
      · rw [covF_no _ _ hh (by rintro (⟨-, h⟩ | h); exact h hq; exact hh (h.trans hq))]
        have k1 : stK x = 1 := by rw [hp]; rfl
        have k2 : stK y = 2 := by rw [hq]; rfl
        rw [k1] at x1
        rw [k2] at y1
        replace hh := Lib.hid hh
        try replace hp := Lib.hid hp
        try replace hq := Lib.hid hq
        try replace he := Lib.hid he
        try replace hk := Lib.hid hk
        clear hA hB hilt hjlt hj
        go_enter Try.func41, Try.ntmps41
        go_wp2_with fail
        go_quiet (fail)
        go_wp2_with fail
        go_ret
        exact ⟨rfl, drewN_below _ _⟩
      · rw [covF_yes _ _ hh (.inl ⟨hp, hq⟩)]
        have k1 : stK x = 1 := by rw [hp]; rfl
        have k2 : (stK y != 2) = true := by
          have : stK y ≠ 2 := by
            unfold stK
            split
            · decide
            · first | decide | (rw [if_neg hq]; decide)
          simpa using this
        rw [k1] at x1
        generalize stK y = ky at *
        replace hh := Lib.hid hh
        try replace hp := Lib.hid hp
        try replace hq := Lib.hid hq
        try replace he := Lib.hid he
        try replace hk := Lib.hid hk
        clear hA hB hilt hjlt hj
        go_enter Try.func41, Try.ntmps41
        go_wp2_with fail
        refine (IH'.out _ (Below.refl _ _)).mono ?_
        rintro e w3 ⟨rfl, b3⟩
        go_wp2_with fail
        go_ret
        exact ⟨rfl, b3⟩
    have k1 : stK x = 0 := by unfold stK; rw [if_neg hp, if_neg hh]
    have t1 : stT x = x := by unfold stT; rw [if_neg (by rintro (h | h); exact hp h; exact hh h)]
    rw [k1] at x1
    rw [t1] at x2
    by_cases he : x = y
    · rw [covF_yes _ _ hh (.inr he)]
      rw [← he, k1] at y1
      rw [← he, t1] at y2
      replace hh := Lib.hid hh
      try replace hp := Lib.hid hp
      try replace hq := Lib.hid hq
      try replace he := Lib.hid he
      try replace hk := Lib.hid hk
      clear hA hB hilt hjlt hj
      go_enter Try.func41, Try.ntmps41
      go_wp2_with fail
      go_quiet (fail)
      go_wp2_with fail
      refine (IH'.out _ (drewN_below _ _)).mono ?_
      rintro e w3 ⟨rfl, b3⟩
      go_wp2_with fail
      go_ret
      exact ⟨rfl, ext_trans (drewN_below _ _) b3⟩
    · rw [covF_no _ _ hh (by rintro (⟨h, -⟩ | h); exact hp h; exact he h)]
      by_cases hk : stK y = 0
      · have t2 : stT y = y := by
          unfold stT
          rw [if_neg]
          rintro (h | h)
          · rw [h] at hk; exact absurd hk (by decide)
          · rw [h] at hk; exact absurd hk (by decide)
        rw [hk] at y1
        rw [t2] at y2
        have e1 := bne_bytes he
        replace hh := Lib.hid hh
        try replace hp := Lib.hid hp
        try replace hq := Lib.hid hq
        try replace he := Lib.hid he
        try replace hk := Lib.hid hk
        clear hA hB hilt hjlt hj
        go_enter Try.func41, Try.ntmps41
        go_wp2_with fail
        go_quiet (fail)
        go_wp2_with fail
        go_ret
        exact ⟨rfl, drewN_below _ _⟩
      · have e1 : ((0 : Int) == stK y) = false := by rw [beq_eq_false_iff_ne]; exact fun h => hk h.symm
        generalize stK y = ky at *
        replace hh := Lib.hid hh
        try replace hp := Lib.hid hp
        try replace hq := Lib.hid hq
        try replace he := Lib.hid he
        try replace hk := Lib.hid hk
        clear hA hB hilt hjlt hj
        go_enter Try.func41, Try.ntmps41
        go_wp2_with fail
        go_quiet (fail)
        go_wp2_with fail
        go_ret
        exact ⟨rfl, drewN_below _ _⟩
end Go.Proofs.Ytfdaooaooalknaa
