/-
  LAYER 17: levels of a text: plain lists.
-/
import Derived.Test.YtfdaooaooalknaaUa
import Derived.Lib.Strings
namespace Go.Proofs.Ytfdaooaooalknaa
set_option linter.unusedSimpArgs false
set_option linter.unusedVariables false


def spl : List UInt8 → List (List UInt8)
  | [] => [[]]
  | c :: r => if c = 47 then [] :: spl r else match spl r with
    | h :: t => (c :: h) :: t
    | [] => [[c]]
theorem spl_ne : ∀ l, spl l ≠ []
  | [] => by simp [spl]
  | c :: r => by
    rw [spl]
    split
    · simp
    · split <;> simp
theorem spl_none : ∀ l : List UInt8, (∀ c ∈ l, c ≠ 47) → spl l = [l]
  | [], _ => rfl
  | c :: r, h => by
    rw [spl, if_neg (h c (by simp)), spl_none r (fun x hx => h x (by simp [hx]))]
theorem spl_at : ∀ (a b : List UInt8), (∀ c ∈ a, c ≠ 47) → spl (a ++ 47 :: b) = a :: spl b
  | [], b, _ => by simp [spl]
  | c :: a, b, h => by
    rw [List.cons_append, spl, if_neg (h c (by simp)), spl_at a b (fun x hx => h x (by simp [hx]))]
theorem spl_part : ∀ (l : List UInt8), ∀ p ∈ spl l, ∀ c ∈ p, c ≠ 47
  | [], p, hp, c, hc => by simp [spl] at hp; subst hp; cases hc
  | x :: r, p, hp, c, hc => by
    rw [spl] at hp
    split at hp
    · rcases List.mem_cons.1 hp with rfl | hp
      · cases hc
      · exact spl_part r p hp c hc
    · rename_i hx
      have ih := spl_part r
      cases hr : spl r with
      | nil => exact absurd hr (spl_ne r)
      | cons h t =>
        rw [hr] at hp ih
        rcases List.mem_cons.1 hp with rfl | hp
        · rcases List.mem_cons.1 hc with rfl | hc
          · exact hx
          · exact ih h (by simp) c hc
        · exact ih p (by simp [hp]) c hc
def joi : List (List UInt8) → List UInt8
  | [] => []
  | [p] => p
  | p :: q :: r => p ++ 47 :: joi (q :: r)
theorem joi_cons (p : List UInt8) (l : List (List UInt8)) (h : l ≠ []) : joi (p :: l) = p ++ 47 :: joi l := by
  cases l with
  | nil => exact absurd rfl h
  | cons q r => rfl
theorem joi_spl : ∀ l, joi (spl l) = l
  | [] => rfl
  | c :: r => by
    rw [spl]
    split
    · rename_i h; subst h
      rw [joi_cons _ _ (spl_ne r), joi_spl r]; rfl
    · have ih := joi_spl r
      cases hr : spl r with
      | nil => exact absurd hr (spl_ne r)
      | cons h t =>
        rw [hr] at ih
        cases t with
        | nil => simp only [joi] at ih ⊢; rw [ih]
        | cons q t => simp only [joi] at ih ⊢; rw [← ih]; rfl
def slashes (l : List UInt8) : Nat := (l.filter (· == 47)).length
theorem spl_length : ∀ l, (spl l).length = slashes l + 1
  | [] => rfl
  | c :: r => by
    have ih := spl_length r
    rw [spl]
    split
    · rename_i h; subst h
      simp [slashes] at ih ⊢; omega
    · rename_i h
      cases hr : spl r with
      | nil => exact absurd hr (spl_ne r)
      | cons p t =>
        rw [hr] at ih
        have hc : (c == 47) = false := by simpa using h
        simp [slashes, hc] at ih ⊢; omega
theorem spl_sum : ∀ l, ∀ p ∈ spl l, p.length ≤ l.length
  | [], p, hp => by simp [spl] at hp; subst hp; simp
  | c :: r, p, hp => by
    rw [spl] at hp
    split at hp
    · rcases List.mem_cons.1 hp with rfl | hp
      · simp
      · have := spl_sum r p hp; simp; omega
    · have ih := spl_sum r
      cases hr : spl r with
      | nil => exact absurd hr (spl_ne r)
      | cons h t =>
        rw [hr] at hp ih
        rcases List.mem_cons.1 hp with rfl | hp
        · have := ih h (by simp); simp; omega
        · have := ih p (by simp [hp]); simp; omega
/-- A step of the decoder over a byte below 128. -/
theorem stp_ascii (g : Nat → Nat) (n i : Nat) (h : g i < 128) : stp g n i = (1, g i) := by unfold stp; rw [if_pos (by omega)]
theorem stp_big (g : Nat → Nat) (n i : Nat) (hg : ∀ k, g k < 256) (h : 128 ≤ g i) : (stp g n i).1 = 0 ∨ 128 ≤ (stp g n i).2 := by
  unfold stp
  rw [if_neg (by omega)]
  split
  · rename_i h1; right; simp only; omega
  · split
    · split
      · exact .inl rfl
      · rename_i h1 h2; right; simp only; omega
    · split
      · split
        · exact .inl rfl
        · rename_i h1 h2; right; simp only; omega
      · exact .inl rfl
end Go.Proofs.Ytfdaooaooalknaa
