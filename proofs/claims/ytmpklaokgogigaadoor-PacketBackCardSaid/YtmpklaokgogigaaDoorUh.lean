/-
  LAYER 4, PLAIN: what a text is, by the document's steps; the model's decoder tells the same.
-/
import GoSem.Core.Utf8
import Derived.Test.YtmpklaokgogigaaDoorBlk
import Derived.Test.YtmpklaokgogigaaDoorProg
import Derived.Laws.RangeString
import Derived.Laws.RangeAny
import Derived.Laws.Runes
import Derived.LoopTactic
import Derived.Outline
import Derived.Deep.QuietTactic
import Derived.BigQuiet
import Derived.Laws.BitsAllLaws
import Derived.Laws.BitsLemmas
import Derived.WalkSmall
import Derived.Lib.AppendStr
import Derived.Lib.SmallJoins
namespace Go.Proofs.YtmpklaokgogigaaDoor
set_option linter.unusedSimpArgs false
set_option linter.unusedVariables false

/-- Is there a byte 128 to 191? -/
def tl (g : Nat → Nat) (n k : Nat) : Bool := decide (k < n) && (decide (128 ≤ g k) && decide (g k ≤ 191))
theorem tl_iff (g : Nat → Nat) (n k : Nat) : tl g n k = true ↔ k < n ∧ 128 ≤ g k ∧ g k ≤ 191 := by simp [tl]

/-- The number of bytes of the rune at a place, and its number; (0, 0): there is none. -/
def stp (g : Nat → Nat) (n i : Nat) : Nat × Nat :=
  if g i < 128 then (1, g i)
  else if (194 ≤ g i ∧ g i ≤ 223) ∧ tl g n (i + 1) = true then (2, (g i - 192) * 64 + (g (i + 1) - 128))
  else if (224 ≤ g i ∧ g i ≤ 239) ∧ tl g n (i + 1) = true ∧ tl g n (i + 2) = true then
    if (g i - 224) * 4096 + (g (i + 1) - 128) * 64 + (g (i + 2) - 128) < 2048 ∨ (55296 ≤ (g i - 224) * 4096 + (g (i + 1) - 128) * 64 + (g (i + 2) - 128) ∧ (g i - 224) * 4096 + (g (i + 1) - 128) * 64 + (g (i + 2) - 128) ≤ 57343) then (0, 0)
    else (3, (g i - 224) * 4096 + (g (i + 1) - 128) * 64 + (g (i + 2) - 128))
  else if (240 ≤ g i ∧ g i ≤ 244) ∧ tl g n (i + 1) = true ∧ tl g n (i + 2) = true ∧ tl g n (i + 3) = true then
    if (g i - 240) * 262144 + (g (i + 1) - 128) * 4096 + (g (i + 2) - 128) * 64 + (g (i + 3) - 128) < 65536 ∨ 1114111 < (g i - 240) * 262144 + (g (i + 1) - 128) * 4096 + (g (i + 2) - 128) * 64 + (g (i + 3) - 128) then (0, 0)
    else (4, (g i - 240) * 262144 + (g (i + 1) - 128) * 4096 + (g (i + 2) - 128) * 64 + (g (i + 3) - 128))
  else (0, 0)

/-- The width of the right rune at a place, or 0. -/
def wd (g : Nat → Nat) (n i : Nat) : Nat := if (stp g n i).2 = 0 then 0 else (stp g n i).1

/-- From a place on all is right. -/
def rt (g : Nat → Nat) (n : Nat) : Nat → Nat → Bool
  | 0, i => decide (n ≤ i)
  | f + 1, i => if i < n then (decide (wd g n i ≠ 0) && rt g n f (i + wd g n i)) else true

def gB (s : ByteArray) (k : Nat) : Nat := (s.get! k).toNat
def rtB (s : ByteArray) : Bool := rt (gB s) s.size s.size 0
theorem gB_lt (s : ByteArray) (k : Nat) : gB s k < 256 := by unfold gB; exact UInt8.toNat_lt _

/-- The decoder, by bytes as numbers. -/
theorem cont_iff (g : Nat → Nat) (n k : Nat) (h : g k < 256) : (decide (k < n) && (g k / 64 == 2)) = tl g n k := by
  unfold tl
  have : (g k / 64 == 2) = (decide (128 ≤ g k) && decide (g k ≤ 191)) := by
    rw [Bool.eq_iff_iff]; simp; omega
  rw [this]

def Rel (D S : Nat × Nat) : Prop := D = if S.1 = 0 then (65533, 1) else (S.2, S.1)
theorem decode_rel (s : ByteArray) (i : Nat) : Rel (Utf8.decode s i) (stp (gB s) s.size i) := by
  have h0 := gB_lt s i
  have h1 := gB_lt s (i + 1)
  have h2 := gB_lt s (i + 2)
  have h3 := gB_lt s (i + 3)
  unfold Utf8.decode
  simp only [Utf8.runeError]
  have c1 := cont_iff (gB s) s.size (i + 1) h1
  have c2 := cont_iff (gB s) s.size (i + 2) h2
  have c3 := cont_iff (gB s) s.size (i + 3) h3
  have e0 : (s.get! (i + 0)).toNat = gB s i := rfl
  have e1 : (s.get! (i + 1)).toNat = gB s (i + 1) := rfl
  have e2 : (s.get! (i + 2)).toNat = gB s (i + 2) := rfl
  have e3 : (s.get! (i + 3)).toNat = gB s (i + 3) := rfl
  simp only [e0, e1, e2, e3, c1, c2, c3]
  generalize gB s = g at *
  generalize hn : s.size = n at *
  unfold stp
  by_cases a0 : g i < 128
  · rw [if_pos a0, if_pos a0]; simp [Rel]
  rw [if_neg a0, if_neg a0]
  have t1 := tl_iff g n (i + 1)
  have t2 := tl_iff g n (i + 2)
  have t3 := tl_iff g n (i + 3)
  generalize b1d : tl g n (i + 1) = b1 at *
  generalize b2d : tl g n (i + 2) = b2 at *
  generalize b3d : tl g n (i + 3) = b3 at *
  clear b1d b2d b3d c1 c2 c3 e0 e1 e2 e3
  generalize g i = x at *
  generalize g (i + 1) = y at *
  generalize g (i + 2) = z at *
  generalize g (i + 3) = u at *
  clear hn
  cases b1
  · simp [Rel]
  simp only [Bool.and_true, true_iff, and_true] at *
  obtain ⟨_, ly, hy⟩ := t1
  obtain ⟨y', rfl⟩ : ∃ y', y = y' + 128 := ⟨y - 128, by omega⟩
  have y64 : y' < 64 := by omega
  have ey : (y' + 128) % 64 = y' := by omega
  have ey2 : y' + 128 - 128 = y' := by omega
  simp only [ey, ey2]
  by_cases d1 : x / 32 = 6
  · have hx : 192 ≤ x ∧ x ≤ 223 := by omega
    obtain ⟨x', rfl⟩ : ∃ x', x = x' + 192 := ⟨x - 192, by omega⟩
    have ex : (x' + 192) % 32 = x' := by omega
    have ex2 : x' + 192 - 192 = x' := by omega
    have n1 : ¬ (224 ≤ x' + 192 ∧ x' + 192 ≤ 239) := by omega
    have n2 : ¬ (240 ≤ x' + 192 ∧ x' + 192 ≤ 244) := by omega
    rw [ex, ex2, d1, if_pos (by rfl)]
    by_cases d2 : x' * 64 + y' ≥ 128
    · rw [if_pos d2, if_pos (by omega)]; simp [Rel]
    · rw [if_neg d2, if_neg (by omega), if_neg (by omega), if_neg (by omega)]; simp [Rel]
  rw [if_neg (by simpa using d1)]
  have m1 : ¬ (194 ≤ x ∧ x ≤ 223) := by omega
  cases b2
  · simp [Rel, m1]
  simp only [Bool.and_true, true_iff, and_true] at *
  obtain ⟨_, lz, hz⟩ := t2
  obtain ⟨z', rfl⟩ : ∃ z', z = z' + 128 := ⟨z - 128, by omega⟩
  have z64 : z' < 64 := by omega
  have ez : (z' + 128) % 64 = z' := by omega
  have ez2 : z' + 128 - 128 = z' := by omega
  simp only [ez, ez2]
  by_cases d2 : x / 16 = 14
  · have hx : 224 ≤ x ∧ x ≤ 239 := by omega
    obtain ⟨x', rfl⟩ : ∃ x', x = x' + 224 := ⟨x - 224, by omega⟩
    have ex : (x' + 224) % 16 = x' := by omega
    have ex2 : x' + 224 - 224 = x' := by omega
    have n2 : ¬ (240 ≤ x' + 224 ∧ x' + 224 ≤ 244) := by omega
    have n1 : ¬ (194 ≤ x' + 224 ∧ x' + 224 ≤ 223) := by omega
    have p0 : 224 ≤ x' + 224 ∧ x' + 224 ≤ 239 := by omega
    rw [ex, ex2, d2, if_pos (by rfl), if_neg n1, if_pos p0]
    generalize hN : x' * 4096 + y' * 64 + z' = N
    have hNb : N < 65536 := by omega
    unfold Utf8.valid
    by_cases p1 : N < 2048
    · rw [if_neg (by simp; omega), if_pos (by omega)]; simp [Rel]
    by_cases p2 : 55296 ≤ N ∧ N ≤ 57343
    · rw [if_neg (by simp; omega), if_pos (by omega)]; simp [Rel]
    · rw [if_pos (by simp; omega), if_neg (by omega)]; simp [Rel]
  rw [if_neg (by simpa using d2)]
  have m2 : ¬ (224 ≤ x ∧ x ≤ 239) := by omega
  cases b3
  · simp [Rel, m1, m2]
  simp only [Bool.and_true, true_iff, and_true] at *
  obtain ⟨_, lu, hu⟩ := t3
  obtain ⟨u', rfl⟩ : ∃ u', u = u' + 128 := ⟨u - 128, by omega⟩
  have u64 : u' < 64 := by omega
  have eu : (u' + 128) % 64 = u' := by omega
  have eu2 : u' + 128 - 128 = u' := by omega
  simp only [eu, eu2]
  by_cases d3 : x / 8 = 30
  · have hx : 240 ≤ x ∧ x ≤ 247 := by omega
    obtain ⟨x', rfl⟩ : ∃ x', x = x' + 240 := ⟨x - 240, by omega⟩
    have ex : (x' + 240) % 8 = x' := by omega
    have ex2 : x' + 240 - 240 = x' := by omega
    have n1 : ¬ (194 ≤ x' + 240 ∧ x' + 240 ≤ 223) := by omega
    have n2 : ¬ (224 ≤ x' + 240 ∧ x' + 240 ≤ 239) := by omega
    rw [ex, ex2, d3, if_pos (by rfl), if_neg n1, if_neg n2]
    generalize hN : x' * 262144 + y' * 4096 + z' * 64 + u' = N
    unfold Utf8.valid
    by_cases q : x' ≤ 4
    · have p0 : 240 ≤ x' + 240 ∧ x' + 240 ≤ 244 := by omega
      rw [if_pos p0]
      by_cases p1 : N < 65536 ∨ 1114111 < N
      · rw [if_neg (by simp; omega), if_pos p1]; simp [Rel]
      · rw [if_pos (by simp; omega), if_neg p1]; simp [Rel]
    · have p0 : ¬ (240 ≤ x' + 240 ∧ x' + 240 ≤ 244) := by omega
      rw [if_neg p0, if_neg (by simp; omega)]; simp [Rel]
  rw [if_neg (by simpa using d3), if_neg (by omega), if_neg (by omega), if_neg (by omega)]; simp [Rel]

theorem decode_stp (s : ByteArray) (i : Nat) :
    Utf8.decode s i = if (stp (gB s) s.size i).1 = 0 then (65533, 1) else ((stp (gB s) s.size i).2, (stp (gB s) s.size i).1) := decode_rel s i

/-- What a right rune's steps are. -/
theorem stp_small (g : Nat → Nat) (n i : Nat) : (stp g n i).1 ≤ 4 := by
  unfold stp
  repeat' split
  all_goals simp
theorem wd_le (g : Nat → Nat) (n i : Nat) : wd g n i ≤ 4 := by
  unfold wd; have := stp_small g n i; split <;> omega

/-- The bytes of a rune stand ahead of the end, and all but the first are 128 to 191. -/
theorem stp_tail (g : Nat → Nat) (n i k : Nat) (h0 : 0 < k) (hk : k < (stp g n i).1) : i + k < n ∧ 128 ≤ g (i + k) ∧ g (i + k) ≤ 191 := by
  have t1 := tl_iff g n (i + 1)
  have t2 := tl_iff g n (i + 2)
  have t3 := tl_iff g n (i + 3)
  unfold stp at hk
  split at hk
  · simp at hk; omega
  · split at hk
    · rename_i h; obtain ⟨_, h⟩ := h
      have := t1.1 h
      simp at hk
      obtain rfl : k = 1 := by omega
      exact this
    · split at hk
      · rename_i h; obtain ⟨_, ha, hb⟩ := h
        have h1 := t1.1 ha
        have h2 := t2.1 hb
        split at hk
        · simp at hk
        · simp at hk
          have : k = 1 ∨ k = 2 := by omega
          rcases this with rfl | rfl
          · exact h1
          · exact h2
      · split at hk
        · rename_i h; obtain ⟨_, ha, hb, hc⟩ := h
          have h1 := t1.1 ha
          have h2 := t2.1 hb
          have h3 := t3.1 hc
          split at hk
          · simp at hk
          · simp at hk
            have : k = 1 ∨ k = 2 ∨ k = 3 := by omega
            rcases this with rfl | rfl | rfl
            · exact h1
            · exact h2
            · exact h3
        · simp at hk
theorem wd_tail (g : Nat → Nat) (n i k : Nat) (h0 : 0 < k) (hk : k < wd g n i) : i + k < n ∧ 128 ≤ g (i + k) ∧ g (i + k) ≤ 191 := by
  unfold wd at hk
  split at hk
  · omega
  · exact stp_tail g n i k h0 hk
theorem wd_fits (g : Nat → Nat) (n i : Nat) (hi : i < n) : i + wd g n i ≤ n := by
  by_cases h : wd g n i ≤ 1
  · omega
  · have := wd_tail g n i (wd g n i - 1) (by omega) (by omega)
    omega

/-- A right rune is told of its bytes alone. -/
theorem tl_of {g g' : Nat → Nat} {n n' k k' : Nat} (h : tl g n k = true) (e : g' k' = g k) (hk : k' < n') : tl g' n' k' = true := by
  have := (tl_iff g n k).1 h
  exact (tl_iff g' n' k').2 ⟨hk, by rw [e]; exact this.2.1, by rw [e]; exact this.2.2⟩
theorem lo2 {x : Nat} {p : Prop} (h : 224 ≤ x) : ¬ ((194 ≤ x ∧ x ≤ 223) ∧ p) := by omega
theorem lo3 {x : Nat} {p : Prop} (h : 240 ≤ x) : ¬ ((224 ≤ x ∧ x ≤ 239) ∧ p) := by omega
theorem stp_same (g g' : Nat → Nat) (n n' i i' : Nat) (h0 : (stp g n i).1 ≠ 0) (hn : i' + (stp g n i).1 ≤ n') (h : ∀ k, k < (stp g n i).1 → g' (i' + k) = g (i + k)) : stp g' n' i' = stp g n i := by
  have e0 := h 0 (by omega)
  simp only [Nat.add_zero] at e0
  by_cases c1 : g i < 128
  · unfold stp; rw [e0, if_pos c1, if_pos c1]
  by_cases c2 : (194 ≤ g i ∧ g i ≤ 223) ∧ tl g n (i + 1) = true
  · have hw : stp g n i = (2, (g i - 192) * 64 + (g (i + 1) - 128)) := by unfold stp; rw [if_neg c1, if_pos c2]
    rw [hw] at h hn ⊢
    have e1 := h 1 (by simp)
    simp only at hn
    have q' := tl_of (g' := g') (n' := n') (k' := i' + 1) c2.2 e1 (by omega)
    unfold stp
    rw [e0, e1, if_neg c1, if_pos ⟨c2.1, q'⟩]
  by_cases c3 : (224 ≤ g i ∧ g i ≤ 239) ∧ tl g n (i + 1) = true ∧ tl g n (i + 2) = true
  · have hw : (stp g n i).1 = 0 ∨ (stp g n i).1 = 3 := by unfold stp; rw [if_neg c1, if_neg c2, if_pos c3]; split <;> simp
    have hw3 : (stp g n i).1 = 3 := by omega
    rw [hw3] at h hn
    have e1 := h 1 (by decide)
    have e2 := h 2 (by decide)
    have q1' := tl_of (g' := g') (n' := n') (k' := i' + 1) c3.2.1 e1 (by omega)
    have q2' := tl_of (g' := g') (n' := n') (k' := i' + 2) c3.2.2 e2 (by omega)
    unfold stp
    rw [e0, e1, e2, if_neg c1, if_neg c1, if_neg (lo2 c3.1.1), if_neg c2, if_pos ⟨c3.1, q1', q2'⟩, if_pos c3]
  by_cases c4 : (240 ≤ g i ∧ g i ≤ 244) ∧ tl g n (i + 1) = true ∧ tl g n (i + 2) = true ∧ tl g n (i + 3) = true
  · have hw : (stp g n i).1 = 0 ∨ (stp g n i).1 = 4 := by unfold stp; rw [if_neg c1, if_neg c2, if_neg c3, if_pos c4]; split <;> simp
    have hw3 : (stp g n i).1 = 4 := by omega
    rw [hw3] at h hn
    have e1 := h 1 (by decide)
    have e2 := h 2 (by decide)
    have e3 := h 3 (by decide)
    have q1' := tl_of (g' := g') (n' := n') (k' := i' + 1) c4.2.1 e1 (by omega)
    have q2' := tl_of (g' := g') (n' := n') (k' := i' + 2) c4.2.2.1 e2 (by omega)
    have q3' := tl_of (g' := g') (n' := n') (k' := i' + 3) c4.2.2.2 e3 (by omega)
    unfold stp
    rw [e0, e1, e2, e3, if_neg c1, if_neg c1, if_neg (lo2 (Nat.le_trans (by decide) c4.1.1)), if_neg c2, if_neg (lo3 c4.1.1), if_neg c3, if_pos ⟨c4.1, q1', q2', q3'⟩, if_pos c4]
  · exact absurd (by unfold stp; rw [if_neg c1, if_neg c2, if_neg c3, if_neg c4]) h0
theorem wd_same (g g' : Nat → Nat) (n n' i i' : Nat) (h0 : wd g n i ≠ 0) (hn : i' + wd g n i ≤ n') (h : ∀ k, k < wd g n i → g' (i' + k) = g (i + k)) : wd g' n' i' = wd g n i := by
  have hw : wd g n i = (stp g n i).1 := by
    unfold wd at h0 ⊢; split at h0
    · omega
    · rename_i h; rw [if_neg h]
  rw [hw] at h0 hn h
  have := stp_same g g' n n' i i' h0 hn h
  unfold wd; rw [this]

inductive Rgt (g : Nat → Nat) (n : Nat) : Nat → Prop
  | fin (i : Nat) (h : n ≤ i) : Rgt g n i
  | step (i : Nat) (h : i < n) (h0 : wd g n i ≠ 0) (k : Rgt g n (i + wd g n i)) : Rgt g n i
theorem rt_iff (g : Nat → Nat) (n : Nat) : ∀ f i, n ≤ i + f → (rt g n f i = true ↔ Rgt g n i) := by
  intro f
  induction f with
  | zero => intro i h; simp [rt]; exact ⟨fun h => .fin i h, fun _ => by omega⟩
  | succ f ih =>
    intro i h
    unfold rt
    split
    · rename_i hi
      by_cases h0 : wd g n i = 0
      · simp [h0]; intro hr; cases hr
        · omega
        · exact absurd h0 ‹_›
      · have := ih (i + wd g n i) (by omega)
        simp only [Bool.and_eq_true, decide_eq_true_eq, this]
        exact ⟨fun ⟨_, k⟩ => .step i hi h0 k, fun hr => ⟨h0, by cases hr; omega; assumption⟩⟩
    · rename_i hi
      exact ⟨fun _ => .fin i (by omega), fun _ => rfl⟩
theorem rtB_iff (s : ByteArray) : rtB s = true ↔ Rgt (gB s) s.size 0 := rt_iff _ _ _ _ (by omega)
theorem Rgt.inv {g : Nat → Nat} {n i : Nat} (h : Rgt g n i) (hi : i < n) : wd g n i ≠ 0 ∧ Rgt g n (i + wd g n i) := by
  cases h
  · omega
  · exact ⟨‹_›, ‹_›⟩
/-- One behind the other. -/
theorem Rgt.join {g : Nat → Nat} {n : Nat} {g' : Nat → Nat} {n' m : Nat} (hm : n + m = n') (hg : ∀ k, k < n → g' k = g k) : ∀ {i}, Rgt g n i → i ≤ n → Rgt g' n' n → Rgt g' n' i := by
  intro i h
  induction h with
  | fin i h => intro hi k; have e : i = n := (by omega); exact e ▸ k
  | step i h h0 k ih =>
    intro hi hk
    have hf := wd_fits g n i h
    have e := wd_same g g' n n' i i h0 (by omega) (fun k hk => hg _ (by omega))
    exact .step i (by omega) (by rw [e]; exact h0) (by rw [e]; exact ih hf hk)
theorem Rgt.shift {g g' : Nat → Nat} {n n' d : Nat} (hn : d + n = n') (hg : ∀ k, k < n → g' (d + k) = g k) : ∀ {i}, Rgt g n i → Rgt g' n' (d + i) := by
  intro i h
  induction h with
  | fin i h => exact .fin _ (by omega)
  | step i h h0 k ih =>
    have hf := wd_fits g n i h
    have e := wd_same g g' n n' i (d + i) h0 (by omega) (fun k hk => by rw [Nat.add_assoc]; exact hg _ (by omega))
    exact .step _ (by omega) (by rw [e]; exact h0) (by rw [e, Nat.add_assoc]; exact ih)
/-- Where a right text of the beginning ends, there a rune begins. -/
theorem Rgt.cut {g : Nat → Nat} {n : Nat} {g' : Nat → Nat} {n' m : Nat} (hm : n + m = n') (hg : ∀ k, k < n → g' k = g k) : ∀ {i}, Rgt g n i → i ≤ n → Rgt g' n' i → Rgt g' n' n := by
  intro i h
  induction h with
  | fin i h => intro hi k; have e : i = n := (by omega); exact e ▸ k
  | step i h h0 k ih =>
    intro hi hk
    have hf := wd_fits g n i h
    have e := wd_same g g' n n' i i h0 (by omega) (fun k hk => hg _ (by omega))
    have := (hk.inv (by omega)).2
    rw [e] at this
    exact ih hf this
/-- No rune begins with a byte 128 to 191, or is nought. -/
theorem wd_tail0 (g : Nat → Nat) (n i : Nat) (h : 128 ≤ g i ∧ g i ≤ 191) : wd g n i = 0 := by
  have : stp g n i = (0, 0) := by unfold stp; rw [if_neg (by omega), if_neg (by omega), if_neg (by omega), if_neg (by omega)]
  unfold wd; rw [this]; simp
theorem wd_nul (g : Nat → Nat) (n i : Nat) (h : g i = 0) : wd g n i = 0 := by
  have : stp g n i = (1, 0) := by unfold stp; rw [if_pos (by omega), h]
  unfold wd; rw [this]; simp
/-- A right text has no nought. -/
theorem Rgt.noNul {g : Nat → Nat} {n d : Nat} (hd : d < n) (h0 : g d = 0) : ∀ {i}, Rgt g n i → i ≤ d → False := by
  intro i h
  induction h with
  | fin i h => intro hi; omega
  | step i h hw k ih =>
    intro hi
    by_cases hle : i + wd g n i ≤ d
    · exact ih hle
    · by_cases he : i = d
      · subst he; exact hw (wd_nul g n i h0)
      · have := wd_tail g n i (d - i) (by omega) (by omega)
        rw [show i + (d - i) = d by omega] at this
        omega
end Go.Proofs.YtmpklaokgogigaaDoor

/-
  LAYER 4: broken, and Right, the program's.
-/
namespace Go.Proofs.YtmpklaokgogigaaDoor
set_option linter.unusedSimpArgs false
set_option linter.unusedVariables false
open Go.RowKit

def pfx (t : ByteArray) : Bool := decide (3 ≤ t.size) && ((t.extract 0 3).toList == [239, 191, 189])

theorem hp_any (t : ByteArray) (w : World) :
    Calls Tryd.prog 101 #[.string t, .string ⟨#[239, 191, 189]⟩] w fun e w' => e = .returned (.bool (pfx t)) ∧ w = w' := by
  by_cases h : t.size < 3
  · have hp : pfx t = false := by unfold pfx; simp; omega
    rw [hp]
    have h' : (t.size : Int) < 3 := by omega
    clear hp
    go_enter Tryd.func101, Tryd.ntmps101
    go_wp2_with go_in
    go_ret
    go_wp2
  · have h' : 3 ≤ (t.size : Int) := by omega
    have hp : pfx t = ((t.extract 0 3).toList == [239, 191, 189]) := by unfold pfx; simp; omega
    rw [hp]
    clear hp
    go_enter Tryd.func101, Tryd.ntmps101
    go_wp2_with go_in
    go_ret
    go_wp2
theorem broken_no (c : Int) (t : ByteArray) (w : World) (h : c ≠ 65533) :
    Calls Tryd.prog 99 #[.int .i32 c, .string t] w fun e w' => e = .returned (.bool false) ∧ w = w' := by
  have hb : (c == 65533) = false := beq_eq_false_iff_ne.2 h
  clear h
  go_enter Tryd.func99, Tryd.ntmps99
  go_wp2
  go_ret
  exact ⟨rfl, rfl⟩
theorem broken_pfx (b : Bool) (t : ByteArray) (w : World) (h : pfx t = b) :
    Calls Tryd.prog 99 #[.int .i32 65533, .string t] w fun e w' => e = .returned (.bool (!b)) ∧ w = w' := by
  have H := hp_any t
  rw [h] at H
  replace H := Lib.hid H
  clear h
  go_enter Tryd.func99, Tryd.ntmps99
  go_wp2_with (go_at_call 101; refine (H.out _).mono ?_; rintro e w' ⟨rfl, rfl⟩)
  go_ret
  exact ⟨rfl, rfl⟩
/-- The bytes behind a place begin as U+FFFD is laid: just where the decoder tells it with three bytes. -/
theorem get!_lt (s : ByteArray) (k : Nat) (h : k < s.size) : s.get! k = s.data.toList[k]'(by rw [Array.length_toList]; exact h) := by
  obtain ⟨d⟩ := s
  have h' : k < d.size := h
  show d[k]! = _
  rw [getElem!_pos d k h', Array.getElem_toList]
theorem pfx_iff (s : ByteArray) (i : Nat) (hi : i < s.size) : pfx (s.extract i s.size) = true ↔ i + 2 < s.size ∧ gB s i = 239 ∧ gB s (i + 1) = 191 ∧ gB s (i + 2) = 189 := by
  unfold pfx
  by_cases h : i + 2 < s.size
  · have e : ((s.extract i s.size).extract 0 3).toList = [s.get! i, s.get! (i + 1), s.get! (i + 2)] := by
      rw [get!_lt s i (by omega), get!_lt s (i + 1) (by omega), get!_lt s (i + 2) (by omega)]
      have hl : s.data.toList.length = s.size := rfl
      simp only [ByteArray.toList_eq, ByteArray.data_extract, Array.toList_extract, List.extract]
      apply List.ext_getElem
      · simp; omega
      · intro n h1 h2
        have : n = 0 ∨ n = 1 ∨ n = 2 := by simp at h2; omega
        rcases this with rfl | rfl | rfl <;> simp
    rw [e]
    have hs : 3 ≤ (s.extract i s.size).size := by simp; omega
    simp only [hs, decide_true, Bool.true_and, beq_iff_eq, List.cons.injEq, and_true, h, true_and]
    unfold gB
    constructor
    · rintro ⟨a, b, c⟩; rw [a, b, c]; decide
    · rintro ⟨a, b, c⟩; exact ⟨UInt8.toNat_inj.1 a, UInt8.toNat_inj.1 b, UInt8.toNat_inj.1 c⟩
  · have hs : ¬ 3 ≤ (s.extract i s.size).size := by simp; omega
    simp only [hs, decide_false, Bool.false_and]
    simp [h]
theorem stp_fffd (g : Nat → Nat) (n i : Nat) (hg : ∀ k, g k < 256) (hi : i < n) : (stp g n i).2 = 65533 ↔ i + 2 < n ∧ g i = 239 ∧ g (i + 1) = 191 ∧ g (i + 2) = 189 := by
  have h0 := hg i
  have h1 := hg (i + 1)
  have h2 := hg (i + 2)
  have h3 := hg (i + 3)
  constructor
  · intro h
    unfold stp at h
    split at h
    · simp at h; omega
    · split at h
      · simp at h; omega
      · split at h
        · rename_i h3; obtain ⟨hx, ha, hb⟩ := h3
          have ha := (tl_iff _ _ _).1 ha
          have hb := (tl_iff _ _ _).1 hb
          split at h
          · simp at h
          · simp at h; omega
        · split at h
          · split at h
            · simp at h
            · simp at h; omega
          · simp at h
  · rintro ⟨hn, e0, e1, e2⟩
    have t1 : tl g n (i + 1) = true := (tl_iff _ _ _).2 (by omega)
    have t2 : tl g n (i + 2) = true := (tl_iff _ _ _).2 (by omega)
    unfold stp
    rw [e0, e1, e2, t1, t2]
    simp
theorem pfx_stp (s : ByteArray) (i : Nat) (hi : i < s.size) : pfx (s.extract i s.size) = decide ((stp (gB s) s.size i).2 = 65533) := by
  rw [Bool.eq_iff_iff, pfx_iff s i hi, decide_eq_true_eq, stp_fffd _ _ _ (gB_lt s) hi]
end Go.Proofs.YtmpklaokgogigaaDoor

/-
  LAYER 4: Right, the program's.
-/
namespace Go.Proofs.YtmpklaokgogigaaDoor
set_option linter.unusedSimpArgs false
set_option linter.unusedVariables false
open Go.RowKit

def rightB (s : ByteArray) : Bool := decide (s.size ≤ 65535) && rtB s
theorem stp_none (g : Nat → Nat) (n i : Nat) (h : (stp g n i).1 = 0) : (stp g n i).2 = 0 := by
  revert h
  unfold stp
  split
  · simp
  · split
    · simp
    · split
      · split <;> simp
      · split
        · split <;> simp
        · simp
theorem stp_le (g : Nat → Nat) (n i : Nat) (hg : ∀ k, g k < 256) : (stp g n i).2 ≤ 1114111 := by
  have h0 := hg i
  have h1 := hg (i + 1)
  have h2 := hg (i + 2)
  have h3 := hg (i + 3)
  unfold stp
  split
  · simp; omega
  · split
    · simp; omega
    · split
      · split
        · simp
        · simp; omega
      · split
        · split
          · simp
          · simp; omega
        · simp
theorem rt_step (g : Nat → Nat) (n b i : Nat) (hi : i < n) (h : n ≤ i + b) (h0 : (stp g n i).1 ≠ 0) (h1 : (stp g n i).2 ≠ 0) : ∃ b', b = b' + 1 ∧ rt g n b i = rt g n b' (i + (stp g n i).1) ∧ n ≤ i + (stp g n i).1 + b' := by
  obtain ⟨b', rfl⟩ : ∃ b', b = b' + 1 := ⟨b - 1, by omega⟩
  refine ⟨b', rfl, ?_, by omega⟩
  have hw : wd g n i = (stp g n i).1 := by unfold wd; rw [if_neg h1]
  rw [rt, if_pos hi, hw]
  simp [h0]
theorem rt_stop (g : Nat → Nat) (n b i : Nat) (hi : i < n) (h : n ≤ i + b) (h0 : (stp g n i).2 = 0) : rt g n b i = false := by
  obtain ⟨b', rfl⟩ : ∃ b', b = b' + 1 := ⟨b - 1, by omega⟩
  have hw : wd g n i = 0 := by unfold wd; rw [if_pos h0]
  rw [rt, if_pos hi, hw]
  simp

theorem iter_below (w : World) (s : ByteArray) (pos : Nat) : Below w.heap.size w (w.iter s pos) := by
  exact (Below.refl _ _).alloc (Nat.le_refl _) _

set_option maxHeartbeats 1000000 in
set_option maxRecDepth 100000 in
theorem right_any (s : ByteArray) (w : World) :
    Calls Tryd.prog 86 #[.string s] w fun e w' => e = .returned (.bool (rightB s)) ∧ Below w.heap.size w w' := by
  by_cases hl : 65535 < s.size
  · have hb : rightB s = false := by unfold rightB; simp; omega
    rw [hb]
    have hl' : (65535 : Int) < s.size := by omega
    clear hb
    go_enter Tryd.func86, Tryd.ntmps86
    go_wp2
    go_ret
    exact ⟨rfl, Below.refl _ _⟩
  · have hb : rightB s = rtB s := by unfold rightB; simp; omega
    rw [hb]
    have hl' : (s.size : Int) ≤ 65535 := by omega
    clear hb
    go_enter Tryd.func86, Tryd.ntmps86
    go_wp2
    go_loopw [3, 4] (fun _ _ w' => ∃ (pos b : Nat), w' = w.iter s pos ∧ pos ≤ s.size ∧ rt (gB s) s.size b pos = rtB s ∧ s.size ≤ pos + b) (fun _ _ w' => s.size - w'.iterPos w.heap.size)
    case atStart => exact ⟨0, s.size, rfl, by omega, rfl, by omega⟩
    case round =>
      obtain ⟨pos, b, rfl, hps, hc, hb⟩ := hrel
      by_cases hp : pos < s.size
      · have hps : pos ≤ s.size := by omega
        have hps' : (pos : Int) ≤ 65535 := by omega
        have hps2 : (pos : Int) ≤ s.size := by omega
        have hdec := decode_stp s pos
        have hpf := pfx_stp s pos hp
        have hn0 := stp_none (gB s) s.size pos
        have hle := stp_le (gB s) s.size pos (gB_lt s)
        have hst := rt_step (gB s) s.size b pos hp hb
        have hso := rt_stop (gB s) s.size b pos hp hb
        have hfit : pos + (stp (gB s) s.size pos).1 ≤ s.size := by
          by_cases h : (stp (gB s) s.size pos).1 ≤ 1
          · omega
          · have := stp_tail (gB s) s.size pos ((stp (gB s) s.size pos).1 - 1) (by omega) (by omega)
            omega
        have hnx : ∀ ty, (Instr.next (.pointer (some ⟨w.heap.size, 0, none⟩)) true ty).run Tryd.prog (w.iter s pos) = _ := fun ty => run_next_any w s pos ty hp
        rw [hdec] at hnx
        obtain ⟨⟨n, c⟩, hp'⟩ : ∃ p, p = stp (gB s) s.size pos := ⟨_, rfl⟩
        rw [← hp'] at hnx hpf hn0 hle hst hso hfit
        simp only at hnx hpf hn0 hle hst hso hfit
        have HC := Lib.hid hc
        have HST := Lib.hid hst
        clear hp' hdec hc hst
        by_cases h0 : n = 0
        · obtain rfl := hn0 h0
          subst h0
          simp only [if_true] at hnx
          have hf : rtB s = false := by rw [← HC.out]; exact hso rfl
          have hpf' : pfx (s.extract pos s.size) = false := by rw [hpf]; rfl
          have BR := fun w => broken_pfx false (s.extract pos s.size) w hpf'
          replace BR := Lib.hid BR
          have HF := Lib.hid hf
          clear hn0 hso hpf hpf' hf
          go_wp2_with (go_at_call 99; refine (BR.out _).mono ?_; rintro e w' ⟨rfl, rfl⟩)
          go_ret
          exact ⟨by rw [HF.out]; rfl, iter_below _ _ _⟩
        · rw [if_neg h0] at hnx
          have h0' := Lib.hid h0
          by_cases hc0 : c = 0
          · subst hc0
            have hf : rtB s = false := by rw [← HC.out]; exact hso rfl
            have HF := Lib.hid hf
            clear hn0 hso hpf hf h0
            go_wp2_with fail
            go_ret
            exact ⟨by rw [HF.out]; rfl, iter_below _ _ _⟩
          · obtain ⟨b', hb', hrt, hbb⟩ := HST.out h0 hc0
            have hcz : ((c : Int) == 0) = false := beq_eq_false_iff_ne.2 (by omega)
            have hrel : rt (gB s) s.size b' (pos + n) = rtB s := by rw [← hrt]; exact HC.out
            have HREL := Lib.hid hrel
            have hfin : pos + n ≤ s.size := hfit
            have BR : ∀ w, Calls Tryd.prog 99 #[.int .i32 c, .string (s.extract pos s.size)] w fun e w' => e = .returned (.bool false) ∧ w = w' := by
              intro w
              by_cases hcf : c = 65533
              · subst hcf
                exact broken_pfx true _ w (by rw [hpf]; rfl)
              · exact broken_no c _ w (by omega)
            replace BR := Lib.hid BR
            have HB := Lib.hid hbb
            have hn1 : 1 ≤ n := by omega
            clear hn0 hso hpf h0 hb' hrt hrel hbb hc0 HC HST
            go_wp2_with (go_at_call 99; refine (BR.out _).mono ?_; rintro e w' ⟨rfl, rfl⟩)
            go_roundw
            case rel => exact ⟨pos + n, b', rfl, hfin, HREL.out, HB.out⟩
            case measure => simp; omega
      · have hnx : ∀ ty, (Instr.next (.pointer (some ⟨w.heap.size, 0, none⟩)) true ty).run Tryd.prog (w.iter s pos) = _ := fun ty => run_next_end w s pos ty hp
        have hf : rtB s = true := by
          rw [← hc]
          cases b with
          | zero => simp [rt]; omega
          | succ b => rw [rt, if_neg hp]
        have HF := Lib.hid hf
        clear hc hf
        go_wp2
        go_ret
        exact ⟨by rw [HF.out]; rfl, iter_below _ _ _⟩
end Go.Proofs.YtmpklaokgogigaaDoor

/-
  LAYER 4: Put2, Get2, GetRaw, the program's.
-/
namespace Go.Proofs.YtmpklaokgogigaaDoor
set_option linter.unusedSimpArgs false
set_option linter.unusedVariables false
open Go.RowKit

theorem ofInt_nat (a : Nat) (h1 : a ≤ 9223372036854775807) : (BitVec.ofInt 64 (a : Int)).toNat = a := by
  rw [BitVec.toNat_ofInt]; omega
theorem i64_or_nat (x y : Nat) (hx : x < 4611686018427387904) (hy : y < 4611686018427387904) : bits .or .i64 (x : Int) (y : Int) = ((x ||| y : Nat) : Int) := by
  have e : bits .or .i64 (x : Int) (y : Int) = IntKind.i64.wrap ((BitVec.ofInt 64 (x : Int) ||| BitVec.ofInt 64 (y : Int)).toNat : Int) := rfl
  have hb : x ||| y < 2 ^ 62 := Nat.or_lt_two_pow hx hy
  rw [e, BitVec.toNat_or, ofInt_nat x (by omega), ofInt_nat y (by omega)]
  exact IntWalk.i64_in _ (by omega)
theorem put2_any (n : Nat) (w : World) (hn : n ≤ 65535) :
    Calls Tryd.prog 91 #[.int .i64 n] w fun e w' => e = .returned (.tuple #[.slice (some ⟨w.heap.size, 0, none⟩) 2 2, .int .i64 0]) ∧ w' = w.alloc (.cells #[.int .u8 ((n / 256 : Nat) : Int), .int .u8 ((n % 256 : Nat) : Int)] 5) := by
  have hn' : (n : Int) ≤ 65535 := by omega
  go_enter Tryd.func91, Tryd.ntmps91
  go_wp2
  go_ret2
  exact ⟨rfl, by simp⟩
def get2V (l : List Nat) (at' : Int) : Int × Int × Int :=
  if at' < 0 ∨ (l.length : Int) < at' then (0, 0, 1)
  else if (l.length : Int) - at' < 2 then (0, 0, 2)
  else (((256 * l.getD at'.toNat 0 + l.getD (at'.toNat + 1) 0 : Nat) : Int), at' + 2, 0)
set_option maxHeartbeats 1000000 in
set_option maxRecDepth 100000 in
theorem get2_any (v : Value) (l : List Nat) (at' : Int) (w : World) (hb : BytesAt w v l) (h256 : ∀ x ∈ l, x < 256) (hl : l.length ≤ 140737488355328) (b : -9223372036854775808 ≤ at' ∧ at' ≤ 9223372036854775807) :
    Calls Tryd.prog 84 #[v, .int .i64 at'] w fun e w' => e = .returned (.tuple #[.int .i64 (get2V l at').1, .int .i64 (get2V l at').2.1, .int .i64 (get2V l at').2.2]) ∧ ∃ n, w' = w.drewN n := by
  obtain ⟨a, cap, rfl, hcap, hc⟩ := hb
  obtain ⟨n, hn⟩ : ∃ n, n = l.length := ⟨_, rfl⟩
  rw [← hn] at hl hcap hc ⊢
  by_cases h1 : at' < 0 ∨ (n : Int) < at'
  · have e : get2V l at' = (0, 0, 1) := by unfold get2V; rw [← hn, if_pos h1]
    rw [e]
    clear e hn hc hcap
    rcases (show at' < 0 ∨ (0 ≤ at' ∧ (n : Int) < at') by omega) with h | ⟨h, h'⟩
    all_goals
      clear h1
      go_enter Tryd.func84, Tryd.ntmps84
      go_wp2
      go_ret3
      exact ⟨rfl, 0, rfl⟩
  · obtain ⟨k, rfl⟩ := Int.eq_ofNat_of_zero_le (show 0 ≤ at' by omega)
    have h0 : (k : Int) ≤ n := by omega
    by_cases h2 : (n : Int) - k < 2
    · have e : get2V l k = (0, 0, 2) := by unfold get2V; rw [← hn, if_neg h1, if_pos h2]
      rw [e]
      clear e hn hc hcap h1
      go_enter Tryd.func84, Tryd.ntmps84
      go_wp2
      go_ret3
      exact ⟨rfl, 0, rfl⟩
    · have e : get2V l k = (((256 * l.getD k 0 + l.getD (k + 1) 0 : Nat) : Int), (k : Int) + 2, 0) := by unfold get2V; rw [← hn, if_neg h1, if_neg h2]; simp
      rw [e]
      rcases hc with hc | ⟨bb, o, rfl, hlt, hcell⟩
      · subst hc; simp at hn; omega
      have c0 := hcell k (by omega)
      have c1 := hcell (k + 1) (by omega)
      have b0 : l.getD k 0 < 256 := by
        rw [List.getD_eq_getElem?_getD, List.getElem?_eq_getElem (by omega)]; exact h256 _ (List.getElem_mem _)
      have b1 : l.getD (k + 1) 0 < 256 := by
        rw [List.getD_eq_getElem?_getD, List.getElem?_eq_getElem (by omega)]; exact h256 _ (List.getElem_mem _)
      generalize l.getD k 0 = x at *
      generalize l.getD (k + 1) 0 = y at *
      have hor : bits .or .i64 ((x : Int) * 256) (y : Int) = ((256 * x + y : Nat) : Int) := by
        rw [show (x : Int) * 256 = ((x * 256 : Nat) : Int) from by omega, i64_or_nat _ _ (by omega) (by omega), nat_join 8 _ _ (by omega) (by omega)]
        omega
      have hb0 : (x : Int) < 256 := by omega
      have hb1 : (y : Int) < 256 := by omega
      have w1 : IntKind.i64.wrap ((k : Int) + 1) = k + 1 := IntWalk.i64_in _ (by omega)
      have w2 : ((k : Int) + 1).toNat = k + 1 := by omega
      have w3 : 0 ≤ (k : Int) + 1 := by omega
      have w4 : IntKind.i64.wrap ((k : Int) + 2) = k + 2 := IntWalk.i64_in _ (by omega)
      have c1' : w.cell? ⟨bb, o + k + 1, none⟩ = some (.int .u8 (y : Int)) := by rw [Nat.add_assoc]; exact c1
      have hk2 : (k : Int) + 2 ≤ n := by omega
      clear hcell e hn h256 h1 h2 b
      go_enter Tryd.func84, Tryd.ntmps84
      go_wp2
      go_quiet (fail)
      go_wp2
      go_ret3
      exact ⟨by simp, nq, rfl⟩
end Go.Proofs.YtmpklaokgogigaaDoor

/-
  LAYER 4: GetRaw and Get, the program's.
-/
namespace Go.Proofs.YtmpklaokgogigaaDoor
set_option linter.unusedSimpArgs false
set_option linter.unusedVariables false
open Go.RowKit

theorem BytesAt.drewN {w : World} {v : Value} {l : List Nat} (h : BytesAt w v l) (n : Nat) : BytesAt (w.drewN n) v l := by
  obtain ⟨a, cap, hv, hc, h⟩ := h
  refine ⟨a, cap, hv, hc, h.imp id ?_⟩
  rintro ⟨b, o, ha, hlt, hcell⟩
  exact ⟨b, o, ha, by simpa using hlt, fun i hi => by simpa using hcell i hi⟩
theorem BytesAt.sub {w : World} {b o n cap : Nat} {l : List Nat} (h : BytesAt w (.slice (some ⟨b, o, none⟩) n cap) l) (k m c : Nat) (hk : k + m ≤ l.length) (hm : m ≤ c) : BytesAt w (.slice (some ⟨b, o + k, none⟩) m c) ((l.drop k).take m) := by
  obtain ⟨a, cap', hv, ⟨h1, h2⟩, hc⟩ := h
  simp only [Value.slice.injEq] at hv
  obtain ⟨rfl, rfl, rfl⟩ := hv
  have hl : ((l.drop k).take m).length = m := by rw [List.length_take, List.length_drop]; omega
  refine ⟨some ⟨b, o + k, none⟩, c, by rw [hl], ⟨by omega, fun h => by cases h⟩, ?_⟩
  rcases hc with rfl | ⟨b', o', hbo, hlt, hcell⟩
  · exact .inl (by simp)
  · simp only [Option.some.injEq, Addr.mk.injEq, and_true] at hbo
    obtain ⟨rfl, rfl⟩ := hbo
    refine .inr ⟨b, o + k, rfl, hlt, fun i hi => ?_⟩
    rw [hl] at hi
    rw [Nat.add_assoc, hcell (k + i) (by omega)]
    simp [List.getD, List.getElem?_take, hi, List.getElem?_drop]

def rawV (l : List Nat) (at' : Int) : ByteArray × Int × Int :=
  if (get2V l at').2.2 ≠ 0 then (ByteArray.empty, 0, (get2V l at').2.2)
  else if (l.length : Int) - (get2V l at').2.1 < (get2V l at').1 then (ByteArray.empty, 0, 2)
  else (strB ((l.drop (get2V l at').2.1.toNat).take (get2V l at').1.toNat), (get2V l at').2.1 + (get2V l at').1, 0)
theorem get2_ok {l : List Nat} {at' : Int} (h : (get2V l at').2.2 = 0) (h256 : ∀ x ∈ l, x < 256) : ∃ k m : Nat, at' = k ∧ k + 2 ≤ l.length ∧ m ≤ 65535 ∧ get2V l at' = ((m : Int), ((k + 2 : Nat) : Int), 0) := by
  unfold get2V at *
  split at h
  · simp at h
  · split at h
    · simp at h
    · rename_i h1 h2
      obtain ⟨k, rfl⟩ := Int.eq_ofNat_of_zero_le (show 0 ≤ at' by omega)
      have hk : k + 2 ≤ l.length := by omega
      have b0 : l.getD k 0 < 256 := by
        rw [List.getD_eq_getElem?_getD, List.getElem?_eq_getElem (by omega)]; exact h256 _ (List.getElem_mem _)
      have b1 : l.getD (k + 1) 0 < 256 := by
        rw [List.getD_eq_getElem?_getD, List.getElem?_eq_getElem (by omega)]; exact h256 _ (List.getElem_mem _)
      refine ⟨k, 256 * l.getD k 0 + l.getD (k + 1) 0, rfl, hk, by omega, ?_⟩
      rw [if_neg h1, if_neg h2]
      simp
def RawPost (r : ByteArray × Int × Int) (w : World) (e : Ending) (w' : World) : Prop :=
  e = .returned (.tuple #[.string r.1, .int .i64 r.2.1, .int .i64 r.2.2]) ∧ ∃ n, w' = w.drewN n
set_option maxHeartbeats 1000000 in
set_option maxRecDepth 100000 in
theorem getraw_any (v : Value) (l : List Nat) (at' : Int) (w : World) (hb : BytesAt w v l) (h256 : ∀ x ∈ l, x < 256) (hl : l.length ≤ 140737488355328) (b : -9223372036854775808 ≤ at' ∧ at' ≤ 9223372036854775807) :
    Calls Tryd.prog 85 #[v, .int .i64 at'] w (RawPost (rawV l at') w) := by
  have G := get2_any v l at' w hb h256 hl b
  by_cases h0 : (get2V l at').2.2 = 0
  · obtain ⟨k, m, rfl, hk, hm, e⟩ := get2_ok h0 h256
    rw [e] at G
    have er : rawV l k = if (l.length : Int) - ((k + 2 : Nat) : Int) < m then (ByteArray.empty, 0, 2) else (strB ((l.drop (k + 2)).take m), ((k + 2 : Nat) : Int) + m, 0) := by
      unfold rawV; rw [e]; simp only [ne_eq, not_true, if_false, Int.toNat_natCast]
    obtain ⟨n, hn⟩ : ∃ n, n = l.length := ⟨_, rfl⟩
    have hk' : ((k + 2 : Nat) : Int) ≤ n := by omega
    have hm' : (m : Int) ≤ 65535 := by omega
    obtain ⟨a, cap, rfl, hcap, hc⟩ := id hb
    rw [← hn] at er hcap hl G ⊢
    have hn2 : (n : Int) ≤ 140737488355328 := by omega
    obtain ⟨bb, o, rfl⟩ : ∃ bb o, a = some ⟨bb, o, none⟩ := by
      rcases hc with rfl | ⟨bb, o, rfl, _⟩
      · simp at hn; omega
      · exact ⟨bb, o, rfl⟩
    obtain ⟨q, hq⟩ : ∃ q, q = k + 2 := ⟨_, rfl⟩
    rw [← hq] at er G hk' hk
    have hn3 := Lib.hid hn
    replace G := Lib.hid G
    by_cases hlt : (n : Int) - q < m
    · rw [if_pos hlt] at er
      rw [er]
      clear er e hq hn hc hb h256 h0
      go_enter Tryd.func85, Tryd.ntmps85
      go_wp2_with (go_at_call 84; refine G.out.mono ?_; rintro e w' ⟨rfl, nq, rfl⟩)
      go_ret3
      exact ⟨rfl, nq, rfl⟩
    · rw [if_neg hlt] at er
      rw [er]
      have hqm : q + m ≤ n := by omega
      have hqm' : (q : Int) + m ≤ n := by omega
      have hcp : n ≤ cap := hcap.1
      have hcp' : (q : Int) + m ≤ cap := by omega
      clear e hq hn hc h0 hlt er
      by_cases hcq : cap = q
      · obtain rfl : m = 0 := by omega
        subst hcq
        have HB : BytesAt w (.slice (some ⟨bb, o, none⟩) 0 0) ((l.drop cap).take 0) := ⟨some ⟨bb, o, none⟩, 0, rfl, ⟨by simp, fun h => by cases h⟩, .inl rfl⟩
        have kc : ∀ nq, (convert 48 9 (.slice (some ⟨bb, o, none⟩) 0 0)).run Tryd.prog (w.drewN nq) = _ := fun nq => (HB.drewN nq).conv (P := Tryd.prog) Tryd.underlying48 Tryd.underlying5 Tryd.underlying9
        clear HB hb
        go_enter Tryd.func85, Tryd.ntmps85
        go_wp2_with (go_at_call 84; refine G.out.mono ?_; rintro e w' ⟨rfl, nq, rfl⟩)
        go_ret3
        exact ⟨by simp, nq, rfl⟩
      · have HB := hb.sub q m (cap - q) (by rw [← hn3.out]; omega) (by omega)
        have kc : ∀ nq, (convert 48 9 (.slice (some ⟨bb, o + q, none⟩) m (cap - q))).run Tryd.prog (w.drewN nq) = _ := fun nq => (HB.drewN nq).conv (P := Tryd.prog) Tryd.underlying48 Tryd.underlying5 Tryd.underlying9
        have hcq1 : q < cap := by omega
        have hcq2 : (q : Int) < cap := by omega
        generalize strB ((l.drop q).take m) = S at *
        clear HB hb hcq
        go_enter Tryd.func85, Tryd.ntmps85
        go_wp2_with (go_at_call 84; refine G.out.mono ?_; rintro e w' ⟨rfl, nq, rfl⟩)
        go_ret3
        exact ⟨by simp, nq, rfl⟩
  · obtain ⟨x, hx⟩ : ∃ x, (get2V l at').2.2 = x := ⟨_, rfl⟩
    have er : rawV l at' = (ByteArray.empty, 0, x) := by unfold rawV; rw [if_pos h0, hx]
    rw [er]
    rw [hx] at G h0
    have h0' : (x != 0) = true := by simpa using h0
    replace G := Lib.hid G
    clear er hx h0
    go_enter Tryd.func85, Tryd.ntmps85
    go_wp2_with (go_at_call 84; refine G.out.mono ?_; rintro e w' ⟨rfl, nq, rfl⟩)
    go_ret3
    exact ⟨rfl, nq, rfl⟩

def getV (l : List Nat) (at' : Int) : ByteArray × Int × Int :=
  if (rawV l at').2.2 = 0 ∧ rightB (rawV l at').1 = false then (ByteArray.empty, 0, 9) else rawV l at'
def GetPost (r : ByteArray × Int × Int) (w : World) (e : Ending) (w' : World) : Prop :=
  e = .returned (.tuple #[.string r.1, .int .i64 r.2.1, .int .i64 r.2.2]) ∧ Below w.heap.size w w'
set_option maxHeartbeats 1000000 in
set_option maxRecDepth 100000 in
theorem get_any (v : Value) (l : List Nat) (at' : Int) (w : World) (hb : BytesAt w v l) (h256 : ∀ x ∈ l, x < 256) (hl : l.length ≤ 140737488355328) (b : -9223372036854775808 ≤ at' ∧ at' ≤ 9223372036854775807) :
    Calls Tryd.prog 61 #[v, .int .i64 at'] w (GetPost (getV l at') w) := by
  have G := getraw_any v l at' w hb h256 hl b
  obtain ⟨a, cap, rfl, _⟩ := id hb
  unfold getV
  clear hb
  generalize rawV l at' = r at *
  obtain ⟨S, y, x⟩ := r
  unfold RawPost at G
  simp only at G ⊢
  by_cases hx : x = 0
  · subst hx
    have R := right_any S
    by_cases hr : rightB S = true
    · rw [hr] at R ⊢
      replace R := Lib.hid R
      replace G := Lib.hid G
      clear hr
      go_enter Tryd.func61, Tryd.ntmps61
      go_wp2_with (first | (go_at_call 85; refine G.out.mono ?_; rintro e w' ⟨rfl, nq, rfl⟩) | (go_at_call 86; refine (R.out _).mono ?_; rintro e w2 ⟨rfl, hb⟩))
      go_ret3
      exact ⟨by first | rfl | simp, (below_drewN (Below.refl _ _) nq).trans (hb.mono (by simp))⟩
    · have hr : rightB S = false := by simpa using hr
      rw [hr] at R ⊢
      replace R := Lib.hid R
      replace G := Lib.hid G
      clear hr
      go_enter Tryd.func61, Tryd.ntmps61
      go_wp2_with (first | (go_at_call 85; refine G.out.mono ?_; rintro e w' ⟨rfl, nq, rfl⟩) | (go_at_call 86; refine (R.out _).mono ?_; rintro e w2 ⟨rfl, hb⟩))
      go_ret3
      exact ⟨by first | rfl | simp, (below_drewN (Below.refl _ _) nq).trans (hb.mono (by simp))⟩
  · have hx' : (x == 0) = false := by simpa using hx
    rw [if_neg (by simp [hx])]
    replace G := Lib.hid G
    clear hx
    go_enter Tryd.func61, Tryd.ntmps61
    go_wp2_with (first | (go_at_call 85; refine G.out.mono ?_; rintro e w' ⟨rfl, nq, rfl⟩))
    go_ret3
    exact ⟨rfl, below_drewN (Below.refl _ _) nq⟩
end Go.Proofs.YtmpklaokgogigaaDoor

/-
  LAYER 4: PutRaw, Put and awake, the program's.
-/
namespace Go.Proofs.YtmpklaokgogigaaDoor
set_option linter.unusedSimpArgs false
set_option linter.unusedVariables false
open Go.RowKit

theorem info5 : (Tryd.prog.info? 5).map (fun i => (i.zero, i.size, i.bytes)) = some (some (.int .u8 0), 1, 1) := by kernel_rfl
/-- The bytes of a text as it is laid. -/
def txtL (s : ByteArray) : List Nat := s.data.toList.map UInt8.toNat
def rawL (s : ByteArray) : List Nat := [s.size / 256, s.size % 256] ++ txtL s
theorem bl_txt (s : ByteArray) : bl (txtL s) = Lib.strCells s := by unfold bl txtL Lib.strCells; rw [List.map_map]; rfl
theorem rawL_length (s : ByteArray) : (rawL s).length = 2 + s.size := by unfold rawL txtL; simp; omega
theorem bl_raw (s : ByteArray) : bl (rawL s) = bl [s.size / 256, s.size % 256] ++ Lib.strCells s := by
  rw [← bl_txt, ← bl_append]; rfl
theorem rawL_lt (s : ByteArray) (h : s.size ≤ 65535) : ∀ x ∈ rawL s, x < 256 := by
  intro x hx
  simp only [rawL, txtL, List.cons_append, List.nil_append, List.mem_cons, List.mem_map] at hx
  rcases hx with rfl | rfl | ⟨u, _, rfl⟩
  · omega
  · omega
  · exact UInt8.toNat_lt _

def PutPost (s : ByteArray) (w : World) (e : Ending) (w' : World) : Prop :=
  ∃ v, e = .returned (.tuple #[v, .int .i64 0]) ∧ w'.ownsRow w.heap.size 5 1 v (rawL s).length (bl (rawL s)) ∧ Below w.heap.size w w'
theorem putraw_long (s : ByteArray) (w : World) (h : 65535 < s.size) :
    Calls Tryd.prog 98 #[.string s] w fun e w' => e = .returned (.tuple #[.slice none 0 0, .int .i64 3]) ∧ w = w' := by
  have h' : (65535 : Int) < s.size := by omega
  go_enter Tryd.func98, Tryd.ntmps98
  go_wp2
  go_ret2
  exact ⟨rfl, rfl⟩
set_option maxHeartbeats 1000000 in
set_option maxRecDepth 100000 in
theorem putraw_any (s : ByteArray) (w : World) (h : s.size ≤ 65535) : Calls Tryd.prog 98 #[.string s] w (PutPost s w) := by
  have h' : (s.size : Int) ≤ 65535 := by omega
  obtain ⟨i0, hi, hz0, hz1, hz2⟩ := info_parts info5
  have hown0 : (w.alloc (.cells #[.int .u8 ((s.size / 256 : Nat) : Int), .int .u8 ((s.size % 256 : Nat) : Int)] 5)).ownsRow w.heap.size 5 1 (.slice (some ⟨w.heap.size, 0, none⟩) 2 2) 2 (bl [s.size / 256, s.size % 256]) := by
    have := World.ownsRow_lit (base := w.heap.size) (e := 5) (size := 1) w #[.int .u8 ((s.size / 256 : Nat) : Int), .int .u8 ((s.size % 256 : Nat) : Int)] 2 (by simp) (by unfold maxLen; omega) rfl
    simpa [bl] using this
  have P := put2_any s.size w h
  have hb0 : Below w.heap.size w (w.alloc (.cells #[.int .u8 ((s.size / 256 : Nat) : Int), .int .u8 ((s.size % 256 : Nat) : Int)] 5)) := ext_alloc _ _
  generalize w.alloc (.cells #[.int .u8 ((s.size / 256 : Nat) : Int), .int .u8 ((s.size % 256 : Nat) : Int)] 5) = w0 at *
  replace P := Lib.hid P
  have hs0 := hb0.size
  go_enter Tryd.func98, Tryd.ntmps98
  go_wp2_with fail
  refine P.out.mono ?_
  rintro e w' ⟨rfl, rfl⟩
  go_wp2_with (at_builtin; refine Lib.wpList_append_own_string _ rfl (.tmp 15) (.tmp 16) 48 9 rfl w.heap.size 5 i0 Tryd.underlying48 Tryd.underlying9 hi hz0 hz1 hz2 (.slice (some ⟨w.heap.size, 0, none⟩) 2 2) 2 (bl [s.size / 256, s.size % 256]) rfl hown0 s rfl (by unfold maxLen; omega) (by omega) hs0 ?_; intro v1 w1 hown1 hgrow1 hnil1)
  have hb1 : Below w.heap.size w w1 := hb0.grown hgrow1 hs0 (fun k hk => by cases hk; exact Nat.le_refl _)
  go_ret2
  refine ⟨v1, rfl, ?_, hb1⟩
  rw [bl_raw, rawL_length]
  exact hown1
theorem put_bad (s : ByteArray) (w : World) (h : s.size ≤ 65535) (hr : rightB s = false) :
    Calls Tryd.prog 96 #[.string s] w fun e w' => e = .returned (.tuple #[.slice none 0 0, .int .i64 9]) ∧ Below w.heap.size w w' := by
  have h' : (s.size : Int) ≤ 65535 := by omega
  have R := right_any s
  rw [hr] at R
  replace R := Lib.hid R
  clear hr
  go_enter Tryd.func96, Tryd.ntmps96
  go_wp2_with (go_at_call 86; refine (R.out _).mono ?_; rintro e w2 ⟨rfl, hb⟩)
  go_ret2
  exact ⟨rfl, hb⟩
theorem put_long (s : ByteArray) (w : World) (h : 65535 < s.size) :
    Calls Tryd.prog 96 #[.string s] w fun e w' => e = .returned (.tuple #[.slice none 0 0, .int .i64 3]) ∧ w = w' := by
  have h' : (65535 : Int) < s.size := by omega
  go_enter Tryd.func96, Tryd.ntmps96
  go_wp2_with (go_at_call 98; refine (putraw_long s _ h).mono ?_; rintro e w2 ⟨rfl, rfl⟩)
  go_ret2
  exact ⟨rfl, rfl⟩
theorem put_ok (s : ByteArray) (w : World) (h : s.size ≤ 65535) (hr : rightB s = true) : Calls Tryd.prog 96 #[.string s] w (PutPost s w) := by
  have h' : (s.size : Int) ≤ 65535 := by omega
  have R := right_any s
  rw [hr] at R
  replace R := Lib.hid R
  clear hr
  go_enter Tryd.func96, Tryd.ntmps96
  go_wp2_with (first | (go_at_call 86; refine (R.out _).mono ?_; rintro e w2 ⟨rfl, hb⟩) | (go_at_call 98; refine (putraw_any s _ h).mono ?_; rintro e w3 ⟨v, rfl, hown, hb3⟩))
  go_ret2
  exact ⟨v, rfl, Joins.ownsRow_le hown hb.size, ext_trans hb hb3⟩

end Go.Proofs.YtmpklaokgogigaaDoor

/-
  LAYER 4: there and back, plain.
-/
namespace Go.Proofs.YtmpklaokgogigaaDoor
set_option linter.unusedSimpArgs false
set_option linter.unusedVariables false
open Go.RowKit

theorem strB_txt (s : ByteArray) : strB (txtL s) = s := by
  obtain ⟨d⟩ := s
  unfold strB txtL
  congr 1
  rw [List.map_map]
  have : (UInt8.ofNat ∘ UInt8.toNat) = id := by funext x; simp
  rw [this]; simp
theorem txtL_length (s : ByteArray) : (txtL s).length = s.size := by unfold txtL; simp
theorem raw_mid (la lb : List Nat) (s : ByteArray) (h : s.size ≤ 65535) : rawV (la ++ rawL s ++ lb) la.length = (s, ((la.length + (2 + s.size) : Nat) : Int), 0) := by
  have hlen : (la ++ rawL s ++ lb).length = la.length + (2 + s.size) + lb.length := by simp [rawL_length]; omega
  have g0 : (la ++ rawL s ++ lb).getD la.length 0 = s.size / 256 := by
    rw [List.append_assoc]; simp [List.getD, List.getElem?_append, rawL]
  have g1 : (la ++ rawL s ++ lb).getD (la.length + 1) 0 = s.size % 256 := by
    rw [List.append_assoc]; simp [List.getD, List.getElem?_append, rawL]
  have e2 : get2V (la ++ rawL s ++ lb) la.length = ((s.size : Int), ((la.length + 2 : Nat) : Int), 0) := by
    unfold get2V
    rw [hlen, if_neg (by omega), if_neg (by omega), Int.toNat_natCast, g0, g1]
    rw [show 256 * (s.size / 256) + s.size % 256 = s.size from by omega]
    simp
  unfold rawV
  rw [e2, hlen]
  simp only [ne_eq, not_true, if_false, Int.toNat_natCast]
  rw [if_neg (by omega)]
  have : ((la ++ rawL s ++ lb).drop (la.length + 2)).take s.size = txtL s := by
    rw [List.append_assoc, List.drop_append, List.drop_eq_nil_of_le (by omega), show la.length + 2 - la.length = 2 from by omega]
    have e : rawL s ++ lb = s.size / 256 :: s.size % 256 :: (txtL s ++ lb) := rfl
    rw [e, List.nil_append, List.drop_succ_cons, List.drop_succ_cons, List.drop_zero, List.take_append_of_le_length (by rw [txtL_length]; omega), List.take_of_length_le (by rw [txtL_length]; omega)]
  rw [this, strB_txt]
  simp; omega
theorem get_mid (la lb : List Nat) (s : ByteArray) (h : s.size ≤ 65535) : getV (la ++ rawL s ++ lb) la.length = if rightB s = true then (s, ((la.length + (2 + s.size) : Nat) : Int), 0) else (ByteArray.empty, 0, 9) := by
  unfold getV
  rw [raw_mid la lb s h]
  cases rightB s <;> simp
end Go.Proofs.YtmpklaokgogigaaDoor
