/-
  LAYER 4, PLAIN: what a text is, by the document's steps; the model's decoder tells the same.
-/
import GoSem.Core.Utf8
namespace Go.Proofs.YtmpklaokgogigaaDoor
set_option linter.unusedSimpArgs false
set_option linter.unusedVariables false

/-- Is there a byte 128 to 191? -/
def tl (g : Nat → Nat) (n k : Nat) : Bool := decide (k < n) && (decide (128 ≤ g k) && decide (g k ≤ 191))
theorem tl_iff (g : Nat → Nat) (n k : Nat) : tl g n k = true ↔ k < n ∧ 128 ≤ g k ∧ g k ≤ 191 := by simp [tl]

/-- The number of bytes of the rune at a place, and its number; (0, 0): there is none. -/
def stp (g : Nat → Nat) (n i : Nat) : Nat × Nat :=
  if g i < 128 then (1, g i)
  else if (194 ≤ g i ∧ g i ≤ 223) ∧ tl g n (i + 1) = true then (2, (g i - 192) * 64 + (g (i + 1) - 128))
  else if (224 ≤ g i ∧ g i ≤ 239) ∧ tl g n (i + 1) = true ∧ tl g n (i + 2) = true then
    if (g i - 224) * 4096 + (g (i + 1) - 128) * 64 + (g (i + 2) - 128) < 2048 ∨ (55296 ≤ (g i - 224) * 4096 + (g (i + 1) - 128) * 64 + (g (i + 2) - 128) ∧ (g i - 224) * 4096 + (g (i + 1) - 128) * 64 + (g (i + 2) - 128) ≤ 57343) then (0, 0)
    else (3, (g i - 224) * 4096 + (g (i + 1) - 128) * 64 + (g (i + 2) - 128))
  else if (240 ≤ g i ∧ g i ≤ 244) ∧ tl g n (i + 1) = true ∧ tl g n (i + 2) = true ∧ tl g n (i + 3) = true then
    if (g i - 240) * 262144 + (g (i + 1) - 128) * 4096 + (g (i + 2) - 128) * 64 + (g (i + 3) - 128) < 65536 ∨ 1114111 < (g i - 240) * 262144 + (g (i + 1) - 128) * 4096 + (g (i + 2) - 128) * 64 + (g (i + 3) - 128) then (0, 0)
    else (4, (g i - 240) * 262144 + (g (i + 1) - 128) * 4096 + (g (i + 2) - 128) * 64 + (g (i + 3) - 128))
  else (0, 0)

/-- The width of the right rune at a place, or 0. -/
def wd (g : Nat → Nat) (n i : Nat) : Nat := if (stp g n i).2 = 0 then 0 else (stp g n i).1

/-- From a place on all is right. -/
def rt (g : Nat → Nat) (n : Nat) : Nat → Nat → Bool
  | 0, i => decide (n ≤ i)
  | f + 1, i => if i < n then (decide (wd g n i ≠ 0) && rt g n f (i + wd g n i)) else true

def gB (s : ByteArray) (k : Nat) : Nat := (s.get! k).toNat
def rtB (s : ByteArray) : Bool := rt (gB s) s.size s.size 0
theorem gB_lt (s : ByteArray) (k : Nat) : gB s k < 256 := by unfold gB; exact UInt8.toNat_lt _

/-- The decoder, by bytes as numbers. -/
theorem cont_iff (g : Nat → Nat) (n k : Nat) (h : g k < 256) : (decide (k < n) && (g k / 64 == 2)) = tl g n k := by
  unfold tl
  have : (g k / 64 == 2) = (decide (128 ≤ g k) && decide (g k ≤ 191)) := by
    rw [Bool.eq_iff_iff]; simp; omega
  rw [this]

def Rel (D S : Nat × Nat) : Prop := D = if S.1 = 0 then (65533, 1) else (S.2, S.1)
theorem decode_rel (s : ByteArray) (i : Nat) : Rel (Utf8.decode s i) (stp (gB s) s.size i) := by
  have h0 := gB_lt s i
  have h1 := gB_lt s (i + 1)
  have h2 := gB_lt s (i + 2)
  have h3 := gB_lt s (i + 3)
  unfold Utf8.decode
  simp only [Utf8.runeError]
  have c1 := cont_iff (gB s) s.size (i + 1) h1
  have c2 := cont_iff (gB s) s.size (i + 2) h2
  have c3 := cont_iff (gB s) s.size (i + 3) h3
  have e0 : (s.get! (i + 0)).toNat = gB s i := rfl
  have e1 : (s.get! (i + 1)).toNat = gB s (i + 1) := rfl
  have e2 : (s.get! (i + 2)).toNat = gB s (i + 2) := rfl
  have e3 : (s.get! (i + 3)).toNat = gB s (i + 3) := rfl
  simp only [e0, e1, e2, e3, c1, c2, c3]
  generalize gB s = g at *
  generalize hn : s.size = n at *
  unfold stp
  by_cases a0 : g i < 128
  · rw [if_pos a0, if_pos a0]; simp [Rel]
  rw [if_neg a0, if_neg a0]
  have t1 := tl_iff g n (i + 1)
  have t2 := tl_iff g n (i + 2)
  have t3 := tl_iff g n (i + 3)
  generalize b1d : tl g n (i + 1) = b1 at *
  generalize b2d : tl g n (i + 2) = b2 at *
  generalize b3d : tl g n (i + 3) = b3 at *
  clear b1d b2d b3d c1 c2 c3 e0 e1 e2 e3
  generalize g i = x at *
  generalize g (i + 1) = y at *
  generalize g (i + 2) = z at *
  generalize g (i + 3) = u at *
  clear hn
  cases b1
  · simp [Rel]
  simp only [Bool.and_true, true_iff, and_true] at *
  obtain ⟨_, ly, hy⟩ := t1
  obtain ⟨y', rfl⟩ : ∃ y', y = y' + 128 := ⟨y - 128, by omega⟩
  have y64 : y' < 64 := by omega
  have ey : (y' + 128) % 64 = y' := by omega
  have ey2 : y' + 128 - 128 = y' := by omega
  simp only [ey, ey2]
  by_cases d1 : x / 32 = 6
  · have hx : 192 ≤ x ∧ x ≤ 223 := by omega
    obtain ⟨x', rfl⟩ : ∃ x', x = x' + 192 := ⟨x - 192, by omega⟩
    have ex : (x' + 192) % 32 = x' := by omega
    have ex2 : x' + 192 - 192 = x' := by omega
    have n1 : ¬ (224 ≤ x' + 192 ∧ x' + 192 ≤ 239) := by omega
    have n2 : ¬ (240 ≤ x' + 192 ∧ x' + 192 ≤ 244) := by omega
    rw [ex, ex2, d1, if_pos (by rfl)]
    by_cases d2 : x' * 64 + y' ≥ 128
    · rw [if_pos d2, if_pos (by omega)]; simp [Rel]
    · rw [if_neg d2, if_neg (by omega), if_neg (by omega), if_neg (by omega)]; simp [Rel]
  rw [if_neg (by simpa using d1)]
  have m1 : ¬ (194 ≤ x ∧ x ≤ 223) := by omega
  cases b2
  · simp [Rel, m1]
  simp only [Bool.and_true, true_iff, and_true] at *
  obtain ⟨_, lz, hz⟩ := t2
  obtain ⟨z', rfl⟩ : ∃ z', z = z' + 128 := ⟨z - 128, by omega⟩
  have z64 : z' < 64 := by omega
  have ez : (z' + 128) % 64 = z' := by omega
  have ez2 : z' + 128 - 128 = z' := by omega
  simp only [ez, ez2]
  by_cases d2 : x / 16 = 14
  · have hx : 224 ≤ x ∧ x ≤ 239 := by omega
    obtain ⟨x', rfl⟩ : ∃ x', x = x' + 224 := ⟨x - 224, by omega⟩
    have ex : (x' + 224) % 16 = x' := by omega
    have ex2 : x' + 224 - 224 = x' := by omega
    have n2 : ¬ (240 ≤ x' + 224 ∧ x' + 224 ≤ 244) := by omega
    have n1 : ¬ (194 ≤ x' + 224 ∧ x' + 224 ≤ 223) := by omega
    have p0 : 224 ≤ x' + 224 ∧ x' + 224 ≤ 239 := by omega
    rw [ex, ex2, d2, if_pos (by rfl), if_neg n1, if_pos p0]
    generalize hN : x' * 4096 + y' * 64 + z' = N
    have hNb : N < 65536 := by omega
    unfold Utf8.valid
    by_cases p1 : N < 2048
    · rw [if_neg (by simp; omega), if_pos (by omega)]; simp [Rel]
    by_cases p2 : 55296 ≤ N ∧ N ≤ 57343
    · rw [if_neg (by simp; omega), if_pos (by omega)]; simp [Rel]
    · rw [if_pos (by simp; omega), if_neg (by omega)]; simp [Rel]
  rw [if_neg (by simpa using d2)]
  have m2 : ¬ (224 ≤ x ∧ x ≤ 239) := by omega
  cases b3
  · simp [Rel, m1, m2]
  simp only [Bool.and_true, true_iff, and_true] at *
  obtain ⟨_, lu, hu⟩ := t3
  obtain ⟨u', rfl⟩ : ∃ u', u = u' + 128 := ⟨u - 128, by omega⟩
  have u64 : u' < 64 := by omega
  have eu : (u' + 128) % 64 = u' := by omega
  have eu2 : u' + 128 - 128 = u' := by omega
  simp only [eu, eu2]
  by_cases d3 : x / 8 = 30
  · have hx : 240 ≤ x ∧ x ≤ 247 := by omega
    obtain ⟨x', rfl⟩ : ∃ x', x = x' + 240 := ⟨x - 240, by omega⟩
    have ex : (x' + 240) % 8 = x' := by omega
    have ex2 : x' + 240 - 240 = x' := by omega
    have n1 : ¬ (194 ≤ x' + 240 ∧ x' + 240 ≤ 223) := by omega
    have n2 : ¬ (224 ≤ x' + 240 ∧ x' + 240 ≤ 239) := by omega
    rw [ex, ex2, d3, if_pos (by rfl), if_neg n1, if_neg n2]
    generalize hN : x' * 262144 + y' * 4096 + z' * 64 + u' = N
    unfold Utf8.valid
    by_cases q : x' ≤ 4
    · have p0 : 240 ≤ x' + 240 ∧ x' + 240 ≤ 244 := by omega
      rw [if_pos p0]
      by_cases p1 : N < 65536 ∨ 1114111 < N
      · rw [if_neg (by simp; omega), if_pos p1]; simp [Rel]
      · rw [if_pos (by simp; omega), if_neg p1]; simp [Rel]
    · have p0 : ¬ (240 ≤ x' + 240 ∧ x' + 240 ≤ 244) := by omega
      rw [if_neg p0, if_neg (by simp; omega)]; simp [Rel]
  rw [if_neg (by simpa using d3), if_neg (by omega), if_neg (by omega), if_neg (by omega)]; simp [Rel]

theorem decode_stp (s : ByteArray) (i : Nat) :
    Utf8.decode s i = if (stp (gB s) s.size i).1 = 0 then (65533, 1) else ((stp (gB s) s.size i).2, (stp (gB s) s.size i).1) := decode_rel s i

/-- What a right rune's steps are. -/
theorem stp_small (g : Nat → Nat) (n i : Nat) : (stp g n i).1 ≤ 4 := by
  unfold stp
  repeat' split
  all_goals simp
theorem wd_le (g : Nat → Nat) (n i : Nat) : wd g n i ≤ 4 := by
  unfold wd; have := stp_small g n i; split <;> omega

/-- The bytes of a rune stand ahead of the end, and all but the first are 128 to 191. -/
theorem stp_tail (g : Nat → Nat) (n i k : Nat) (h0 : 0 < k) (hk : k < (stp g n i).1) : i + k < n ∧ 128 ≤ g (i + k) ∧ g (i + k) ≤ 191 := by
  have t1 := tl_iff g n (i + 1)
  have t2 := tl_iff g n (i + 2)
  have t3 := tl_iff g n (i + 3)
  unfold stp at hk
  split at hk
  · simp at hk; omega
  · split at hk
    · rename_i h; obtain ⟨_, h⟩ := h
      have := t1.1 h
      simp at hk
      obtain rfl : k = 1 := by omega
      exact this
    · split at hk
      · rename_i h; obtain ⟨_, ha, hb⟩ := h
        have h1 := t1.1 ha
        have h2 := t2.1 hb
        split at hk
        · simp at hk
        · simp at hk
          have : k = 1 ∨ k = 2 := by omega
          rcases this with rfl | rfl
          · exact h1
          · exact h2
      · split at hk
        · rename_i h; obtain ⟨_, ha, hb, hc⟩ := h
          have h1 := t1.1 ha
          have h2 := t2.1 hb
          have h3 := t3.1 hc
          split at hk
          · simp at hk
          · simp at hk
            have : k = 1 ∨ k = 2 ∨ k = 3 := by omega
            rcases this with rfl | rfl | rfl
            · exact h1
            · exact h2
            · exact h3
        · simp at hk
theorem wd_tail (g : Nat → Nat) (n i k : Nat) (h0 : 0 < k) (hk : k < wd g n i) : i + k < n ∧ 128 ≤ g (i + k) ∧ g (i + k) ≤ 191 := by
  unfold wd at hk
  split at hk
  · omega
  · exact stp_tail g n i k h0 hk
theorem wd_fits (g : Nat → Nat) (n i : Nat) (hi : i < n) : i + wd g n i ≤ n := by
  by_cases h : wd g n i ≤ 1
  · omega
  · have := wd_tail g n i (wd g n i - 1) (by omega) (by omega)
    omega

/-- A right rune is told of its bytes alone. -/
theorem tl_of {g g' : Nat → Nat} {n n' k k' : Nat} (h : tl g n k = true) (e : g' k' = g k) (hk : k' < n') : tl g' n' k' = true := by
  have := (tl_iff g n k).1 h
  exact (tl_iff g' n' k').2 ⟨hk, by rw [e]; exact this.2.1, by rw [e]; exact this.2.2⟩
theorem lo2 {x : Nat} {p : Prop} (h : 224 ≤ x) : ¬ ((194 ≤ x ∧ x ≤ 223) ∧ p) := by omega
theorem lo3 {x : Nat} {p : Prop} (h : 240 ≤ x) : ¬ ((224 ≤ x ∧ x ≤ 239) ∧ p) := by omega
theorem stp_same (g g' : Nat → Nat) (n n' i i' : Nat) (h0 : (stp g n i).1 ≠ 0) (hn : i' + (stp g n i).1 ≤ n') (h : ∀ k, k < (stp g n i).1 → g' (i' + k) = g (i + k)) : stp g' n' i' = stp g n i := by
  have e0 := h 0 (by omega)
  simp only [Nat.add_zero] at e0
  by_cases c1 : g i < 128
  · unfold stp; rw [e0, if_pos c1, if_pos c1]
  by_cases c2 : (194 ≤ g i ∧ g i ≤ 223) ∧ tl g n (i + 1) = true
  · have hw : stp g n i = (2, (g i - 192) * 64 + (g (i + 1) - 128)) := by unfold stp; rw [if_neg c1, if_pos c2]
    rw [hw] at h hn ⊢
    have e1 := h 1 (by simp)
    simp only at hn
    have q' := tl_of (g' := g') (n' := n') (k' := i' + 1) c2.2 e1 (by omega)
    unfold stp
    rw [e0, e1, if_neg c1, if_pos ⟨c2.1, q'⟩]
  by_cases c3 : (224 ≤ g i ∧ g i ≤ 239) ∧ tl g n (i + 1) = true ∧ tl g n (i + 2) = true
  · have hw : (stp g n i).1 = 0 ∨ (stp g n i).1 = 3 := by unfold stp; rw [if_neg c1, if_neg c2, if_pos c3]; split <;> simp
    have hw3 : (stp g n i).1 = 3 := by omega
    rw [hw3] at h hn
    have e1 := h 1 (by decide)
    have e2 := h 2 (by decide)
    have q1' := tl_of (g' := g') (n' := n') (k' := i' + 1) c3.2.1 e1 (by omega)
    have q2' := tl_of (g' := g') (n' := n') (k' := i' + 2) c3.2.2 e2 (by omega)
    unfold stp
    rw [e0, e1, e2, if_neg c1, if_neg c1, if_neg (lo2 c3.1.1), if_neg c2, if_pos ⟨c3.1, q1', q2'⟩, if_pos c3]
  by_cases c4 : (240 ≤ g i ∧ g i ≤ 244) ∧ tl g n (i + 1) = true ∧ tl g n (i + 2) = true ∧ tl g n (i + 3) = true
  · have hw : (stp g n i).1 = 0 ∨ (stp g n i).1 = 4 := by unfold stp; rw [if_neg c1, if_neg c2, if_neg c3, if_pos c4]; split <;> simp
    have hw3 : (stp g n i).1 = 4 := by omega
    rw [hw3] at h hn
    have e1 := h 1 (by decide)
    have e2 := h 2 (by decide)
    have e3 := h 3 (by decide)
    have q1' := tl_of (g' := g') (n' := n') (k' := i' + 1) c4.2.1 e1 (by omega)
    have q2' := tl_of (g' := g') (n' := n') (k' := i' + 2) c4.2.2.1 e2 (by omega)
    have q3' := tl_of (g' := g') (n' := n') (k' := i' + 3) c4.2.2.2 e3 (by omega)
    unfold stp
    rw [e0, e1, e2, e3, if_neg c1, if_neg c1, if_neg (lo2 (Nat.le_trans (by decide) c4.1.1)), if_neg c2, if_neg (lo3 c4.1.1), if_neg c3, if_pos ⟨c4.1, q1', q2', q3'⟩, if_pos c4]
  · exact absurd (by unfold stp; rw [if_neg c1, if_neg c2, if_neg c3, if_neg c4]) h0
theorem wd_same (g g' : Nat → Nat) (n n' i i' : Nat) (h0 : wd g n i ≠ 0) (hn : i' + wd g n i ≤ n') (h : ∀ k, k < wd g n i → g' (i' + k) = g (i + k)) : wd g' n' i' = wd g n i := by
  have hw : wd g n i = (stp g n i).1 := by
    unfold wd at h0 ⊢; split at h0
    · omega
    · rename_i h; rw [if_neg h]
  rw [hw] at h0 hn h
  have := stp_same g g' n n' i i' h0 hn h
  unfold wd; rw [this]

inductive Rgt (g : Nat → Nat) (n : Nat) : Nat → Prop
  | fin (i : Nat) (h : n ≤ i) : Rgt g n i
  | step (i : Nat) (h : i < n) (h0 : wd g n i ≠ 0) (k : Rgt g n (i + wd g n i)) : Rgt g n i
theorem rt_iff (g : Nat → Nat) (n : Nat) : ∀ f i, n ≤ i + f → (rt g n f i = true ↔ Rgt g n i) := by
  intro f
  induction f with
  | zero => intro i h; simp [rt]; exact ⟨fun h => .fin i h, fun _ => by omega⟩
  | succ f ih =>
    intro i h
    unfold rt
    split
    · rename_i hi
      by_cases h0 : wd g n i = 0
      · simp [h0]; intro hr; cases hr
        · omega
        · exact absurd h0 ‹_›
      · have := ih (i + wd g n i) (by omega)
        simp only [Bool.and_eq_true, decide_eq_true_eq, this]
        exact ⟨fun ⟨_, k⟩ => .step i hi h0 k, fun hr => ⟨h0, by cases hr; omega; assumption⟩⟩
    · rename_i hi
      exact ⟨fun _ => .fin i (by omega), fun _ => rfl⟩
theorem rtB_iff (s : ByteArray) : rtB s = true ↔ Rgt (gB s) s.size 0 := rt_iff _ _ _ _ (by omega)
theorem Rgt.inv {g : Nat → Nat} {n i : Nat} (h : Rgt g n i) (hi : i < n) : wd g n i ≠ 0 ∧ Rgt g n (i + wd g n i) := by
  cases h
  · omega
  · exact ⟨‹_›, ‹_›⟩
/-- One behind the other. -/
theorem Rgt.join {g : Nat → Nat} {n : Nat} {g' : Nat → Nat} {n' m : Nat} (hm : n + m = n') (hg : ∀ k, k < n → g' k = g k) : ∀ {i}, Rgt g n i → i ≤ n → Rgt g' n' n → Rgt g' n' i := by
  intro i h
  induction h with
  | fin i h => intro hi k; have e : i = n := (by omega); exact e ▸ k
  | step i h h0 k ih =>
    intro hi hk
    have hf := wd_fits g n i h
    have e := wd_same g g' n n' i i h0 (by omega) (fun k hk => hg _ (by omega))
    exact .step i (by omega) (by rw [e]; exact h0) (by rw [e]; exact ih hf hk)
theorem Rgt.shift {g g' : Nat → Nat} {n n' d : Nat} (hn : d + n = n') (hg : ∀ k, k < n → g' (d + k) = g k) : ∀ {i}, Rgt g n i → Rgt g' n' (d + i) := by
  intro i h
  induction h with
  | fin i h => exact .fin _ (by omega)
  | step i h h0 k ih =>
    have hf := wd_fits g n i h
    have e := wd_same g g' n n' i (d + i) h0 (by omega) (fun k hk => by rw [Nat.add_assoc]; exact hg _ (by omega))
    exact .step _ (by omega) (by rw [e]; exact h0) (by rw [e, Nat.add_assoc]; exact ih)
/-- Where a right text of the beginning ends, there a rune begins. -/
theorem Rgt.cut {g : Nat → Nat} {n : Nat} {g' : Nat → Nat} {n' m : Nat} (hm : n + m = n') (hg : ∀ k, k < n → g' k = g k) : ∀ {i}, Rgt g n i → i ≤ n → Rgt g' n' i → Rgt g' n' n := by
  intro i h
  induction h with
  | fin i h => intro hi k; have e : i = n := (by omega); exact e ▸ k
  | step i h h0 k ih =>
    intro hi hk
    have hf := wd_fits g n i h
    have e := wd_same g g' n n' i i h0 (by omega) (fun k hk => hg _ (by omega))
    have := (hk.inv (by omega)).2
    rw [e] at this
    exact ih hf this
/-- No rune begins with a byte 128 to 191, or is nought. -/
theorem wd_tail0 (g : Nat → Nat) (n i : Nat) (h : 128 ≤ g i ∧ g i ≤ 191) : wd g n i = 0 := by
  have : stp g n i = (0, 0) := by unfold stp; rw [if_neg (by omega), if_neg (by omega), if_neg (by omega), if_neg (by omega)]
  unfold wd; rw [this]; simp
theorem wd_nul (g : Nat → Nat) (n i : Nat) (h : g i = 0) : wd g n i = 0 := by
  have : stp g n i = (1, 0) := by unfold stp; rw [if_pos (by omega), h]
  unfold wd; rw [this]; simp
/-- A right text has no nought. -/
theorem Rgt.noNul {g : Nat → Nat} {n d : Nat} (hd : d < n) (h0 : g d = 0) : ∀ {i}, Rgt g n i → i ≤ d → False := by
  intro i h
  induction h with
  | fin i h => intro hi; omega
  | step i h hw k ih =>
    intro hi
    by_cases hle : i + wd g n i ≤ d
    · exact ih hle
    · by_cases he : i = d
      · subst he; exact hw (wd_nul g n i h0)
      · have := wd_tail g n i (d - i) (by omega) (by omega)
        rw [show i + (d - i) = d by omega] at this
        omega
end Go.Proofs.YtmpklaokgogigaaDoor
