/-
  LAYER 4: broken, and Right, the program's.
-/
import Derived.Test.YtfdaooaooalknaaByt
import Derived.Test.YtfdaooaooalknaaUa
import Derived.Test.YtfdaooaooalknaaProg
import Derived.Laws.RangeString
import Derived.Laws.RangeAny
import Derived.Laws.Runes
import Derived.LoopTactic
import Derived.Outline
namespace Go.Proofs.Ytfdaooaooalknaa
set_option linter.unusedSimpArgs false
set_option linter.unusedVariables false
open Go.RowKit

def pfx (t : ByteArray) : Bool := decide (3 ≤ t.size) && ((t.extract 0 3).toList == [239, 191, 189])

theorem hp_any (t : ByteArray) (w : World) :
    Calls Try.prog 49 #[.string t, .string ⟨#[239, 191, 189]⟩] w fun e w' => e = .returned (.bool (pfx t)) ∧ w = w' := by
  by_cases h : t.size < 3
  · have hp : pfx t = false := by unfold pfx; simp; omega
    rw [hp]
    have h' : (t.size : Int) < 3 := by omega
    clear hp
    go_enter Try.func49, Try.ntmps49
    go_wp2_with go_in
    go_ret
    go_wp2
  · have h' : 3 ≤ (t.size : Int) := by omega
    have hp : pfx t = ((t.extract 0 3).toList == [239, 191, 189]) := by unfold pfx; simp; omega
    rw [hp]
    clear hp
    go_enter Try.func49, Try.ntmps49
    go_wp2_with go_in
    go_ret
    go_wp2
theorem broken_no (c : Int) (t : ByteArray) (w : World) (h : c ≠ 65533) :
    Calls Try.prog 50 #[.int .i32 c, .string t] w fun e w' => e = .returned (.bool false) ∧ w = w' := by
  have hb : (c == 65533) = false := beq_eq_false_iff_ne.2 h
  clear h
  go_enter Try.func50, Try.ntmps50
  go_wp2
  go_ret
  exact ⟨rfl, rfl⟩
theorem broken_pfx (b : Bool) (t : ByteArray) (w : World) (h : pfx t = b) :
    Calls Try.prog 50 #[.int .i32 65533, .string t] w fun e w' => e = .returned (.bool (!b)) ∧ w = w' := by
  have H := hp_any t
  rw [h] at H
  replace H := Lib.hid H
  clear h
  go_enter Try.func50, Try.ntmps50
  go_wp2_with (go_at_call 49; refine (H.out _).mono ?_; rintro e w' ⟨rfl, rfl⟩)
  go_ret
  exact ⟨rfl, rfl⟩
/-- The bytes behind a place begin as U+FFFD is laid: just where the decoder tells it with three bytes. -/
theorem get!_lt (s : ByteArray) (k : Nat) (h : k < s.size) : s.get! k = s.data.toList[k]'(by rw [Array.length_toList]; exact h) := by
  obtain ⟨d⟩ := s
  have h' : k < d.size := h
  show d[k]! = _
  rw [getElem!_pos d k h', Array.getElem_toList]
theorem pfx_iff (s : ByteArray) (i : Nat) (hi : i < s.size) : pfx (s.extract i s.size) = true ↔ i + 2 < s.size ∧ gB s i = 239 ∧ gB s (i + 1) = 191 ∧ gB s (i + 2) = 189 := by
  unfold pfx
  by_cases h : i + 2 < s.size
  · have e : ((s.extract i s.size).extract 0 3).toList = [s.get! i, s.get! (i + 1), s.get! (i + 2)] := by
      rw [get!_lt s i (by omega), get!_lt s (i + 1) (by omega), get!_lt s (i + 2) (by omega)]
      have hl : s.data.toList.length = s.size := rfl
      simp only [ByteArray.toList_eq, ByteArray.data_extract, Array.toList_extract, List.extract]
      apply List.ext_getElem
      · simp; omega
      · intro n h1 h2
        have : n = 0 ∨ n = 1 ∨ n = 2 := by simp at h2; omega
        rcases this with rfl | rfl | rfl <;> simp
    rw [e]
    have hs : 3 ≤ (s.extract i s.size).size := by simp; omega
    simp only [hs, decide_true, Bool.true_and, beq_iff_eq, List.cons.injEq, and_true, h, true_and]
    unfold gB
    constructor
    · rintro ⟨a, b, c⟩; rw [a, b, c]; decide
    · rintro ⟨a, b, c⟩; exact ⟨UInt8.toNat_inj.1 a, UInt8.toNat_inj.1 b, UInt8.toNat_inj.1 c⟩
  · have hs : ¬ 3 ≤ (s.extract i s.size).size := by simp; omega
    simp only [hs, decide_false, Bool.false_and]
    simp [h]
theorem stp_fffd (g : Nat → Nat) (n i : Nat) (hg : ∀ k, g k < 256) (hi : i < n) : (stp g n i).2 = 65533 ↔ i + 2 < n ∧ g i = 239 ∧ g (i + 1) = 191 ∧ g (i + 2) = 189 := by
  have h0 := hg i
  have h1 := hg (i + 1)
  have h2 := hg (i + 2)
  have h3 := hg (i + 3)
  constructor
  · intro h
    unfold stp at h
    split at h
    · simp at h; omega
    · split at h
      · simp at h; omega
      · split at h
        · rename_i h3; obtain ⟨hx, ha, hb⟩ := h3
          have ha := (tl_iff _ _ _).1 ha
          have hb := (tl_iff _ _ _).1 hb
          split at h
          · simp at h
          · simp at h; omega
        · split at h
          · split at h
            · simp at h
            · simp at h; omega
          · simp at h
  · rintro ⟨hn, e0, e1, e2⟩
    have t1 : tl g n (i + 1) = true := (tl_iff _ _ _).2 (by omega)
    have t2 : tl g n (i + 2) = true := (tl_iff _ _ _).2 (by omega)
    unfold stp
    rw [e0, e1, e2, t1, t2]
    simp
theorem pfx_stp (s : ByteArray) (i : Nat) (hi : i < s.size) : pfx (s.extract i s.size) = decide ((stp (gB s) s.size i).2 = 65533) := by
  rw [Bool.eq_iff_iff, pfx_iff s i hi, decide_eq_true_eq, stp_fffd _ _ _ (gB_lt s) hi]
end Go.Proofs.Ytfdaooaooalknaa
