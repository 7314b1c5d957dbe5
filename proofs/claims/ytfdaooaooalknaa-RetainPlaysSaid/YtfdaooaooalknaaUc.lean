/-
  LAYER 4: Right, the program's.
-/
import Derived.Test.YtfdaooaooalknaaUb
namespace Go.Proofs.Ytfdaooaooalknaa
set_option linter.unusedSimpArgs false
set_option linter.unusedVariables false
open Go.RowKit

def rightB (s : ByteArray) : Bool := decide (s.size ≤ 65535) && rtB s
theorem stp_none (g : Nat → Nat) (n i : Nat) (h : (stp g n i).1 = 0) : (stp g n i).2 = 0 := by
  revert h
  unfold stp
  split
  · simp
  · split
    · simp
    · split
      · split <;> simp
      · split
        · split <;> simp
        · simp
theorem stp_le (g : Nat → Nat) (n i : Nat) (hg : ∀ k, g k < 256) : (stp g n i).2 ≤ 1114111 := by
  have h0 := hg i
  have h1 := hg (i + 1)
  have h2 := hg (i + 2)
  have h3 := hg (i + 3)
  unfold stp
  split
  · simp; omega
  · split
    · simp; omega
    · split
      · split
        · simp
        · simp; omega
      · split
        · split
          · simp
          · simp; omega
        · simp
theorem rt_step (g : Nat → Nat) (n b i : Nat) (hi : i < n) (h : n ≤ i + b) (h0 : (stp g n i).1 ≠ 0) (h1 : (stp g n i).2 ≠ 0) : ∃ b', b = b' + 1 ∧ rt g n b i = rt g n b' (i + (stp g n i).1) ∧ n ≤ i + (stp g n i).1 + b' := by
  obtain ⟨b', rfl⟩ : ∃ b', b = b' + 1 := ⟨b - 1, by omega⟩
  refine ⟨b', rfl, ?_, by omega⟩
  have hw : wd g n i = (stp g n i).1 := by unfold wd; rw [if_neg h1]
  rw [rt, if_pos hi, hw]
  simp [h0]
theorem rt_stop (g : Nat → Nat) (n b i : Nat) (hi : i < n) (h : n ≤ i + b) (h0 : (stp g n i).2 = 0) : rt g n b i = false := by
  obtain ⟨b', rfl⟩ : ∃ b', b = b' + 1 := ⟨b - 1, by omega⟩
  have hw : wd g n i = 0 := by unfold wd; rw [if_pos h0]
  rw [rt, if_pos hi, hw]
  simp

theorem iter_below (w : World) (s : ByteArray) (pos : Nat) : Below w.heap.size w (w.iter s pos) := by
  exact (Below.refl _ _).alloc (Nat.le_refl _) _

set_option maxHeartbeats 1000000 in
set_option maxRecDepth 100000 in
theorem right_any (s : ByteArray) (w : World) :
    Calls Try.prog 42 #[.string s] w fun e w' => e = .returned (.bool (rightB s)) ∧ Below w.heap.size w w' := by
  by_cases hl : 65535 < s.size
  · have hb : rightB s = false := by unfold rightB; simp; omega
    rw [hb]
    have hl' : (65535 : Int) < s.size := by omega
    clear hb
    go_enter Try.func42, Try.ntmps42
    go_wp2
    go_ret
    exact ⟨rfl, Below.refl _ _⟩
  · have hb : rightB s = rtB s := by unfold rightB; simp; omega
    rw [hb]
    have hl' : (s.size : Int) ≤ 65535 := by omega
    clear hb
    go_enter Try.func42, Try.ntmps42
    go_wp2
    go_loopw [3, 4] (fun _ _ w' => ∃ (pos b : Nat), w' = w.iter s pos ∧ pos ≤ s.size ∧ rt (gB s) s.size b pos = rtB s ∧ s.size ≤ pos + b) (fun _ _ w' => s.size - w'.iterPos w.heap.size)
    case atStart => exact ⟨0, s.size, rfl, by omega, rfl, by omega⟩
    case round =>
      obtain ⟨pos, b, rfl, hps, hc, hb⟩ := hrel
      by_cases hp : pos < s.size
      · have hps : pos ≤ s.size := by omega
        have hps' : (pos : Int) ≤ 65535 := by omega
        have hps2 : (pos : Int) ≤ s.size := by omega
        have hdec := decode_stp s pos
        have hpf := pfx_stp s pos hp
        have hn0 := stp_none (gB s) s.size pos
        have hle := stp_le (gB s) s.size pos (gB_lt s)
        have hst := rt_step (gB s) s.size b pos hp hb
        have hso := rt_stop (gB s) s.size b pos hp hb
        have hfit : pos + (stp (gB s) s.size pos).1 ≤ s.size := by
          by_cases h : (stp (gB s) s.size pos).1 ≤ 1
          · omega
          · have := stp_tail (gB s) s.size pos ((stp (gB s) s.size pos).1 - 1) (by omega) (by omega)
            omega
        have hnx : ∀ ty, (Instr.next (.pointer (some ⟨w.heap.size, 0, none⟩)) true ty).run Try.prog (w.iter s pos) = _ := fun ty => run_next_any w s pos ty hp
        rw [hdec] at hnx
        obtain ⟨⟨n, c⟩, hp'⟩ : ∃ p, p = stp (gB s) s.size pos := ⟨_, rfl⟩
        rw [← hp'] at hnx hpf hn0 hle hst hso hfit
        simp only at hnx hpf hn0 hle hst hso hfit
        have HC := Lib.hid hc
        have HST := Lib.hid hst
        clear hp' hdec hc hst
        by_cases h0 : n = 0
        · obtain rfl := hn0 h0
          subst h0
          simp only [if_true] at hnx
          have hf : rtB s = false := by rw [← HC.out]; exact hso rfl
          have hpf' : pfx (s.extract pos s.size) = false := by rw [hpf]; rfl
          have BR := fun w => broken_pfx false (s.extract pos s.size) w hpf'
          replace BR := Lib.hid BR
          have HF := Lib.hid hf
          clear hn0 hso hpf hpf' hf
          go_wp2_with (go_at_call 50; refine (BR.out _).mono ?_; rintro e w' ⟨rfl, rfl⟩)
          go_ret
          exact ⟨by rw [HF.out]; rfl, iter_below _ _ _⟩
        · rw [if_neg h0] at hnx
          have h0' := Lib.hid h0
          by_cases hc0 : c = 0
          · subst hc0
            have hf : rtB s = false := by rw [← HC.out]; exact hso rfl
            have HF := Lib.hid hf
            clear hn0 hso hpf hf h0
            go_wp2_with fail
            go_ret
            exact ⟨by rw [HF.out]; rfl, iter_below _ _ _⟩
          · obtain ⟨b', hb', hrt, hbb⟩ := HST.out h0 hc0
            have hcz : ((c : Int) == 0) = false := beq_eq_false_iff_ne.2 (by omega)
            have hrel : rt (gB s) s.size b' (pos + n) = rtB s := by rw [← hrt]; exact HC.out
            have HREL := Lib.hid hrel
            have hfin : pos + n ≤ s.size := hfit
            have BR : ∀ w, Calls Try.prog 50 #[.int .i32 c, .string (s.extract pos s.size)] w fun e w' => e = .returned (.bool false) ∧ w = w' := by
              intro w
              by_cases hcf : c = 65533
              · subst hcf
                exact broken_pfx true _ w (by rw [hpf]; rfl)
              · exact broken_no c _ w (by omega)
            replace BR := Lib.hid BR
            have HB := Lib.hid hbb
            have hn1 : 1 ≤ n := by omega
            clear hn0 hso hpf h0 hb' hrt hrel hbb hc0 HC HST
            go_wp2_with (go_at_call 50; refine (BR.out _).mono ?_; rintro e w' ⟨rfl, rfl⟩)
            go_roundw
            case rel => exact ⟨pos + n, b', rfl, hfin, HREL.out, HB.out⟩
            case measure => simp; omega
      · have hnx : ∀ ty, (Instr.next (.pointer (some ⟨w.heap.size, 0, none⟩)) true ty).run Try.prog (w.iter s pos) = _ := fun ty => run_next_end w s pos ty hp
        have hf : rtB s = true := by
          rw [← hc]
          cases b with
          | zero => simp [rt]; omega
          | succ b => rw [rt, if_neg hp]
        have HF := Lib.hid hf
        clear hc hf
        go_wp2
        go_ret
        exact ⟨by rw [HF.out]; rfl, iter_below _ _ _⟩
end Go.Proofs.Ytfdaooaooalknaa
