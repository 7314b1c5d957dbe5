/-
  LAYER 17: strings.ContainsAny(s, "+#") at any text, if strings.IndexRune("+#", r) = -1 above 127.
-/
import Derived.Test.YtfdaooaooalknaaSe
import Derived.Lib.OthersKept
namespace Go.Proofs.Ytfdaooaooalknaa
set_option linter.unusedSimpArgs false
set_option linter.unusedVariables false
open Go.RowKit Go.Lib
def IRune : Prop := ∀ (r : Nat) (w : World), 128 ≤ r → (r < 55296 ∨ (57343 < r ∧ r ≤ 1114111)) → Calls Try.prog 54 #[.string ⟨#[43, 35]⟩, .int .i32 (r : Int)] w fun e w' => e = .returned (.int .i64 (-1)) ∧ Below w.heap.size w w'
def AnyAt (s : ByteArray) (w : World) (e : Ending) (w' : World) : Prop := ∃ v : Int, e = .returned (.int .i64 v) ∧ (-1 ≤ v ∧ v ≤ 1048576) ∧ decide (0 ≤ v) = anyB s ∧ Below w.heap.size w w'
theorem ia_long (s : ByteArray) (h8 : 8 < s.size) (hs : s.size ≤ 1048576) (w : World) : Calls Try.prog 44 #[.string s, .string ⟨#[43, 35]⟩] w (AnyAt s w) := by
  refine (Try.strings_IndexAny_long (fun w => by kernel_rfl) s ⟨#[43, 35]⟩ w (by decide) h8 (by omega) (by decide) (fun j b hb => by
    have hm : b ∈ ([43, 35] : List UInt8) := List.mem_of_getElem? hb
    simp only [List.mem_cons, List.not_mem_nil, or_false] at hm
    rcases hm with rfl | rfl <;> decide)).mono ?_
  rintro e w' ⟨rfl, rfl⟩
  refine ⟨_, rfl, ⟨Lib.indexAny_ge _ _, ?_⟩, ?_, ?_⟩
  · have : ∀ (l c : List UInt8), Lib.indexAny l c ≤ l.length := by
      intro l c
      induction l with
      | nil => simp [Lib.indexAny]
      | cons b l ih =>
        unfold Lib.indexAny
        simp only [List.length_cons]
        repeat' split
        all_goals omega
    have h2 : s.data.toList.length = s.size := Array.length_toList
    have := this s.data.toList [43, 35]
    show Lib.indexAny s.data.toList [43, 35] ≤ _
    omega
  · rw [show anyB s = Lib.containsAny s.data.toList [43, 35] by rw [containsAny_any]; rfl]
    rfl
  · exact ((Below.refl _ _).alloc (Nat.le_refl _) _).alloc (by simp) _
theorem stp_val (g : Nat → Nat) (n i : Nat) (h : (stp g n i).1 ≠ 0) : (stp g n i).2 < 55296 ∨ (57343 < (stp g n i).2 ∧ (stp g n i).2 ≤ 1114111) := by
  revert h
  unfold stp
  repeat' split
  all_goals intro h
  all_goals simp only [tl_iff] at *
  all_goals omega
theorem idx_no : ∀ c : Fin 128, c.val ≠ 43 → c.val ≠ 35 → Lib.indexByte [43, 35] c.val.toUInt8 = -1 := by decide +kernel
theorem any_gB {s : ByteArray} {k : Nat} (hk : k < s.size) (h : gB s k = 43 ∨ gB s k = 35) : anyB s = true := by
  obtain ⟨c, h1, h2⟩ := gB_get s k hk
  refine anyB_at h1 ?_
  rcases h with h | h
  · have : c = 43 := UInt8.toNat_inj.1 (by rw [h2, h]; rfl)
    subst this; rfl
  · have : c = 35 := UInt8.toNat_inj.1 (by rw [h2, h]; rfl)
    subst this; rfl
theorem none_gB {s : ByteArray} (h : ∀ k, k < s.size → gB s k ≠ 43 ∧ gB s k ≠ 35) : anyB s = false := by
  refine anyB_no fun k c hc => ?_
  have hk : k < s.size := by
    have := (List.getElem?_eq_some_iff.1 hc).1
    have h2 : s.data.toList.length = s.size := Array.length_toList
    omega
  obtain ⟨c', h1, h2⟩ := gB_get s k hk
  rw [hc] at h1
  simp only [Option.some.injEq] at h1
  subst h1
  obtain ⟨a, b⟩ := h k hk
  have e1 : (c == 43) = false := by rw [beq_eq_false_iff_ne]; intro e; subst e; exact a (by rw [← h2]; rfl)
  have e2 : (c == 35) = false := by rw [beq_eq_false_iff_ne]; intro e; subst e; exact b (by rw [← h2]; rfl)
  rw [e1, e2]; rfl
set_option maxHeartbeats 2000000 in
set_option maxRecDepth 100000 in
theorem ia_short (IR : IRune) (s : ByteArray) (w : World) (h8 : s.size ≤ 8) : Calls Try.prog 44 #[.string s, .string ⟨#[43, 35]⟩] w (AnyAt s w) := by
  have h8' : (s.size : Int) ≤ 8 := by omega
  have h9 : ¬ (8 : Int) < s.size := by omega
  have SU := Lib.hid Try.strings_shouldUseASCIISet
  have RA := Lib.hid (Try.strings_IndexRune_ascii ⟨#[43, 35]⟩)
  replace IR := Lib.hid IR
  go_enter Try.func44, Try.ntmps44
  go_wp2_with fail
  refine (SU.out _ _).mono ?_
  rintro e w1 ⟨rfl, rfl⟩
  clear SU
  go_wp2
  go_loopw [9, 10] (fun _ _ wr => ∃ pos, pos ≤ s.size ∧ (∀ i, i < pos → gB s i ≠ 43 ∧ gB s i ≠ 35) ∧ wr.heap[w1.heap.size]? = some (.stringIter s pos) ∧ Below w1.heap.size w1 wr) (fun _ _ wr => s.size - wr.iterPos w1.heap.size)
  case atStart => exact ⟨0, by omega, fun i hi => by omega, by simp [World.iter_heap], iter_below _ _ _⟩
  case round =>
    obtain ⟨pos, hps, hno, hit, hb⟩ := hrel
    have hms : wr.iterPos w1.heap.size = pos := by unfold World.iterPos; rw [hit]
    have hgt := Lib.hid (Array.getElem?_eq_some_iff.1 hit).1
    by_cases hp : pos < s.size
    · have hnx : ∀ ty, (Instr.next (.pointer (some ⟨w1.heap.size, 0, none⟩)) true ty).run Try.prog wr = _ := fun ty => run_next_any_at wr w1.heap.size s pos ty hit hp
      have hdec := decode_stp s pos
      have hle := stp_le (gB s) s.size pos (gB_lt s)
      have hbig := stp_big (gB s) s.size pos (gB_lt s)
      have htl := fun k h0 hk => stp_tail (gB s) s.size pos k h0 hk
      have hasc := stp_ascii (gB s) s.size pos
      have hval := stp_val (gB s) s.size pos
      rw [hdec] at hnx
      have hW : ∀ p, (wr.iterAt w1.heap.size s p).heap[w1.heap.size]? = some (.stringIter s p) := fun p => iterAt_heap wr w1.heap.size s pos p hit
      have hBW : ∀ p, Below w1.heap.size w1 (wr.iterAt w1.heap.size s p) := fun p => below_iterAt hb (Nat.le_refl _) s p
      have hsz : ∀ p, (wr.iterAt w1.heap.size s p).heap.size = wr.heap.size := fun p => iterAt_size wr _ s p
      replace hW := Lib.hid hW
      replace hBW := Lib.hid hBW
      replace hsz := Lib.hid hsz
      replace hit := Lib.hid hit
      replace hb := Lib.hid hb
      have hpp : (pos : Int) ≤ 8 := by omega
      by_cases h128 : gB s pos < 128
      · rw [hasc h128] at hnx
        simp only [if_neg (show ¬ (1 = 0) by decide)] at hnx
        clear hdec hle hbig htl hasc hval
        have R1 := fun w => RA.out ((gB s pos : Nat) : Int) w (by omega) (by omega)
        simp only [Int.toNat_natCast] at R1
        by_cases hc : gB s pos = 43 ∨ gB s pos = 35
        · have ha := Lib.hid (any_gB hp hc)
          obtain ⟨v, hv, hv0, hv1⟩ : ∃ v : Int, Lib.indexByte ([43, 35] : List UInt8) (gB s pos).toUInt8 = v ∧ 0 ≤ v ∧ v ≤ 1 := by
            rcases hc with h | h
            · exact ⟨0, by rw [h]; rfl, by omega, by omega⟩
            · exact ⟨1, by rw [h]; rfl, by omega, by omega⟩
          replace R1 := Lib.hid fun w => (show Calls Try.prog 54 #[.string ⟨#[43, 35]⟩, .int .i32 ((gB s pos : Nat) : Int)] w fun e w' => e = .returned (.int .i64 v) ∧ w' = w by rw [← hv]; exact R1 w)
          replace hv := Lib.hid hv
          replace hc := Lib.hid hc
          replace hno := Lib.hid hno
          generalize gB s pos = c at *
          go_wp2_with fail
          refine (R1.out _).mono ?_
          rintro e w3 ⟨rfl, rfl⟩
          go_wp2_with fail
          go_ret
          exact ⟨_, rfl, ⟨by omega, by omega⟩, by rw [ha.out]; exact decide_eq_true (by omega), hBW.out _⟩
        · have hc43 : gB s pos ≠ 43 := fun e => hc (.inl e)
          have hc35 : gB s pos ≠ 35 := fun e => hc (.inr e)
          have hv := idx_no ⟨gB s pos, h128⟩ hc43 hc35
          replace R1 := Lib.hid fun w => (show Calls Try.prog 54 #[.string ⟨#[43, 35]⟩, .int .i32 ((gB s pos : Nat) : Int)] w fun e w' => e = .returned (.int .i64 (-1)) ∧ w' = w by rw [← hv]; exact R1 w)
          have hno2 : ∀ i, i < pos + 1 → gB s i ≠ 43 ∧ gB s i ≠ 35 := fun i hi => by
            by_cases h : i = pos
            · subst h; exact ⟨hc43, hc35⟩
            · exact hno i (by omega)
          replace hno2 := Lib.hid hno2
          replace hno := Lib.hid hno
          replace hc43 := Lib.hid hc43
          replace hc35 := Lib.hid hc35
          replace hc := Lib.hid hc
          clear hv
          go_wp2_with fail
          refine (R1.out _).mono ?_
          rintro e w3 ⟨rfl, rfl⟩
          go_wp2_with fail
          go_roundw
          case rel => exact ⟨pos + 1, by omega, hno2.out, hW.out _, hBW.out _⟩
          case measure =>
            have : (wr.iterAt w1.heap.size s (pos + 1)).iterPos w1.heap.size = pos + 1 := by unfold World.iterPos; rw [hW.out]
            rw [this, hms]; omega
      · obtain ⟨⟨n, c⟩, hst⟩ : ∃ q, q = stp (gB s) s.size pos := ⟨_, rfl⟩
        rw [← hst] at hnx hle hbig htl hval
        simp only at hnx hle hbig htl hval
        have hfit : pos + n ≤ s.size := by
          by_cases h1 : n ≤ 1
          · omega
          · have := htl (n - 1) (by omega) (by omega)
            omega
        have hno2 : ∀ i, i < pos + (if n = 0 then 1 else n) → gB s i ≠ 43 ∧ gB s i ≠ 35 := by
          intro i hi
          by_cases h1 : i < pos
          · exact hno i h1
          · by_cases h2 : i = pos
            · subst h2; exact ⟨by omega, by omega⟩
            · have hn0 : ¬ n = 0 := by intro h; rw [if_pos h] at hi; omega
              rw [if_neg hn0] at hi
              have := htl (i - pos) (by omega) (by omega)
              rw [show pos + (i - pos) = i by omega] at this
              exact ⟨by omega, by omega⟩
        obtain ⟨N, C, hN, hC, hN1, hNs, hR⟩ : ∃ N C : Nat, (if n = 0 then ((65533 : Nat), 1) else (c, n)) = (C, N) ∧ (if n = 0 then 1 else n) = N ∧ 1 ≤ N ∧ pos + N ≤ s.size ∧ ∀ w, Calls Try.prog 54 #[.string ⟨#[43, 35]⟩, .int .i32 (C : Int)] w fun e w' => e = .returned (.int .i64 (-1)) ∧ Below w.heap.size w w' := by
          by_cases h0 : n = 0
          · exact ⟨1, 65533, by rw [if_pos h0], by rw [if_pos h0], by omega, by omega, fun w => IR.out 65533 w (by omega) (by omega)⟩
          · exact ⟨n, c, by rw [if_neg h0], by rw [if_neg h0], by omega, hfit, fun w => IR.out c w (by rcases hbig (by omega) with h | h <;> omega) (hval h0)⟩
        rw [hN] at hnx
        rw [hC] at hno2
        simp only at hnx
        replace hno2 := Lib.hid hno2
        replace hno := Lib.hid hno
        replace hR := Lib.hid hR
        clear hdec hbig htl hasc hst hval hN hC hle hfit
        go_wp2_with fail
        refine (hR.out _).mono ?_
        rintro e w3 ⟨rfl, b3⟩
        have hit3 := Lib.hid (show w3.heap[w1.heap.size]? = some (.stringIter s (pos + N)) by rw [b3.block _ (by rw [hsz.out]; exact hgt.out)]; exact hW.out _)
        have hb3 := Lib.hid ((hBW.out (pos + N)).trans (b3.mono (by rw [hsz.out]; exact Nat.le_of_lt hgt.out)))
        clear b3
        go_wp2_with fail
        go_roundw
        case rel => exact ⟨pos + N, hNs, hno2.out, hit3.out, hb3.out⟩
        case measure =>
          have : w3.iterPos w1.heap.size = pos + N := by unfold World.iterPos; rw [hit3.out]
          rw [this, hms]; omega
    · have hnx : ∀ ty, (Instr.next (.pointer (some ⟨w1.heap.size, 0, none⟩)) true ty).run Try.prog wr = _ := fun ty => run_next_end_at wr w1.heap.size s pos ty hit hp
      have ha := Lib.hid (none_gB (s := s) (fun k hk => hno k (by omega)))
      replace hno := Lib.hid hno
      replace hit := Lib.hid hit
      replace hb := Lib.hid hb
      go_wp2_with fail
      go_ret
      exact ⟨_, rfl, ⟨by omega, by omega⟩, by rw [ha.out]; rfl, hb.out⟩
set_option maxHeartbeats 1000000 in
set_option maxRecDepth 100000 in
theorem ca_all (IR : IRune) (s : ByteArray) (hs : s.size ≤ 1048576) : CA s := fun w => by
  have I := Lib.hid (show ∀ w, Calls Try.prog 44 #[.string s, .string ⟨#[43, 35]⟩] w (AnyAt s w) from fun w => by
    by_cases h8 : 8 < s.size
    · exact ia_long s h8 hs w
    · exact ia_short IR s w (by omega))
  go_enter Try.func28, Try.ntmps28
  go_wp2_with fail
  refine (I.out _).mono ?_
  rintro e w1 ⟨v, rfl, ⟨v1, v2⟩, hv, b1⟩
  replace hv := Lib.hid hv
  go_wp2_with fail
  go_ret
  exact ⟨by rw [← hv.out]; rfl, b1⟩
end Go.Proofs.Ytfdaooaooalknaa
