/-
  LAYER 14: which topics may be, of both sides.
-/
import Derived.Test.YtmpklaokgogigaaDoorPd
namespace Go.Proofs.YtmpklaokgogigaaDoor.Pub
set_option linter.unusedSimpArgs false
set_option linter.unusedVariables false
open Go.RowKit

def Clean (g : Nat → Nat) (n i : Nat) : Prop := ∀ k, i ≤ k → k < n → g k ≠ 43 ∧ g k ≠ 35
def topicB (s : ByteArray) : Bool := decide (s.size ≠ 0) && s.data.toList.all (fun c => c != 43 && c != 35)
theorem clean_iff (s : ByteArray) : (s.data.toList.all (fun c => c != 43 && c != 35)) = true ↔ Clean (gB s) s.size 0 := by
  rw [List.all_eq_true]
  constructor
  · intro h k _ hk
    rw [← gB_at s k hk]
    have hm : s[k] ∈ s.data.toList := by
      have hk' : k < s.data.size := hk
      exact Array.mem_toList_iff.2 (Array.getElem_mem hk')
    have := h _ hm
    simp only [Bool.and_eq_true, bne_iff_ne, ne_eq] at this
    refine ⟨fun e => this.1 (UInt8.toNat_inj.1 e), fun e => this.2 (UInt8.toNat_inj.1 e)⟩
  · intro h c hc
    obtain ⟨k, hk, rfl⟩ := List.getElem_of_mem hc
    have hk' : k < s.size := by rw [Array.length_toList] at hk; exact hk
    have := h k (Nat.zero_le _) hk'
    rw [← gB_at s k hk'] at this
    simp only [Bool.and_eq_true, bne_iff_ne, ne_eq]
    refine ⟨fun e => this.1 ?_, fun e => this.2 ?_⟩
    · have : s[k] = 43 := by rw [← e]; rfl
      rw [this]; rfl
    · have : s[k] = 35 := by rw [← e]; rfl
      rw [this]; rfl
theorem Clean.skip {g : Nat → Nat} {n i w : Nat} (h1 : 1 ≤ w) (hw : ∀ k, 0 < k → k < w → 128 ≤ g (i + k)) (h0 : g i ≠ 43 ∧ g i ≠ 35) : Clean g n i ↔ Clean g n (i + w) := by
  constructor
  · intro h k hk hn; exact h k (by omega) hn
  · intro h k hk hn
    by_cases h2 : i + w ≤ k
    · exact h k h2 hn
    · by_cases h3 : k = i
      · subst h3; exact h0
      · have := hw (k - i) (by omega) (by omega)
        rw [show i + (k - i) = k by omega] at this
        omega
/-- The rune at a place is below 128 just if its byte is, and then they are one. -/
theorem stp_low (g : Nat → Nat) (n i : Nat) : (g i < 128 → (stp g n i) = (1, g i)) ∧ (128 ≤ g i → (stp g n i).1 ≠ 0 → 128 ≤ (stp g n i).2) := by
  constructor
  · intro h; unfold stp; rw [if_pos h]
  · intro h
    unfold stp
    rw [if_neg (by omega)]
    split
    · intro _; simp; omega
    · split
      · split
        · intro h; exact absurd rfl h
        · intro _; simp; omega
      · split
        · split
          · intro h; exact absurd rfl h
          · intro _; simp; omega
        · intro h; exact absurd rfl h
/-- The decoder's rune and width at a place. -/
theorem rune_at (s : ByteArray) (i : Nat) : ∃ (c w : Nat), Utf8.decode s i = (c, w) ∧ 1 ≤ w ∧ w ≤ 4 ∧ (∀ k, 0 < k → k < w → i + k < s.size ∧ 128 ≤ gB s (i + k)) ∧ ((c = 43 ↔ gB s i = 43) ∧ (c = 35 ↔ gB s i = 35)) ∧ c ≤ 1114111 := by
  have hd := decode_stp s i
  have hl := stp_low (gB s) s.size i
  have hs := stp_small (gB s) s.size i
  have ht := stp_tail (gB s) s.size i
  have hle := stp_le (gB s) s.size i (gB_lt s)
  by_cases h0 : (stp (gB s) s.size i).1 = 0
  · rw [if_pos h0] at hd
    refine ⟨65533, 1, hd, by omega, by omega, fun k h1 h2 => by omega, ?_, by omega⟩
    have : 128 ≤ gB s i := by
      by_cases h : gB s i < 128
      · rw [hl.1 h] at h0; simp at h0
      · omega
    omega
  · rw [if_neg h0] at hd
    refine ⟨_, _, hd, by omega, hs, fun k h1 h2 => ⟨(ht k h1 h2).1, (ht k h1 h2).2.1⟩, ?_, hle⟩
    by_cases h : gB s i < 128
    · rw [hl.1 h]; simp
    · have := hl.2 (by omega) h0
      omega
set_option maxHeartbeats 1000000 in
set_option maxRecDepth 100000 in
theorem topic_any (s : ByteArray) (w : World) (hs : s.size ≤ 140737488355328) : Calls Tryd.prog 62 #[.string s] w fun e w' => e = .returned (.bool (topicB s)) ∧ Below w.heap.size w w' := by
  obtain ⟨T, hT⟩ : ∃ T, topicB s = T := ⟨_, rfl⟩
  have hTi : T = true ↔ s.size ≠ 0 ∧ Clean (gB s) s.size 0 := by rw [← hT]; unfold topicB; rw [Bool.and_eq_true, clean_iff, decide_eq_true_eq]
  rw [hT]
  clear hT
  replace hTi := Lib.hid hTi
  have hs' : (s.size : Int) ≤ 140737488355328 := by omega
  go_enter Tryd.func62, Tryd.ntmps62
  go_wp2
  go_loopw [4] (fun _ w' => ∃ pos : Nat, w' = w.iter s pos ∧ pos ≤ s.size ∧ (Clean (gB s) s.size 0 ↔ Clean (gB s) s.size pos)) (fun _ w' => s.size - w'.iterPos w.heap.size)
  case atStart => exact ⟨0, rfl, by omega, Iff.rfl⟩
  case round =>
    obtain ⟨pos, rfl, hps, hc⟩ := hrel
    replace hc := Lib.hid hc
    by_cases hp : pos < s.size
    · obtain ⟨c, wd', hd, h1, h4, htl, ⟨e43, e35⟩, hcl⟩ := rune_at s pos
      have hnx : ∀ ty, (Instr.next (.pointer (some ⟨w.heap.size, 0, none⟩)) true ty).run Tryd.prog (w.iter s pos) = _ := fun ty => run_next_any w s pos ty hp
      rw [hd] at hnx
      simp only at hnx
      have hcl' : (c : Int) ≤ 1114111 := by omega
      by_cases hbad : c = 43 ∨ c = 35
      · have hf : T = false := by
          cases hT : T with
          | false => rfl
          | true =>
            have := (hTi.out.1 hT).2
            have := (hc.out.1 this) pos (Nat.le_refl _) hp
            exfalso
            rcases hbad with h | h
            · exact this.1 (e43.1 h)
            · exact this.2 (e35.1 h)
        subst hf
        clear hd e43 e35 htl
        rcases hbad with rfl | rfl
        all_goals
          go_wp2_with fail
          go_ret
          exact ⟨rfl, iter_below _ _ _⟩
      · have b43 : ((c : Int) == 43) = false := beq_eq_false_iff_ne.2 (by omega)
        have b35 : ((c : Int) == 35) = false := beq_eq_false_iff_ne.2 (by omega)
        have hfit : pos + wd' ≤ s.size := by
          by_cases h : wd' ≤ 1
          · omega
          · have := (htl (wd' - 1) (by omega) (by omega)).1; omega
        have hrel : Clean (gB s) s.size 0 ↔ Clean (gB s) s.size (pos + wd') := hc.out.trans (Clean.skip h1 (fun k a b => (htl k a b).2) ⟨fun h => hbad (.inl (e43.2 h)), fun h => hbad (.inr (e35.2 h))⟩)
        replace hrel := Lib.hid hrel
        clear hd e43 e35 htl hbad
        go_wp2_with fail
        go_roundw
        case rel => exact ⟨pos + wd', rfl, hfit, hrel.out⟩
        case measure => simp; omega
    · have hnx : ∀ ty, (Instr.next (.pointer (some ⟨w.heap.size, 0, none⟩)) true ty).run Tryd.prog (w.iter s pos) = _ := fun ty => run_next_end w s pos ty hp
      have hcl : Clean (gB s) s.size 0 := hc.out.2 (fun k hk hn => by omega)
      have hf : T = !s.toList.isEmpty := by
        have e : s.toList.isEmpty = decide (s.size = 0) := by
          rw [ByteArray.toList_eq, Bool.eq_iff_iff, List.isEmpty_iff, decide_eq_true_eq, ← List.length_eq_zero_iff, Array.length_toList]; rfl
        rw [e, Bool.eq_iff_iff, hTi.out]
        simp [hcl]
      replace hf := Lib.hid hf
      clear hcl
      go_wp2_with fail
      go_ret
      exact ⟨by rw [hf.out]; rfl, iter_below _ _ _⟩
end Go.Proofs.YtmpklaokgogigaaDoor.Pub

/-
  LAYER 14: Put, the program's, of any message.
-/
namespace Go.Proofs.YtmpklaokgogigaaDoor.Pub
set_option linter.unusedSimpArgs false
set_option linter.unusedVariables false
open Go.RowKit

theorem form_of {w : World} {B : Nat} {v : Value} {p : List Nat} (h : w.ownsRow B 5 1 v p.length (bl p)) (hn : p ≠ []) : ∃ g cap, v = .slice (some ⟨g, 0, none⟩) p.length cap := by
  rcases h.2 with ⟨_, h0⟩ | ⟨g, cap, _, rfl, _⟩
  · exact absurd (List.eq_nil_of_length_eq_zero h0) hn
  · exact ⟨g, cap, rfl⟩
theorem number_pos (q : Int) (w : World) (h : 0 < q) : Calls Tryd.prog 63 #[.int .i64 q] w fun e w' => e = .returned (.agg #[.func (.func 78) #[] #[], .func (.func 64) #[] #[]]) ∧ Below w.heap.size w w' := by
  go_enter Tryd.func63, Tryd.ntmps63
  go_wp2
  exact bodyPost_ret (v := .agg #[.func (.func 78) #[] #[], .func (.func 64) #[] #[]]) (by simp [results, Tryd.results63, go_sem]) rfl ⟨rfl, ext_alloc _ _⟩
theorem number_0 (w : World) : Calls Tryd.prog 63 #[.int .i64 0] w fun e w' => e = .returned (.agg #[.func (.func 87) #[] #[], .func (.func 88) #[] #[]]) ∧ Below w.heap.size w w' := by
  go_enter Tryd.func63, Tryd.ntmps63
  go_wp2
  exact bodyPost_ret (v := .agg #[.func (.func 87) #[] #[], .func (.func 88) #[] #[]]) (by simp [results, Tryd.results63, go_sem]) rfl ⟨rfl, ext_alloc _ _⟩
theorem field_0 (w : World) : (Instr.field 114 (.agg #[.func (.func 87) #[] #[], .func (.func 88) #[] #[]]) 0).run Tryd.prog w = .ok (.func (.func 87) #[] #[]) w := by kernel_rfl
theorem none_ok (w : World) : Calls Tryd.prog 87 #[.int .i64 0] w (Numb [] 0 w) := by
  have : Calls Tryd.prog 87 #[.int .i64 0] w fun e w' => e = .returned (.tuple #[.slice none 0 0, .int .i64 0]) ∧ w = w' := by
    go_enter Tryd.func87, Tryd.ntmps87
    go_wp2
    go_ret2
    exact ⟨rfl, rfl⟩
  refine this.mono ?_
  rintro e w' ⟨rfl, rfl⟩
  exact ⟨_, rfl, ⟨none, 0, rfl, ⟨by simp, fun _ => rfl⟩, .inl rfl⟩, Below.refl _ _⟩
theorem none_err (id : Int) (w : World) (h : id ≠ 0) : Calls Tryd.prog 87 #[.int .i64 id] w (Numb [] 1 w) := by
  have hb : (id != 0) = true := by simpa using h
  have : Calls Tryd.prog 87 #[.int .i64 id] w fun e w' => e = .returned (.tuple #[.slice none 0 0, .int .i64 1]) ∧ w = w' := by
    clear h
    go_enter Tryd.func87, Tryd.ntmps87
    go_wp2
    go_ret2
    exact ⟨rfl, rfl⟩
  refine this.mono ?_
  rintro e w' ⟨rfl, rfl⟩
  exact ⟨_, rfl, ⟨none, 0, rfl, ⟨by simp, fun _ => rfl⟩, .inl rfl⟩, Below.refl _ _⟩
def msg (t x : ByteArray) (q : Int) (r : Bool) : Value := .agg #[.string t, .string x, .int .i64 q, .bool r]
theorem nil_numb {P : Program} {f : FuncId} {args : Array Value} {w : World} {err : Int} (h : Calls P f args w fun e w' => e = .returned (.tuple #[.slice none 0 0, .int .i64 err]) ∧ Below w.heap.size w w') : Calls P f args w (Numb [] err w) :=
  h.mono fun e w' ⟨he, hw⟩ => ⟨_, he, ⟨none, 0, rfl, ⟨by simp, fun _ => rfl⟩, .inl rfl⟩, hw⟩
theorem put14_qos (t x : ByteArray) (q id : Int) (r : Bool) (w : World) (h : q < 0 ∨ 2 < q) : Calls Tryd.prog 77 #[.agg #[.string t, .string x, .int .i64 q, .bool r], .int .i64 id] w (Numb [] 10 w) := by
  refine nil_numb ?_
  rcases (show q < 0 ∨ (0 ≤ q ∧ 2 < q) by omega) with h | ⟨h, h'⟩
  all_goals
    go_enter Tryd.func77, Tryd.ntmps77
    go_wp2
    go_ret2
    exact ⟨rfl, ext_alloc _ _⟩
set_option maxHeartbeats 1000000 in
theorem put14_topic (t x : ByteArray) (q id : Int) (r : Bool) (w : World) (h0 : 0 ≤ q) (h2 : q ≤ 2) (ht : t.size ≤ 140737488355328) (htp : topicB t = false) : Calls Tryd.prog 77 #[.agg #[.string t, .string x, .int .i64 q, .bool r], .int .i64 id] w (Numb [] 13 w) := by
  refine nil_numb ?_
  have T := fun w => topic_any t w ht
  rw [htp] at T
  replace T := Lib.hid T
  clear htp
  have b0 := Lib.hid (ext_alloc w (.cells #[.string t, .string x, .int .i64 q, .bool r] 27))
  go_enter Tryd.func77, Tryd.ntmps77
  go_wp2_with fail
  refine (T.out _).mono ?_
  rintro e w1 ⟨rfl, b1⟩
  replace b1 := Lib.hid b1
  go_wp2_with fail
  go_ret2
  exact ⟨rfl, ext_trans b0.out b1.out⟩
set_option maxHeartbeats 1000000 in
theorem put14_text (t x : ByteArray) (q id E : Int) (r : Bool) (w : World) (h0 : 0 ≤ q) (h2 : q ≤ 2) (ht : t.size ≤ 140737488355328) (htp : topicB t = true) (hE : E ≠ 0)
    (P : ∀ w, Calls Tryd.prog 96 #[.string t] w fun e w' => e = .returned (.tuple #[.slice none 0 0, .int .i64 E]) ∧ Below w.heap.size w w') : Calls Tryd.prog 77 #[.agg #[.string t, .string x, .int .i64 q, .bool r], .int .i64 id] w (Numb [] E w) := by
  refine nil_numb ?_
  have T := fun w => topic_any t w ht
  rw [htp] at T
  replace T := Lib.hid T
  replace P := Lib.hid P
  have hb : (E != 0) = true := by simpa using hE
  clear htp hE
  have b0 := Lib.hid (ext_alloc w (.cells #[.string t, .string x, .int .i64 q, .bool r] 27))
  go_enter Tryd.func77, Tryd.ntmps77
  go_wp2_with fail
  refine (T.out _).mono ?_
  rintro e w1 ⟨rfl, b1⟩
  have c00 : w1.cell? ⟨w.heap.size, 0, none⟩ = some (.string t) := by rw [b1.cell (by simp), World.cell?_alloc_at _ _ _ _ rfl]; rfl
  replace b1 := Lib.hid (ext_trans b0.out b1)
  go_wp2_with fail
  refine (P.out _).mono ?_
  rintro e w2 ⟨rfl, b2⟩
  replace b2 := Lib.hid b2
  clear c00
  go_wp2_with fail
  go_ret2
  exact ⟨rfl, ext_trans b1.out b2.out⟩
end Go.Proofs.YtmpklaokgogigaaDoor.Pub
