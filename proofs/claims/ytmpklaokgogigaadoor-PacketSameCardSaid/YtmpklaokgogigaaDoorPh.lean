/-
  LAYER 14: Put, the program's, joined; named, the document's.
-/
import Derived.Test.YtmpklaokgogigaaDoorPg
namespace Go.Proofs.YtmpklaokgogigaaDoor.Pub
set_option linter.unusedSimpArgs false
set_option linter.unusedVariables false
open Go.RowKit

set_option maxHeartbeats 2000000 in
set_option maxRecDepth 100000 in
theorem put14_numP (t x : ByteArray) (q id : Int) (r : Bool) (rt : List Nat) (w : World)
    (hq0 : 0 ≤ q) (hq2 : q ≤ 2) (ht : t.size ≤ 65535) (htp : topicB t = true)
    (P : ∀ w, Calls Tryd.prog 96 #[.string t] w fun e w' => ∃ v, e = .returned (.tuple #[v, .int .i64 0]) ∧ w'.ownsRow w.heap.size 5 1 v rt.length (bl rt) ∧ Below w.heap.size w w')
    (NB : ∀ w, Calls Tryd.prog 63 #[.int .i64 q] w fun e w' => e = .returned (.agg #[.func (.func 78) #[] #[], .func (.func 64) #[] #[]]) ∧ Below w.heap.size w w')
    (KF : ∀ w, (Instr.field 114 (.agg #[.func (.func 78) #[] #[], .func (.func 64) #[] #[]]) 0).run Tryd.prog w = .ok (.func (.func 78) #[] #[]) w)
    (ID : ∀ w, Calls Tryd.prog 78 #[.int .i64 id] w (Numb [] 1 w)) :
    Calls Tryd.prog 77 #[.agg #[.string t, .string x, .int .i64 q, .bool r], .int .i64 id] w (Numb [] 1 w) := by
  have T := fun w => topic_any t w (by omega)
  rw [htp] at T
  replace T := Lib.hid T
  replace P := Lib.hid P
  replace NB := Lib.hid NB
  replace ID := Lib.hid ID
  clear htp
  have b0 := Lib.hid (ext_alloc w (.cells #[.string t, .string x, .int .i64 q, .bool r] 27))
  go_enter Tryd.func77, Tryd.ntmps77
  go_wp2_with fail
  refine (T.out _).mono ?_
  rintro e w1 ⟨rfl, b1⟩
  have c00 : w1.cell? ⟨w.heap.size, 0, none⟩ = some (.string t) := by rw [b1.cell (by simp), World.cell?_alloc_at _ _ _ _ rfl]; rfl
  have c02 : w1.cell? ⟨w.heap.size, 2, none⟩ = some (.int .i64 q) := by rw [b1.cell (by simp), World.cell?_alloc_at _ _ _ _ rfl]; rfl
  have hs1 : w.heap.size < w1.heap.size := by have := b1.size; simp at this; omega
  replace b1 := Lib.hid (ext_trans b0.out b1)
  go_wp2_with fail
  refine (P.out _).mono ?_
  rintro e w2 ⟨v2, rfl, o2, b2⟩
  have d02 : w2.cell? ⟨w.heap.size, 2, none⟩ = some (.int .i64 q) := by rw [b2.cell hs1]; exact c02
  replace b2 := Lib.hid b2
  clear c00 c02 o2
  go_wp2_with fail
  refine (NB.out _).mono ?_
  rintro e w3 ⟨rfl, b3⟩
  replace b3 := Lib.hid b3
  clear d02
  go_wp2_with fail
  refine (ID.out _).mono ?_
  rintro e w4 ⟨v4, rfl, a4, b4⟩
  replace b4 := Lib.hid b4
  clear a4
  go_wp2_with fail
  go_ret2
  exact ⟨_, rfl, ⟨none, 0, rfl, ⟨by simp, fun _ => rfl⟩, .inl rfl⟩, ext_trans b1.out (ext_trans b2.out (ext_trans b3.out b4.out))⟩
set_option maxHeartbeats 2000000 in
set_option maxRecDepth 100000 in
theorem put14_num0 (t x : ByteArray) (q id : Int) (r : Bool) (rt : List Nat) (w : World)
    (hq0 : 0 ≤ q) (hq2 : q ≤ 2) (ht : t.size ≤ 65535) (htp : topicB t = true)
    (P : ∀ w, Calls Tryd.prog 96 #[.string t] w fun e w' => ∃ v, e = .returned (.tuple #[v, .int .i64 0]) ∧ w'.ownsRow w.heap.size 5 1 v rt.length (bl rt) ∧ Below w.heap.size w w')
    (NB : ∀ w, Calls Tryd.prog 63 #[.int .i64 q] w fun e w' => e = .returned (.agg #[.func (.func 87) #[] #[], .func (.func 88) #[] #[]]) ∧ Below w.heap.size w w')
    (KF : ∀ w, (Instr.field 114 (.agg #[.func (.func 87) #[] #[], .func (.func 88) #[] #[]]) 0).run Tryd.prog w = .ok (.func (.func 87) #[] #[]) w)
    (ID : ∀ w, Calls Tryd.prog 87 #[.int .i64 id] w (Numb [] 1 w)) :
    Calls Tryd.prog 77 #[.agg #[.string t, .string x, .int .i64 q, .bool r], .int .i64 id] w (Numb [] 1 w) := by
  have T := fun w => topic_any t w (by omega)
  rw [htp] at T
  replace T := Lib.hid T
  replace P := Lib.hid P
  replace NB := Lib.hid NB
  replace ID := Lib.hid ID
  clear htp
  have b0 := Lib.hid (ext_alloc w (.cells #[.string t, .string x, .int .i64 q, .bool r] 27))
  go_enter Tryd.func77, Tryd.ntmps77
  go_wp2_with fail
  refine (T.out _).mono ?_
  rintro e w1 ⟨rfl, b1⟩
  have c00 : w1.cell? ⟨w.heap.size, 0, none⟩ = some (.string t) := by rw [b1.cell (by simp), World.cell?_alloc_at _ _ _ _ rfl]; rfl
  have c02 : w1.cell? ⟨w.heap.size, 2, none⟩ = some (.int .i64 q) := by rw [b1.cell (by simp), World.cell?_alloc_at _ _ _ _ rfl]; rfl
  have hs1 : w.heap.size < w1.heap.size := by have := b1.size; simp at this; omega
  replace b1 := Lib.hid (ext_trans b0.out b1)
  go_wp2_with fail
  refine (P.out _).mono ?_
  rintro e w2 ⟨v2, rfl, o2, b2⟩
  have d02 : w2.cell? ⟨w.heap.size, 2, none⟩ = some (.int .i64 q) := by rw [b2.cell hs1]; exact c02
  replace b2 := Lib.hid b2
  clear c00 c02 o2
  go_wp2_with fail
  refine (NB.out _).mono ?_
  rintro e w3 ⟨rfl, b3⟩
  replace b3 := Lib.hid b3
  clear d02
  go_wp2_with fail
  refine (ID.out _).mono ?_
  rintro e w4 ⟨v4, rfl, a4, b4⟩
  replace b4 := Lib.hid b4
  clear a4
  go_wp2_with fail
  go_ret2
  exact ⟨_, rfl, ⟨none, 0, rfl, ⟨by simp, fun _ => rfl⟩, .inl rfl⟩, ext_trans b1.out (ext_trans b2.out (ext_trans b3.out b4.out))⟩
set_option maxRecDepth 100000 in
theorem named_any (s : ByteArray) (w : World) (hs : s.size ≤ 140737488355328) : Calls Tryd.prog 72 #[.string s] w fun e w' => e = .returned (.bool (topicB s)) ∧ w = w' := by
  obtain ⟨T, hT⟩ : ∃ T, topicB s = T := ⟨_, rfl⟩
  have hTi : T = true ↔ s.size ≠ 0 ∧ Clean (gB s) s.size 0 := by rw [← hT]; unfold topicB; rw [Bool.and_eq_true, clean_iff, decide_eq_true_eq]
  rw [hT]
  clear hT
  replace hTi := Lib.hid hTi
  have hs' : (s.size : Int) ≤ 140737488355328 := by omega
  go_enter Tryd.func72, Tryd.ntmps72
  go_wp2
  go_loop [3] (fun i => ∃ k : Nat, k ≤ s.size ∧ i = .int .i64 k ∧ (Clean (gB s) s.size 0 ↔ Clean (gB s) s.size k)) (fun i => s.size - (intOf i).toNat)
  case atStart => exact ⟨0, by omega, rfl, Iff.rfl⟩
  case round =>
    obtain ⟨k, hk, rfl, hc⟩ := hrel
    replace hc := Lib.hid hc
    by_cases hp : k < s.size
    · have hp' : (k : Int) < s.size := by omega
      have hg := gB_at s k hp
      by_cases hbad : gB s k = 43 ∨ gB s k = 35
      · have hf : T = false := by
          cases hT : T with
          | false => rfl
          | true =>
            have := (hTi.out.1 hT).2
            have := (hc.out.1 this) k (Nat.le_refl _) hp
            exfalso
            rcases hbad with h | h
            · exact this.1 h
            · exact this.2 h
        subst hf
        rcases hbad with h | h
        · have e1 : ((s[k].toNat : Int) == 43) = true := by rw [hg, h]; rfl
          clear hg h
          go_wp2
          go_ret
          exact ⟨rfl, rfl⟩
        · have e1 : ((s[k].toNat : Int) == 43) = false := by rw [hg, h]; rfl
          have e2 : ((s[k].toNat : Int) == 35) = true := by rw [hg, h]; rfl
          clear hg h
          go_wp2
          go_ret
          exact ⟨rfl, rfl⟩
      · have e1 : ((s[k].toNat : Int) == 43) = false := beq_eq_false_iff_ne.2 (by omega)
        have e2 : ((s[k].toNat : Int) == 35) = false := beq_eq_false_iff_ne.2 (by omega)
        have hrel : Clean (gB s) s.size 0 ↔ Clean (gB s) s.size (k + 1) := hc.out.trans (Clean.skip (by omega) (fun j a b => by omega) ⟨fun h => hbad (.inl h), fun h => hbad (.inr h)⟩)
        replace hrel := Lib.hid hrel
        clear hg hbad
        go_wp2
        go_round
        case rel => exact ⟨k + 1, by omega, by go_num, hrel.out⟩
        case measure => simp [intOf]; omega
    · have hp' : (s.size : Int) ≤ k := by omega
      have hcl : Clean (gB s) s.size 0 := hc.out.2 (fun j hj hn => by omega)
      have hf : T = !s.toList.isEmpty := by
        have e : s.toList.isEmpty = decide (s.size = 0) := by
          rw [ByteArray.toList_eq, Bool.eq_iff_iff, List.isEmpty_iff, decide_eq_true_eq, ← List.length_eq_zero_iff, Array.length_toList]; rfl
        rw [e, Bool.eq_iff_iff, hTi.out]
        simp [hcl]
      replace hf := Lib.hid hf
      clear hcl
      go_wp2
      go_ret
      exact ⟨by rw [hf.out]; rfl, rfl⟩
end Go.Proofs.YtmpklaokgogigaaDoor.Pub
