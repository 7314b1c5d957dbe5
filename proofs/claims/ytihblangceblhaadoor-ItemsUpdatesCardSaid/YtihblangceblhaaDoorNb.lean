/-
  LAYER 31: the document's table of aliases: Try where nothing is in it.
-/
import Derived.Test.YtihblangceblhaaDoorNa
import Derived.StillTailTactics
import Derived.Deep.QuietTactic
import Derived.BigQuiet
namespace Go.Proofs.YtihblangceblhaaDoor
set_option linter.unusedVariables false
set_option linter.unusedSimpArgs false
open Go.RowKit
/-- The numbers of the items that have one. -/
def als (l : List It) : List Int := (l.filter (fun x => x.a1)).map (fun x => x.a2)
theorem als_take {l : List It} {k : Nat} {f : It} (h : l[k]? = some f) : als (l.take (k + 1)) = if f.a1 then als (l.take k) ++ [f.a2] else als (l.take k) := by
  obtain ⟨hk, rfl⟩ := List.getElem?_eq_some_iff.1 h
  rw [List.take_succ_eq_append_getElem hk]
  unfold als
  rw [List.filter_append, List.map_append]
  cases hf : l[k].a1 <;> simp [hf]
theorem als_mem {l : List It} {k j : Nat} {y : It} {a : Int} (hj : j < k) (hy : l[j]? = some y) (h1 : y.a1 = true) (h2 : y.a2 = a) : a ∈ als (l.take k) := by
  obtain ⟨hl, rfl⟩ := List.getElem?_eq_some_iff.1 hy
  unfold als
  refine List.mem_map.2 ⟨_, List.mem_filter.2 ⟨List.mem_iff_getElem.2 ⟨j, by simp; omega, List.getElem_take⟩, h1⟩, h2⟩
theorem als_not {l : List It} {k : Nat} {a : Int} (h : ∀ j y, j < k → l[j]? = some y → ¬ (y.a1 = true ∧ y.a2 = a)) : a ∉ als (l.take k) := by
  intro hm
  unfold als at hm
  obtain ⟨y, hy, he⟩ := List.mem_map.1 hm
  obtain ⟨hy, h1⟩ := List.mem_filter.1 hy
  obtain ⟨j, hj, rfl⟩ := List.mem_iff_getElem.1 hy
  simp only [List.length_take] at hj
  rw [List.getElem_take] at he h1
  exact h j _ (by omega) (List.getElem?_eq_getElem (by omega)) ⟨h1, he⟩
theorem scan_nil {o : ByteArray} {l : List It} {k : Nat} {f : It} (h : l[k]? = some f) {s : List Int} : scan [] o s (l.drop k) = if f.a1 then (if f.a2 ∈ s then none else scan [] o (s ++ [f.a2]) (l.drop (k + 1))) else scan [] o s (l.drop (k + 1)) := by
  obtain ⟨hk, rfl⟩ := List.getElem?_eq_some_iff.1 h
  rw [List.drop_eq_getElem_cons hk, scan]
  have : usedB [] o s l[k].a2 = decide (l[k].a2 ∈ s) := by unfold usedB findT; simp
  rw [this]
  split <;> simp
set_option maxHeartbeats 4000000 in
set_option maxRecDepth 100000 in
theorem rttry_any {w : World} {B x : Nat} {v : Value} (h : Tx w B x [] v) (o : ByteArray) {vl : Value} {l : List It} (hl : ItsAt w vl l) (hlen : l.length ≤ 1000000) :
    Calls Tryd.prog 28 #[.pointer (some ⟨x, 0, none⟩), .string o, vl] w fun e w' => e = .returned (.int .i64 (tryE [] o l)) ∧ Below w.heap.size w w' := by
  obtain ⟨va, vc, rfl⟩ := own_slice h.own
  obtain ⟨a, cap, rfl, -, hc⟩ := hl
  have hxs : x < w.heap.size := (Array.getElem?_eq_some_iff.1 h.row).1
  have cx0 : w.cell? ⟨x, 0, none⟩ = some (.slice va 0 vc) := by rw [cell_of_row w x 0 _ 49 (0, 0) h.row]; rfl
  have hlen' : (l.length : Int) ≤ 1000000 := by omega
  obtain ⟨E, hE⟩ : ∃ E, E = tryE [] o l := ⟨_, rfl⟩
  rw [← hE]
  replace hE := Lib.hid hE
  replace hc := Lib.hid hc
  clear h
  go_enter Tryd.func28, Tryd.ntmps28
  go_wp2
  go_loopw [7, 8] (fun n i wr => n = .int .i64 0 ∧ i = .int .i64 0 ∧ wr = w) (fun _ _ _ => 0)
  case atStart => exact ⟨rfl, rfl, rfl⟩
  case round =>
    obtain ⟨rfl, rfl, rfl⟩ := hrel
    go_wp2
    go_loopw [7, 9] (fun n i wr2 => ∃ k : Nat, i = .int .i64 (k : Int) ∧ k ≤ l.length ∧ n = .int .i64 ((als (l.take k)).length : Nat) ∧ (als (l.take k)).length ≤ k ∧ scan [] o [] l = scan [] o (als (l.take k)) (l.drop k) ∧ Below wr.heap.size wr wr2) (fun _ i _ => l.length - (intOf i).toNat)
    case atStart => exact ⟨0, rfl, by omega, rfl, Nat.le_refl _, rfl, Below.refl _ _⟩
    case round =>
      obtain ⟨k, rfl, hk, rfl, hak, hsc, hb⟩ := hrel
      have cx := (hb.cell (p := ⟨x, 0, none⟩) hxs).trans cx0
      by_cases hend : k = l.length
      · subst hend
        rw [List.take_length] at *
        rw [List.drop_length] at hsc
        have hE2 : E = if 64 < (als l).length then 6 else 0 := by
          rw [hE.out]; unfold tryE; rw [hsc, scan]
          simp [notO]
        by_cases h64 : 64 < (als l).length
        · rw [if_pos h64] at hE2
          have h65 : (64 : Int) < ((als l).length : Int) := by omega
          replace hsc := Lib.hid hsc
          replace hE2 := Lib.hid hE2
          replace hb := Lib.hid hb
          go_wp2
          go_ret
          exact ⟨by rw [hE2.out]; rfl, hb.out⟩
        · rw [if_neg h64] at hE2
          have h65 : ¬ (64 : Int) < ((als l).length : Int) := by omega
          replace hsc := Lib.hid hsc
          replace hE2 := Lib.hid hE2
          replace hb := Lib.hid hb
          go_wp2
          go_ret
          exact ⟨by rw [hE2.out]; rfl, hb.out⟩
      have hkl : k < l.length := by omega
      have klt : (k : Int) < (l.length : Int) := by omega
      obtain ⟨y, hy⟩ : ∃ y, l[k]? = some y := ⟨_, List.getElem?_eq_getElem hkl⟩
      rw [scan_nil hy] at hsc
      have hat := als_take hy
      obtain ⟨b, o0, rfl, hbl, q0, q1, q2, q3, q4, q5, q6, q7⟩ := itsAt_at hy hb hc.out
      obtain ⟨a0, a1, a2, a3, a4, a5, a6, a7⟩ := y
      simp only at q0 q1 q2 q3 q4 q5 q6 q7 hsc hat
      clear q0 q3 q4 q5 q6 q7
      replace hy := Lib.hid hy
      cases a1 with
      | false =>
        simp only [Bool.false_eq_true, if_false] at hsc hat
        rw [← hat] at hsc
        replace hsc := Lib.hid hsc
        replace hat := Lib.hid hat
        replace hb := Lib.hid hb
        go_wp2
        go_roundw
        case rel => exact ⟨k + 1, by simp, by omega, by rw [hat.out], by rw [hat.out]; omega, hsc.out, hb.out⟩
        case measure => simp [intOf]; omega
      | true =>
        simp only [if_true] at hsc hat
        have nle : ((als (l.take k)).length : Int) ≤ 1000000 := by omega
        have nl0 : (0 : Int) ≤ ((als (l.take k)).length : Int) := by omega
        replace hsc := Lib.hid hsc
        replace hat := Lib.hid hat
        replace hb := Lib.hid hb
        replace hak := Lib.hid hak
        go_wp2
        go_loopw [10] (fun i w3 => ∃ j : Nat, i = .int .i64 (j : Int) ∧ j ≤ k ∧ (∀ j' y, j' < j → l[j']? = some y → ¬ (y.a1 = true ∧ y.a2 = a2)) ∧ Below wr.heap.size wr w3) (fun i _ => k - (intOf i).toNat)
        case atStart => exact ⟨0, rfl, by omega, by omega, Below.refl _ _⟩
        case round =>
          obtain ⟨j, rfl, hj, hno, hb3⟩ := hrel
          have BX := hb.out.trans (hb3.mono hb.out.size)
          have cx := (BX.cell (p := ⟨x, 0, none⟩) hxs).trans cx0
          by_cases hje : j = k
          · subst hje
            have hni := als_not hno
            have hsc2 := hsc.out
            rw [if_neg hni, ← hat.out] at hsc2
            replace hsc2 := Lib.hid hsc2
            replace hno := Lib.hid hno
            replace hni := Lib.hid hni
            replace BX := Lib.hid BX
            replace hb3 := Lib.hid hb3
            go_wp2
            go_loopw [11] (fun i w4 => i = .int .i64 0 ∧ w4 = wr) (fun _ _ => 0)
            case atStart => exact ⟨rfl, rfl⟩
            case round =>
              obtain ⟨rfl, rfl⟩ := hrel
              go_wp2
              go_roundw
              case rel => exact ⟨j + 1, by simp, by omega, by rw [hat.out]; simp, by rw [hat.out]; simp; exact hak.out, hsc2.out, BX.out⟩
              case measure => simp [intOf]; omega
          · have hjk : j < k := by omega
            have jlt : (j : Int) < (k : Int) := by omega
            have jll : (j : Int) < (l.length : Int) := by omega
            obtain ⟨z, hz⟩ : ∃ z, l[j]? = some z := ⟨_, List.getElem?_eq_getElem (by omega)⟩
            obtain ⟨b2, o2, e2, -, p0, p1, p2, p3, p4, p5, p6, p7⟩ := itsAt_at hz BX hc.out
            cases e2
            obtain ⟨b2, o2, e2, -, q0, q1, q2, q3, q4, q5, q6, q7⟩ := itsAt_at hy.out BX hc.out
            cases e2
            have hmem := als_mem hjk hz (a := a2)
            have hstep : ¬ (z.a1 = true ∧ z.a2 = a2) → ∀ j' y, j' < j + 1 → l[j']? = some y → ¬ (y.a1 = true ∧ y.a2 = a2) := by
              intro hne j' y hj' hy'
              by_cases ee : j' = j
              · subst ee
                rw [hz] at hy'
                obtain rfl := Option.some.inj hy'
                exact hne
              · exact hno j' y (by omega) hy'
            obtain ⟨z0, z1, z2, z3, z4, z5, z6, z7⟩ := z
            simp only at p1 p2 q1 q2 hmem hstep
            clear p0 p3 p4 p5 p6 p7 q0 q3 q4 q5 q6 q7
            replace hz := Lib.hid hz
            replace hno := Lib.hid hno
            replace hmem := Lib.hid hmem
            replace hstep := Lib.hid hstep
            replace BX := Lib.hid BX
            replace hb3 := Lib.hid hb3
            cases z1 with
            | false =>
              have h2 := Lib.hid (hstep.out (by simp))
              clear hstep hmem
              go_wp2_with fail
              go_quiet (fail)
              go_wp2_with fail
              go_roundw
              case rel => exact ⟨j + 1, by simp, by omega, h2.out, hb3.out.trans ⟨rfl, rfl, rfl, Nat.le_refl _, fun _ _ => rfl⟩⟩
              case measure => simp [intOf]; omega
            | true =>
              by_cases hz2 : z2 = a2
              · subst hz2
                have hm := hmem.out rfl rfl
                have hsc2 := hsc.out
                rw [if_pos hm] at hsc2
                have hE2 : E = 16 := by rw [hE.out]; unfold tryE; rw [hsc2]
                replace hm := Lib.hid hm
                replace hsc2 := Lib.hid hsc2
                replace hE2 := Lib.hid hE2
                clear hstep hmem
                go_wp2_with fail
                go_quiet (fail)
                go_wp2_with fail
                go_ret
                exact ⟨by rw [hE2.out]; rfl, BX.out.trans ⟨rfl, rfl, rfl, Nat.le_refl _, fun _ _ => rfl⟩⟩
              · have h2 := Lib.hid (hstep.out (by simp [hz2]))
                have hb2 : (z2 == a2) = false := by rw [beq_eq_false_iff_ne]; exact hz2
                replace hz2 := Lib.hid hz2
                clear hstep hmem
                go_wp2_with fail
                go_quiet (fail)
                go_wp2_with fail
                go_roundw
                case rel => exact ⟨j + 1, by simp, by omega, h2.out, hb3.out.trans ⟨rfl, rfl, rfl, Nat.le_refl _, fun _ _ => rfl⟩⟩
                case measure => simp [intOf]; omega
end Go.Proofs.YtihblangceblhaaDoor
