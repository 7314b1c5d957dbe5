/-
  LAYER 15: answers: the document's OfAck.
-/
import Derived.Test.YtmpklaokgogigaaDoorSh
namespace Go.Proofs.YtmpklaokgogigaaDoor
set_option linter.unusedSimpArgs false
set_option linter.unusedVariables false
open Go.RowKit

theorem txt_byte (s : ByteArray) (i : Nat) (h : i < s.size) : (txtL s).getD i 0 = (s[i]).toNat := by
  have h' : i < s.data.size := h
  unfold txtL
  simp only [List.getD, List.getElem?_map, Array.getElem?_toList, Array.getElem?_eq_getElem h', Option.map_some, Option.getD_some]
  rfl
set_option maxHeartbeats 4000000 in
set_option maxRecDepth 100000 in
theorem ofack18_any (s : ByteArray) (w : World) (hs : s.size ≤ 140737488351232) : Calls Tryd.prog 43 #[.string s] w (OfAckP (ofAckV (txtL s)) w) := by
  have NB := Lib.hid (rbegin_any s w hs)
  have hl := txtL_length s
  have hb := txt_byte s
  have h256 := txt_lt s
  obtain ⟨l, gl⟩ : ∃ l, l = txtL s := ⟨_, rfl⟩
  rw [← gl] at NB hl hb h256 ⊢
  replace gl := Lib.hid gl
  have hm : (s.size : Int) ≤ 140737488351232 := by omega
  by_cases hn : (numV l).2 = 0
  · obtain ⟨h2, hn1, hn2⟩ := numV_ok hn h256
    by_cases hlen : 2 < s.size ∧ s.size ≤ 10
    · have eV : ofAckV l = if (l.drop 2).all (fun c => codeB c) then ((numV l).1, (l.drop 2).map fun c : Nat => (c : Int), 0) else (0, [], 5) := by
        unfold ofAckV; rw [if_neg (by simpa using hn), if_neg (by omega), if_neg (by omega)]
      unfold Num2 at NB
      rw [hn] at NB
      generalize (numV l).1 = id at *
      generalize ofAckV l = V at *
      replace eV := Lib.hid eV
      replace hn := Lib.hid hn
      obtain ⟨hl3, hl10⟩ := hlen
      have hi3 : 3 ≤ (s.size : Int) := by omega
      have hi10 : (s.size : Int) ≤ 10 := by omega
      have n2 : ((s.size : Int) == 2) = false := by rw [beq_eq_false_iff_ne]; omega
      have h2s : 2 ≤ s.size := by omega
      replace hb := Lib.hid hb
      replace h256 := Lib.hid h256
      replace hl := Lib.hid hl
      obtain ⟨i3, hi, hz0, hz1, hz2⟩ := info_parts info3
      replace hi := Lib.hid hi
      replace hz0 := Lib.hid hz0
      replace hz1 := Lib.hid hz1
      replace hz2 := Lib.hid hz2
      clear h2
      go_enter Tryd.func43, Tryd.ntmps43
      go_wp2_with fail
      refine NB.out.mono ?_
      rintro e w1 ⟨rfl, b1⟩
      replace b1 := Lib.hid b1
      go_wp2_with fail
      go_loopw [7, 8] (fun c i wr => ∃ j : Nat, i = .int .i64 (j : Int) ∧ 2 ≤ j ∧ j ≤ s.size ∧ (∀ g ∈ (l.drop 2).take (j - 2), codeB (g : Nat) = true) ∧ wr.ownsRow w.heap.size 3 1 c (j - 2) (il (((l.drop 2).take (j - 2)).map fun c : Nat => (c : Int))) ∧ Below w.heap.size w wr) (fun _ i _ => s.size - (intOf i).toNat)
      case atStart => exact ⟨2, rfl, by omega, by omega, by simp, by simpa [il] using World.ownsRow_nil _ _ _ _, b1.out⟩
      case round =>
        obtain ⟨j, rfl, hj1, hj2, hall, hown, hb1⟩ := hrel
        replace hall := Lib.hid hall
        replace hb1 := Lib.hid hb1
        have hdl : (l.drop 2).length = s.size - 2 := by rw [List.length_drop, hl.out]
        by_cases hend : j = s.size
        · subst hend
          have htk : (l.drop 2).take (s.size - 2) = l.drop 2 := by rw [← hdl, List.take_length]
          rw [htk] at hown hall
          have hA : (l.drop 2).all (fun c => codeB c) = true := List.all_eq_true.2 hall.out
          have eV' := eV.out
          rw [if_pos hA] at eV'
          have hI : IntsAt wr u7 ((l.drop 2).map fun c : Nat => (c : Int)) ∧ Fresh w.heap.size u7 := ⟨IntsAt.of_own (by rw [List.length_map, hdl]; exact hown) (by rw [List.length_map, hdl]; omega), fresh_own hown (Nat.le_refl _)⟩
          replace eV' := Lib.hid eV'
          replace hI := Lib.hid hI
          replace hA := Lib.hid hA
          replace hdl := Lib.hid hdl
          clear hown htk hall
          go_wp2_with fail
          go_ret3
          exact ⟨_, by rw [eV'.out]; rfl, by rw [eV'.out]; exact hI.out, hb1.out⟩
        have jlt : j < s.size := by omega
        have jlt' : (j : Int) < (s.size : Int) := by omega
        have hkd : j - 2 < (l.drop 2).length := by omega
        have hgd : (l.drop 2).getD (j - 2) 0 = l.getD j 0 := by simp [List.getD, List.getElem?_drop, show 2 + (j - 2) = j by omega]
        have hc256 : l.getD j 0 < 256 := h256.out _ (by have := hl.out; simp [List.getD, show j < l.length by omega])
        have hbj := hb.out j jlt
        rw [hbj] at hgd hc256
        replace hbj := Lib.hid hbj
        replace hdl := Lib.hid hdl
        obtain ⟨c, gc⟩ : ∃ c, c = (s[j]'jlt).toNat := ⟨_, rfl⟩
        rw [← gc] at hgd hc256
        have CD := Lib.hid fun w => code_any 74 (.inr rfl) (c : Int) w
        rw [gc] at CD
        by_cases hco : codeB (c : Nat) = true
        · obtain ⟨hall2, hj⟩ := drop_all hall.out c hkd hgd hco
          rw [← gc, hco, gc] at CD
          have hjj : (l.drop 2).take (j - 2 + 1) = (l.drop 2).take (j + 1 - 2) := by rw [show j - 2 + 1 = j + 1 - 2 by omega]
          rw [hjj] at hall2 hj
          have hj3 : il (((l.drop 2).take (j + 1 - 2)).map fun c : Nat => (c : Int)) = il (((l.drop 2).take (j - 2)).map fun c : Nat => (c : Int)) ++ [.int .i64 (((s[j]'jlt).toNat : Nat) : Int)] := by rw [hj, ← gc]; simp [il]
          have hbd : ((s[j]'jlt).toNat : Int) < 256 := by rw [← gc]; omega
          replace gc := Lib.hid gc
          replace hj3 := Lib.hid hj3
          replace hall2 := Lib.hid hall2
          replace hj := Lib.hid hj
          replace hjj := Lib.hid hjj
          replace hco := Lib.hid hco
          replace hgd := Lib.hid hgd
          have own0 := Lib.hid hown
          clear hown
          have zr : w.heap.size ≤ wr.heap.size := hb1.out.size
          go_wp2_with (first | (go_at_call 74; refine (CD.out _).mono ?_; rintro e w' ⟨rfl, rfl⟩) | (at_builtin; (refine wpList_append_own_at _ rfl (.tmp 36) (.tmp 41) 31 rfl w.heap.size 3 i3 (.int .i64 0) 1 8 Tryd.underlying31 hi.out hz0.out hz1.out hz2.out rfl (by decide) u7 (j - 2) _ rfl (own0.out.alloc _) ⟨wr.heap.size, 0, none⟩ 1 1 [.int .i64 (((s[j]'jlt).toNat : Nat) : Int)] rfl rfl (cell_one_new _ _ _) (by intro u hu; simp at hu; subst hu; rfl) (by unfold maxLen; omega) (by omega) (by simp; omega) ?_); intro v4 w4 o4 g4 n4 nb4; clear n4 nb4; have B4 := Lib.hid ((hb1.out.trans ((ext_alloc wr (.cells #[.int .i64 (((s[j]'jlt).toNat : Nat) : Int)] 3)).mono hb1.out.size)).trans (grown_ext (own0.out.alloc _) g4 (by have := hb1.out.size; simp; omega))); clear g4; replace o4 := Lib.hid o4))
          go_roundw
          case rel => exact ⟨j + 1, by simp, by omega, by omega, hall2.out, by rw [hj3.out, show j + 1 - 2 = j - 2 + 1 by omega]; exact o4.out, B4.out⟩
          case measure => simp [intOf]; omega
        · have hco' : codeB (c : Nat) = false := by simpa using hco
          have hmem : c ∈ l.drop 2 := by rw [← hgd]; simp only [List.getD, List.getElem?_eq_getElem hkd, Option.getD_some]; exact List.getElem_mem _
          have hA : (l.drop 2).all (fun c => codeB c) = false := by
            rw [List.all_eq_false]; exact ⟨c, hmem, by simpa using hco⟩
          have eV' := eV.out
          rw [hA, if_neg (by simp)] at eV'
          rw [← gc, hco', gc] at CD
          have hbd : ((s[j]'jlt).toNat : Int) < 256 := by rw [← gc]; omega
          replace gc := Lib.hid gc
          replace eV' := Lib.hid eV'
          replace hA := Lib.hid hA
          replace hco := Lib.hid hco
          replace hco' := Lib.hid hco'
          replace hgd := Lib.hid hgd
          clear hown hmem
          go_wp2_with (go_at_call 74; refine (CD.out _).mono ?_; rintro e w' ⟨rfl, rfl⟩)
          go_ret3
          exact ⟨_, by rw [eV'.out]; rfl, by rw [eV'.out]; exact ⟨ints_nil _, fresh_nil _⟩, hb1.out⟩
    · have hV : ofAckV l = (0, [], if s.size = 2 then 4 else 6) := by
        unfold ofAckV
        rw [if_neg (show ¬ (numV l).2 ≠ 0 by simpa using hn), hl]
        by_cases h22 : s.size = 2
        · rw [if_pos h22, if_pos h22]
        · rw [if_neg h22, if_neg h22, if_pos (by omega)]
      rw [hV]
      unfold Num2 at NB
      rw [hn] at NB
      generalize (numV l).1 = id at *
      replace hn := Lib.hid hn
      replace hb := Lib.hid hb
      replace h256 := Lib.hid h256
      replace hV := Lib.hid hV
      have h2s : 2 ≤ (s.size : Int) := by omega
      replace hl := Lib.hid hl
      by_cases h22 : s.size = 2
      · rw [if_pos h22]
        have n2 : ((s.size : Int) == 2) = true := by simpa using by omega
        replace h22 := Lib.hid h22
        clear hlen
        go_enter Tryd.func43, Tryd.ntmps43
        go_wp2_with fail
        refine NB.out.mono ?_
        rintro e w1 ⟨rfl, b1⟩
        replace b1 := Lib.hid b1
        go_wp2_with fail
        go_ret3
        exact ⟨_, rfl, ⟨ints_nil _, fresh_nil _⟩, b1.out⟩
      · rw [if_neg h22]
        have n2 : ((s.size : Int) == 2) = false := by rw [beq_eq_false_iff_ne]; omega
        have n10 : 10 < (s.size : Int) := by omega
        replace h22 := Lib.hid h22
        clear hlen
        go_enter Tryd.func43, Tryd.ntmps43
        go_wp2_with fail
        refine NB.out.mono ?_
        rintro e w1 ⟨rfl, b1⟩
        replace b1 := Lib.hid b1
        go_wp2_with fail
        go_ret3
        exact ⟨_, rfl, ⟨ints_nil _, fresh_nil _⟩, b1.out⟩
  · have eV : ofAckV l = (0, [], (numV l).2) := by unfold ofAckV; rw [if_pos hn]
    rw [eV]
    unfold Num2 at NB
    have hd2 : ((numV l).2 != 0) = true := by simpa using hn
    generalize (numV l).2 = E at *
    generalize (numV l).1 = id at *
    replace eV := Lib.hid eV
    replace hn := Lib.hid hn
    replace hb := Lib.hid hb
    replace h256 := Lib.hid h256
    replace hl := Lib.hid hl
    go_enter Tryd.func43, Tryd.ntmps43
    go_wp2_with fail
    refine NB.out.mono ?_
    rintro e w1 ⟨rfl, b1⟩
    replace b1 := Lib.hid b1
    go_wp2_with fail
    go_ret3
    exact ⟨_, rfl, ⟨ints_nil _, fresh_nil _⟩, b1.out⟩
end Go.Proofs.YtmpklaokgogigaaDoor
