/-
  LAYER 15: answers: OfAck of both sides.
-/
import Derived.Test.YtmpklaokgogigaaDoorSk
namespace Go.Proofs.YtmpklaokgogigaaDoor
set_option linter.unusedSimpArgs false
set_option linter.unusedVariables false
open Go.RowKit

def il (l : List Int) : List Value := l.map fun x => .int .i64 x
theorem IntsAt.of_own {w : World} {B : Nat} {v : Value} {l : List Int} (h : w.ownsRow B 3 1 v l.length (il l)) (hl : l.length ≤ 9223372036854775807) : IntsAt w v l := by
  obtain ⟨h1, h2⟩ := h
  rcases h2 with ⟨rfl, hn⟩ | ⟨g, cap, cur, hv, hb, hg, hnc, hcm, hcs, ht⟩
  · exact ⟨none, 0, by rw [hn], hl, .inl (List.eq_nil_of_length_eq_zero hn)⟩
  · refine ⟨_, cap, hv, hl, .inr ⟨g, 0, rfl, (Array.getElem?_eq_some_iff.1 hg).1, fun i hi => ?_⟩⟩
    rw [cell_of_row w g _ cur 3 (0, 0) hg, Nat.zero_add]
    have hu : (il l)[i]? = some (.int .i64 (l.getD i 0)) := by simp [il, List.getD, hi]
    rw [← ht, List.getElem?_take] at hu
    split at hu
    · simpa using hu
    · cases hu
theorem ints_nil (w : World) : IntsAt w (.slice none 0 0) [] := ⟨none, 0, rfl, by simp, .inl rfl⟩
/-- What OfAck answers. -/
def ofAckV (l : List Nat) : Int × List Int × Int :=
  if (numV l).2 ≠ 0 then (0, [], (numV l).2) else if l.length = 2 then (0, [], 4) else if 10 < l.length then (0, [], 6)
  else if (l.drop 2).all (fun c => codeB c) then ((numV l).1, (l.drop 2).map fun c : Nat => (c : Int), 0) else (0, [], 5)
def OfAckP (r : Int × List Int × Int) (w : World) (e : Ending) (w' : World) : Prop := ∃ v, e = .returned (.tuple #[.int .i64 r.1, v, .int .i64 r.2.2]) ∧ (IntsAt w' v r.2.1 ∧ Fresh w.heap.size v) ∧ Below w.heap.size w w'
theorem info3 : (Tryd.prog.info? 3).map (fun i => (i.zero, i.size, i.bytes)) = some (some (.int .i64 0), 1, 8) := by kernel_rfl
theorem numV_ok {l : List Nat} (h : (numV l).2 = 0) (h256 : ∀ x ∈ l, x < 256) : 2 ≤ l.length ∧ 1 ≤ (numV l).1 ∧ (numV l).1 ≤ 65535 := by
  unfold numV at *
  by_cases a : l.length < 2
  · rw [if_pos a] at h; cases h
  rw [if_neg a] at *
  by_cases b : 256 * l.getD 0 0 + l.getD 1 0 = 0
  · rw [if_pos b] at h; cases h
  rw [if_neg b]
  have g : ∀ i, i < l.length → l.getD i 0 < 256 := fun i hi => h256 _ (by simp [List.getD, hi])
  have g0 := g 0 (by omega)
  have g1 := g 1 (by omega)
  simp only
  omega
/-- What OfAck's round holds: the numbers so far. -/
def HI (w : World) (B : Nat) (L : List Int) (v : Value) (wr : World) : Prop := wr.ownsRow B 3 1 v L.length (il L) ∧ Below w.heap.size w wr
theorem drop_all {l : List Nat} {k : Nat} (h : ∀ g ∈ (l.drop 2).take k, codeB (g : Nat) = true) (c : Nat) (hk : k < (l.drop 2).length) (hc : (l.drop 2).getD k 0 = c) (hco : codeB (c : Nat) = true) :
    (∀ g ∈ (l.drop 2).take (k + 1), codeB (g : Nat) = true) ∧ ((l.drop 2).take (k + 1)).map (fun c : Nat => (c : Int)) = ((l.drop 2).take k).map (fun c : Nat => (c : Int)) ++ [(c : Int)] := by
  have e : (l.drop 2).take (k + 1) = (l.drop 2).take k ++ [c] := by
    rw [List.take_succ_eq_append_getElem hk, ← hc]
    have : k < (l.drop 2).length := hk
    simp only [List.getD, List.getElem?_eq_getElem this, Option.getD_some]
  rw [e]
  refine ⟨fun g hg => ?_, by simp⟩
  rcases List.mem_append.1 hg with hg | hg
  · exact h g hg
  · rw [List.mem_singleton.1 hg]; exact hco
set_option maxHeartbeats 4000000 in
set_option maxRecDepth 100000 in
theorem ofack17_any (s : ByteArray) (w : World) (hs : s.size ≤ 140737488351232) : Calls Tryd.prog 36 #[.string s] w (OfAckP (ofAckV (txtL s)) w) := by
  obtain ⟨v, w1, hconv, a1, b1⟩ := bytes_of s w
  have hl := txtL_length s
  have h256 := txt_lt s
  generalize txtL s = l at *
  have hl' : l.length ≤ 140737488351232 := by omega
  replace hl := Lib.hid hl
  have NB := Lib.hid (number_any v l w1 a1 h256 (by omega))
  have A1 := Lib.hid a1
  obtain ⟨a, cap, rfl, ⟨hcap, -⟩, hc⟩ := a1
  replace b1 := Lib.hid b1
  have hm : (l.length : Int) ≤ 140737488351232 := by omega
  by_cases hn : (numV l).2 = 0
  · obtain ⟨h2, hn1, hn2⟩ := numV_ok hn h256
    have BG := Lib.hid (fun w => begin_any (numV l).1 ((l.length : Int) - 2) w (by omega) (by omega))
    by_cases hlen : 2 < l.length ∧ l.length ≤ 10
    · have e0 : beginE (numV l).1 ((l.length : Int) - 2) = 0 := by unfold beginE; rw [if_neg (by omega), if_neg (by omega), if_neg (by omega)]
      have eV : ofAckV l = if (l.drop 2).all (fun c => codeB c) then ((numV l).1, (l.drop 2).map fun c : Nat => (c : Int), 0) else (0, [], 5) := by
        unfold ofAckV; rw [if_neg (by simpa using hn), if_neg (by omega), if_neg (by omega)]
      rw [e0] at BG
      unfold Num2 at NB
      rw [hn] at NB
      generalize (numV l).1 = id at *
      generalize ofAckV l = V at *
      replace eV := Lib.hid eV
      replace e0 := Lib.hid e0
      replace hn := Lib.hid hn
      replace h256 := Lib.hid h256
      obtain ⟨b, o, rfl, hbl, hcell⟩ : ∃ b o, a = some ⟨b, o, none⟩ ∧ b < w1.heap.size ∧ ∀ i, i < l.length → w1.cell? ⟨b, o + i, none⟩ = some (.int .u8 ((l.getD i 0 : Nat) : Int)) := by
        rcases hc with h0 | h0
        · subst h0; simp at h2
        · exact h0
      obtain ⟨hl3, hl10⟩ := hlen
      have hi3 : 3 ≤ (l.length : Int) := by omega
      have hi10 : (l.length : Int) ≤ 10 := by omega
      replace hcell := Lib.hid hcell
      clear hc
      obtain ⟨i3, hi, hz0, hz1, hz2⟩ := info_parts info3
      replace hi := Lib.hid hi
      replace hz0 := Lib.hid hz0
      replace hz1 := Lib.hid hz1
      replace hz2 := Lib.hid hz2
      go_enter Tryd.func36, Tryd.ntmps36
      go_wp2_with fail
      refine NB.out.mono ?_
      rintro e w2 ⟨rfl, b2⟩
      have B2 := Lib.hid (ext_trans b1.out b2)
      replace b2 := Lib.hid b2
      go_wp2_with fail
      refine (BG.out _).mono ?_
      rintro e w3 ⟨v3, rfl, -, b3⟩
      have B3 := Lib.hid (ext_trans B2.out b3)
      have b3' := Lib.hid (b2.out.trans (b3.mono b2.out.size))
      clear b3
      go_wp2_with fail
      go_loopw [8, 34] (fun c i wr => ∃ k : Nat, i = .int .i64 k ∧ k ≤ l.length - 2 ∧ (∀ g ∈ (l.drop 2).take k, codeB (g : Nat) = true) ∧ wr.ownsRow w1.heap.size 3 1 c k (il (((l.drop 2).take k).map fun c : Nat => (c : Int))) ∧ Below w1.heap.size w1 wr) (fun _ i _ => l.length - (intOf i).toNat)
      case atStart => exact ⟨0, rfl, by omega, by simp, by simpa [il] using World.ownsRow_nil _ _ _ _, b3'.out⟩
      case round =>
        obtain ⟨k, rfl, hk, hall, hown, hb1⟩ := hrel
        replace hall := Lib.hid hall
        replace hb1 := Lib.hid hb1
        have hbw := Lib.hid (b1.out.trans (hb1.out.mono b1.out.size))
        by_cases hend : k = l.length - 2
        · subst hend
          have hdl : (l.drop 2).length = l.length - 2 := by simp
          have htk : (l.drop 2).take (l.length - 2) = l.drop 2 := by rw [← hdl, List.take_length]
          rw [htk] at hown hall
          have hA : (l.drop 2).all (fun c => codeB c) = true := List.all_eq_true.2 hall.out
          have eV' := eV.out
          rw [if_pos hA] at eV'
          have hI : IntsAt wr u8 ((l.drop 2).map fun c : Nat => (c : Int)) ∧ Fresh w.heap.size u8 := ⟨IntsAt.of_own (by rw [List.length_map, hdl]; exact hown) (by rw [List.length_map, hdl]; omega), fresh_own hown (by first | exact b1.out.size | exact B1.out.size | exact B2.out.size | omega)⟩
          replace eV' := Lib.hid eV'
          replace hI := Lib.hid hI
          replace hA := Lib.hid hA
          clear hown htk hdl hall
          go_wp2_with fail
          go_ret3
          exact ⟨_, by rw [eV'.out]; rfl, by rw [eV'.out]; exact hI.out, hbw.out⟩
        have klt : k < l.length - 2 := by omega
        have klt' : (k : Int) < ((l.length - 2 : Nat) : Int) := by omega
        have hkd : k < (l.drop 2).length := by rw [List.length_drop]; omega
        have q0 : wr.cell? ⟨b, o + 2 + k, none⟩ = some (.int .u8 ((l.getD (2 + k) 0 : Nat) : Int)) := by
          rw [hb1.out.cell (by simpa using hbl), Nat.add_assoc]; exact hcell.out (2 + k) (by omega)
        have hgd : (l.drop 2).getD k 0 = l.getD (2 + k) 0 := by simp [List.getD, List.getElem?_drop]
        have hc256 : l.getD (2 + k) 0 < 256 := h256.out _ (by simp [List.getD, show 2 + k < l.length by omega])
        generalize l.getD (2 + k) 0 = c at *
        have hci : (c : Int) < 256 := by omega
        have CD := Lib.hid fun w => code_any 68 (.inl rfl) (c : Int) w
        have lt10 : ((l.drop 2).take k).length = k := by rw [List.length_take, List.length_drop]; omega
        by_cases hco : codeB (c : Nat) = true
        · obtain ⟨hall2, hj⟩ := drop_all hall.out c hkd hgd hco
          rw [hco] at CD
          have hj2 : il (((l.drop 2).take (k + 1)).map fun c : Nat => (c : Int)) = il (((l.drop 2).take k).map fun c : Nat => (c : Int)) ++ [.int .i64 (c : Int)] := by rw [hj]; simp [il]
          replace hj2 := Lib.hid hj2
          replace hall2 := Lib.hid hall2
          replace hj := Lib.hid hj
          replace hco := Lib.hid hco
          replace hgd := Lib.hid hgd
          replace lt10 := Lib.hid lt10
          have own0 := Lib.hid hown
          clear hown
          have zr : w1.heap.size ≤ wr.heap.size := hb1.out.size
          go_wp2_with (first | (go_at_call 68; refine (CD.out _).mono ?_; rintro e w' ⟨rfl, rfl⟩) | (at_builtin; (refine wpList_append_own_at _ rfl (.tmp 42) (.tmp 45) 31 rfl w1.heap.size 3 i3 (.int .i64 0) 1 8 Tryd.underlying31 hi.out hz0.out hz1.out hz2.out rfl (by decide) u8 k _ rfl (own0.out.alloc _) ⟨wr.heap.size, 0, none⟩ 1 1 [.int .i64 (c : Int)] rfl rfl (cell_one_new _ _ _) (by intro u hu; simp at hu; subst hu; rfl) (by unfold maxLen; omega) (by omega) (by simp; omega) ?_); intro v4 w4 o4 g4 n4 nb4; clear n4 nb4; have B4 := Lib.hid ((hb1.out.trans ((ext_alloc wr (.cells #[.int .i64 (c : Int)] 3)).mono hb1.out.size)).trans (grown_ext (own0.out.alloc _) g4 (by have := hb1.out.size; simp; omega))); clear g4; replace o4 := Lib.hid o4))
          go_roundw
          case rel => exact ⟨k + 1, by simp, by omega, hall2.out, by rw [hj2.out]; exact o4.out, B4.out⟩
          case measure => simp [intOf]; omega
        · have hco' : codeB (c : Nat) = false := by simpa using hco
          have hmem : c ∈ l.drop 2 := by rw [← hgd]; simp only [List.getD, List.getElem?_eq_getElem hkd, Option.getD_some]; exact List.getElem_mem _
          have hA : (l.drop 2).all (fun c => codeB c) = false := by
            rw [List.all_eq_false]; exact ⟨c, hmem, by simpa using hco⟩
          have eV' := eV.out
          rw [hA, if_neg (by simp)] at eV'
          rw [hco'] at CD
          replace eV' := Lib.hid eV'
          replace hA := Lib.hid hA
          replace hco := Lib.hid hco
          replace hco' := Lib.hid hco'
          replace hgd := Lib.hid hgd
          replace lt10 := Lib.hid lt10
          clear hown hmem
          go_wp2_with (go_at_call 68; refine (CD.out _).mono ?_; rintro e w' ⟨rfl, rfl⟩)
          go_ret3
          exact ⟨_, by rw [eV'.out]; rfl, by rw [eV'.out]; exact ⟨ints_nil _, fresh_nil _⟩, hbw.out⟩
    · have e0 : beginE (numV l).1 ((l.length : Int) - 2) = (if l.length = 2 then 4 else 6) ∧ ofAckV l = (0, [], if l.length = 2 then 4 else 6) := by
        unfold beginE ofAckV
        rw [if_neg (by omega), if_neg (show ¬ (numV l).2 ≠ 0 by simpa using hn)]
        by_cases h22 : l.length = 2
        · rw [if_pos (by omega), if_pos h22, if_pos h22]; exact ⟨rfl, rfl⟩
        · rw [if_neg (by omega), if_neg h22, if_neg h22, if_pos (by omega), if_pos (by omega)]; exact ⟨rfl, rfl⟩
      obtain ⟨e0, eV⟩ := e0
      rw [e0] at BG
      rw [eV]
      unfold Num2 at NB
      rw [hn] at NB
      generalize (numV l).1 = id at *
      have hE : (if l.length = 2 then (4 : Int) else 6) = 4 ∨ (if l.length = 2 then (4 : Int) else 6) = 6 := by split <;> simp
      generalize (if l.length = 2 then (4 : Int) else 6) = E at *
      replace e0 := Lib.hid e0
      replace eV := Lib.hid eV
      replace hn := Lib.hid hn
      replace h256 := Lib.hid h256
      replace hc := Lib.hid hc
      have hi3 : 2 ≤ (l.length : Int) := by omega
      clear hlen
      rcases hE with rfl | rfl
      all_goals
        go_enter Tryd.func36, Tryd.ntmps36
        go_wp2_with fail
        refine NB.out.mono ?_
        rintro e w2 ⟨rfl, b2⟩
        have B2 := Lib.hid (ext_trans b1.out b2)
        replace b2 := Lib.hid b2
        go_wp2_with fail
        refine (BG.out _).mono ?_
        rintro e w3 ⟨v3, rfl, -, b3⟩
        have B3 := Lib.hid (ext_trans B2.out b3)
        clear b3
        go_wp2_with fail
        go_ret3
        exact ⟨_, rfl, ⟨ints_nil _, fresh_nil _⟩, B3.out⟩
  · have eV : ofAckV l = (0, [], (numV l).2) := by unfold ofAckV; rw [if_pos hn]
    rw [eV]
    unfold Num2 at NB
    have hd : ((numV l).2 == 0) = false := by rw [beq_eq_false_iff_ne]; exact hn
    have hd2 : ((numV l).2 != 0) = true := by simpa using hn
    generalize (numV l).2 = E at *
    generalize (numV l).1 = id at *
    replace eV := Lib.hid eV
    replace hn := Lib.hid hn
    replace h256 := Lib.hid h256
    replace hc := Lib.hid hc
    go_enter Tryd.func36, Tryd.ntmps36
    go_wp2_with fail
    refine NB.out.mono ?_
    rintro e w2 ⟨rfl, b2⟩
    have B2 := Lib.hid (ext_trans b1.out b2)
    replace b2 := Lib.hid b2
    go_wp2_with fail
    go_ret3
    exact ⟨_, rfl, ⟨ints_nil _, fresh_nil _⟩, B2.out⟩
end Go.Proofs.YtmpklaokgogigaaDoor
