/-
  LAYER 20: Put: the program's.
-/
import Derived.Test.YtbmelmmefgehoaaDoorWe
namespace Go.Proofs.YtbmelmmefgehoaaDoor
open Go.RowKit

theorem parts_any (k : Nat) (hk : k < 10) (G N D : ByteArray) (w : World) (ht : Tabs w) : Calls Tryd.prog 19 #[.agg #[.int .i64 (k : Int), .string G, .string N, .string D]] w (StrsIs (partsL (gB' k) (dB k) G N D) w) := by
  have HG := fun w h => hasg_any k hk w h
  have HD := fun w h => hasd_any k hk w h
  have himp : dB k = true → gB' k = true := by unfold dB gB'; simp; omega
  generalize gB' k = g at *
  generalize dB k = d at *
  cases g with
  | false =>
    cases d with
    | false => exact parts_00 k G N D w ht HG HD
    | true => exact absurd (himp rfl) (by simp)
  | true =>
    cases d with
    | false => exact parts_10 k G N D w ht HG HD
    | true => exact parts_11 k G N D w ht HG HD
theorem levels_any (k : Nat) (hk : k < 10) (G N D : ByteArray) (w : World) (ht : Tabs w) : Calls Tryd.prog 22 #[.agg #[.int .i64 (k : Int), .string G, .string N, .string D]] w (StrsIs (levelsL k G N D) w) := by
  have HD := fun w h => hasd_any k hk w h
  unfold levelsL
  by_cases h9 : k = 9
  · rw [if_pos h9]; subst h9; exact lev_state G N D w
  · rw [if_neg h9]
    generalize dB k = d at *
    cases d with
    | false => exact lev_0 k h9 G N D w ht HD
    | true => exact lev_1 k h9 G N D w ht HD
def badForm (k : Nat) (G D : ByteArray) : Bool := (!dB k && decide (D ≠ ⟨#[]⟩)) || (!gB' k && decide (G ≠ ⟨#[]⟩))
def goodParts (k : Nat) (G N D : ByteArray) : Bool := (partsL (gB' k) (dB k) G N D).all partB
def topicB (k : Nat) (G N D : ByteArray) : ByteArray := joinB (levelsL k G N D)
/-- What Put answers. -/
def putN (k : Nat) (G N D : ByteArray) : ByteArray × Int :=
  if badForm k G D = true then (⟨#[]⟩, 4)
  else if goodParts k G N D = false then (⟨#[]⟩, 13)
  else if nameB (topicB k G N D) = false then (⟨#[]⟩, 13)
  else (topicB k G N D, 0)
def putB (K : Int) (G N D : ByteArray) : ByteArray × Int := if isk K = true then putN K.toNat G N D else (⟨#[]⟩, 11)
def PutIs (r : ByteArray × Int) (w : World) (e : Ending) (w' : World) : Prop := e = .returned (.tuple #[.string r.1, .int .i64 r.2]) ∧ Below w.heap.size w w'
theorem name_small {s : ByteArray} (h : nameB s = true) : s.size ≤ 96 := by
  unfold nameB fitsB at h
  simp only [Bool.and_eq_true, decide_eq_true_eq] at h
  exact h.1.2.1
theorem part_small {s : ByteArray} (h : partB s = true) : s.size ≤ 96 := by
  unfold partB at h
  simp only [Bool.and_eq_true] at h
  exact name_small h.1
theorem word_small (k : Nat) (hk : k < 10) : (wordI k).size ≤ 6 := by
  unfold wordI
  split
  · show (word k).size ≤ 6
    match k, hk with
    | 0, _ => exact (by decide : (word 0).size ≤ 6)
    | 1, _ => exact (by decide : (word 1).size ≤ 6)
    | 2, _ => exact (by decide : (word 2).size ≤ 6)
    | 3, _ => exact (by decide : (word 3).size ≤ 6)
    | 4, _ => exact (by decide : (word 4).size ≤ 6)
    | 5, _ => exact (by decide : (word 5).size ≤ 6)
    | 6, _ => exact (by decide : (word 6).size ≤ 6)
    | 7, _ => exact (by decide : (word 7).size ≤ 6)
    | 8, _ => exact (by decide : (word 8).size ≤ 6)
    | 9, _ => exact (by decide : (word 9).size ≤ 6)
  · decide
theorem ne_empty {x : ByteArray} (h : x ≠ ⟨#[]⟩) : (x.toList == []) = false := by
  have := ne_bytes h
  simpa [ByteArray.toList_eq] using this
set_option maxHeartbeats 1000000 in
set_option maxRecDepth 100000 in
theorem put_kind (K : Int) (G N D : ByteArray) (w : World) (hK : isk K = false) : Calls Tryd.prog 7 #[.agg #[.int .i64 K, .string G, .string N, .string D]] w (PutIs (⟨#[]⟩, 11) w) := by
  have I := fun w => isk_any K w
  rw [hK] at I
  replace I := Lib.hid I
  replace hK := Lib.hid hK
  go_enter Tryd.func7, Tryd.ntmps7
  go_wp2_with fail
  refine (I.out _).mono ?_
  rintro e w1 ⟨rfl, rfl⟩
  go_wp2_with fail
  go_ret2
  exact ⟨rfl, ext_alloc _ _⟩
theorem joi_sz : ∀ ss : List ByteArray, ss.length ≤ 5 → (∀ x ∈ ss, x.size ≤ 96) → (joi (ss.map (·.data.toList))).length ≤ 97 * ss.length
  | [], _, _ => by simp [joi]
  | [x], _, h => by
    have := h x (by simp)
    have h2 : x.data.toList.length = x.size := Array.length_toList
    simp only [List.map_cons, List.map_nil, joi, List.length_cons, List.length_nil]
    omega
  | x :: y :: l, hl, h => by
    have ih := joi_sz (y :: l) (by simp at hl ⊢; omega) (fun z hz => h z (by simp at hz ⊢; exact .inr hz))
    have := h x (by simp)
    have h2 : x.data.toList.length = x.size := Array.length_toList
    simp only [List.map_cons, joi, List.length_append, List.length_cons, List.length_nil] at ih ⊢
    omega
theorem lev_small (k : Nat) (hk : k < 10) (G N D : ByteArray) (hD : dB k = true ∨ D = ⟨#[]⟩) (hG : gB' k = true ∨ G = ⟨#[]⟩) (hg : goodParts k G N D = true) : (topicB k G N D).size ≤ 1048576 ∧ (joi ((levelsL k G N D).map (·.data.toList))).length ≤ 8388608 := by
  have hall : ∀ x ∈ levelsL k G N D, x.size ≤ 96 := by
    unfold goodParts at hg
    rw [List.all_eq_true] at hg
    have hN : N.size ≤ 96 := part_small (hg N (by unfold partsL; simp))
    have hG' : G.size ≤ 96 := by
      rcases hG with h | rfl
      · exact part_small (hg G (by unfold partsL; simp [h]))
      · decide
    have hD' : D.size ≤ 96 := by
      rcases hD with h | rfl
      · exact part_small (hg D (by unfold partsL; simp [h]))
      · decide
    have hw := word_small k hk
    have f1 : fst'.size ≤ 96 := by decide
    have f2 : state'.size ≤ 96 := by decide
    intro x hx
    unfold levelsL at hx
    split at hx
    · simp only [List.mem_cons, List.not_mem_nil, or_false] at hx
      rcases hx with rfl | rfl | rfl <;> omega
    · simp only [List.mem_append, List.mem_cons, List.not_mem_nil, or_false] at hx
      rcases hx with (rfl | rfl | rfl | rfl) | hx
      · omega
      · omega
      · omega
      · omega
      · split at hx
        · simp at hx; subst hx; omega
        · simp at hx
  have hl : (levelsL k G N D).length ≤ 5 := by unfold levelsL; split <;> simp <;> split <;> simp
  have := joi_sz _ hl hall
  refine ⟨?_, by omega⟩
  unfold topicB joinB
  rw [bs_size]; omega
set_option maxHeartbeats 2000000 in
set_option maxRecDepth 100000 in
theorem put_00 (k : Nat) (N : ByteArray) (w : World) (ht : Tabs w) (pl ll : List ByteArray) (top : ByteArray) (good : Bool)
    (I : ∀ w, Calls Tryd.prog 16 #[.int .i64 (k : Int)] w (Same (.bool true) w)) (HD : ∀ w, Tabs w → Calls Tryd.prog 17 #[.int .i64 (k : Int)] w (Same (.bool false) w)) (HG : ∀ w, Tabs w → Calls Tryd.prog 18 #[.int .i64 (k : Int)] w (Same (.bool false) w))
    (PA : ∀ w, Tabs w → Calls Tryd.prog 19 #[.agg #[.int .i64 (k : Int), .string ⟨#[]⟩, .string N, .string ⟨#[]⟩]] w (StrsIs pl w)) (LV : ∀ w, Tabs w → Calls Tryd.prog 22 #[.agg #[.int .i64 (k : Int), .string ⟨#[]⟩, .string N, .string ⟨#[]⟩]] w (StrsIs ll w))
    (hpl : ∀ x ∈ pl, x.size ≤ 1048576) (hpn : 1 ≤ pl.length) (hpm : pl.length ≤ 3) (hgood : good = pl.all partB) (hlv : good = true → top.size ≤ 1048576 ∧ (joi (ll.map (·.data.toList))).length ≤ 8388608) (hl1 : 1 ≤ ll.length) (hl8 : ll.length ≤ 8) (TB : joinB ll = top) :
    Calls Tryd.prog 7 #[.agg #[.int .i64 (k : Int), .string ⟨#[]⟩, .string N, .string ⟨#[]⟩]] w (PutIs (if good = false then (⟨#[]⟩, 13) else if nameB top = false then (⟨#[]⟩, 13) else (top, 0)) w) := by
  have b0 := ext_alloc w (.cells #[.int .i64 (k : Int), .string ⟨#[]⟩, .string N, .string ⟨#[]⟩] 23)
  have t0 := Lib.hid (ht.keep b0)
  have s0 := Lib.hid (SpotAt.new w k ⟨#[]⟩ N ⟨#[]⟩)
  have z0 : (w.alloc (.cells #[.int .i64 (k : Int), .string ⟨#[]⟩, .string N, .string ⟨#[]⟩] 23)).heap.size = w.heap.size + 1 := by simp
  replace z0 := Lib.hid z0
  replace b0 := Lib.hid b0
  replace I := Lib.hid I
  replace HD := Lib.hid HD
  replace HG := Lib.hid HG
  replace PA := Lib.hid PA
  replace LV := Lib.hid LV
  replace hpl := Lib.hid hpl
  replace hgood := Lib.hid hgood
  replace hlv := Lib.hid hlv
  replace TB := Lib.hid TB
  have hpm' : (pl.length : Int) ≤ 3 := by omega
  clear ht
  generalize hr : (if good = false then ((⟨#[]⟩ : ByteArray), (13 : Int)) else if nameB top = false then (⟨#[]⟩, 13) else (top, 0)) = r
  replace hr := Lib.hid hr
  go_enter Tryd.func7, Tryd.ntmps7
  go_wp2_with fail
  refine (I.out _).mono ?_
  rintro e w1 ⟨rfl, rfl⟩
  go_wp2_with fail
  refine (HD.out _ t0.out).mono ?_
  rintro e w1 ⟨rfl, rfl⟩
  go_wp2_with fail
  refine (HG.out _ t0.out).mono ?_
  rintro e w1 ⟨rfl, rfl⟩
  go_wp2_with fail
  refine (PA.out _ t0.out).mono ?_
  rintro e w1 ⟨v1, rfl, own1, b1⟩
  have s1 := s0.out.keep b1 (by simp)
  have t1 := Lib.hid (t0.out.keep b1)
  obtain ⟨g1, c1, rfl, -, hg1, -, hc1⟩ := own_cells own1 (by omega)
  have z1 : w.heap.size + 1 ≤ w1.heap.size := by have := b1.size; rw [z0.out] at this; exact this
  have B1 := Lib.hid (b0.out.trans (b1.mono (by rw [z0.out]; omega)))
  replace s1 := Lib.hid s1
  replace hc1 := Lib.hid hc1
  clear own1 b1 t0 s0 b0 z0
  go_wp2_with fail
  go_loopw [34] (fun i wr => ∃ n : Nat, i = .int .i64 n ∧ n ≤ pl.length ∧ (pl.take n).all partB = true ∧ Below w1.heap.size w1 wr) (fun i _ => pl.length - (intOf i).toNat)
  case atStart => exact ⟨0, rfl, by omega, by simp, Below.refl _ _⟩
  case round =>
    obtain ⟨n, rfl, hn, hall, hb⟩ := hrel
    have zr := hb.size
    have sr := s1.out.keep hb (by omega)
    have c0 := sr.1
    have c1' := sr.2.1
    have c2 := sr.2.2.1
    have c3 := sr.2.2.2
    have tr := Lib.hid (t1.out.keep hb)
    have Br := Lib.hid (B1.out.trans (hb.mono (by omega)))
    have hn' : (n : Int) ≤ pl.length := by omega
    by_cases hend : n = pl.length
    · subst hend
      rw [List.take_length] at hall
      have hgt : good = true := by rw [hgood.out, hall]
      have hs := hlv.out hgt
      have NM := fun w => nam_any top w hs.1
      replace hall := Lib.hid hall
      replace hgt := Lib.hid hgt
      replace hs := Lib.hid hs
      replace hb := Lib.hid hb
      clear hc1
      go_wp2_with fail
      refine (LV.out _ tr.out).mono ?_
      rintro e w2 ⟨v2, rfl, own2, b2⟩
      obtain ⟨g2, cc2, rfl, -, hg2, hcap2, hc2⟩ := own_cells own2 (by omega)
      have J := Lib.hid (join_any g2 cc2 ll w2 hl1 hcap2 hg2 hc2 hl8 hs.out.2)
      have B2 := Lib.hid (ext_trans Br.out b2)
      rw [TB.out] at J
      clear own2 hc2 b2
      generalize ll.length = nl at *
      go_wp2_with fail
      refine J.out.mono ?_
      rintro e w3 ⟨rfl, b3⟩
      have B3 := Lib.hid (ext_trans B2.out b3)
      clear b3
      cases hm : nameB top with
      | false =>
        rw [hm] at NM
        replace NM := Lib.hid NM
        replace hm := Lib.hid hm
        go_wp2_with fail
        refine (NM.out _).mono ?_
        rintro e w4 ⟨rfl, b4⟩
        go_wp2_with fail
        go_ret2
        exact ⟨by rw [← hr.out, hgt.out, hm.out]; rfl, ext_trans B3.out b4⟩
      | true =>
        rw [hm] at NM
        replace NM := Lib.hid NM
        replace hm := Lib.hid hm
        go_wp2_with fail
        refine (NM.out _).mono ?_
        rintro e w4 ⟨rfl, b4⟩
        go_wp2_with fail
        go_ret2
        exact ⟨by rw [← hr.out, hgt.out, hm.out]; rfl, ext_trans B3.out b4⟩
    · have nlt : n < pl.length := by omega
      have nlt' : (n : Int) < pl.length := by omega
      obtain ⟨x, hx⟩ : ∃ x, pl[n]? = some x := ⟨_, List.getElem?_eq_getElem nlt⟩
      have hxc := (hb.cell (by simpa using hg1)).trans (hc1.out n x hx)
      have PX := fun w => part_any x w (hpl.out x (List.mem_of_getElem? hx))
      have htk : (pl.take (n + 1)).all partB = partB x := by
        rw [List.take_add_one, hx, List.all_append, hall]; simp
      have hal : partB x = false → good = false := fun h => by
        rw [hgood.out, List.all_eq_false]
        exact ⟨x, List.mem_of_getElem? hx, by simp [h]⟩
      replace hall := Lib.hid hall
      replace hb := Lib.hid hb
      replace hx := Lib.hid hx
      replace hend := Lib.hid hend
      cases hp : partB x with
      | false =>
        have hgf := hal hp
        rw [hp] at PX
        replace PX := Lib.hid PX
        replace hgf := Lib.hid hgf
        replace hp := Lib.hid hp
        replace htk := Lib.hid htk
        clear hal
        go_wp2_with fail
        refine (PX.out _).mono ?_
        rintro e w4 ⟨rfl, b4⟩
        go_wp2_with fail
        go_ret2
        exact ⟨by rw [← hr.out, hgf.out]; rfl, ext_trans Br.out b4⟩
      | true =>
        rw [hp] at PX htk
        replace PX := Lib.hid PX
        replace hp := Lib.hid hp
        replace htk := Lib.hid htk
        clear hal
        go_wp2_with fail
        refine (PX.out _).mono ?_
        rintro e w4 ⟨rfl, b4⟩
        go_wp2_with fail
        go_roundw
        case rel => exact ⟨n + 1, by simp, by omega, htk.out, hb.out.trans (b4.mono (by omega))⟩
        case measure => simp [intOf]; omega
set_option maxHeartbeats 2000000 in
set_option maxRecDepth 100000 in
theorem put_01 (k : Nat) (G N : ByteArray) (w : World) (ht : Tabs w) (pl ll : List ByteArray) (top : ByteArray) (good : Bool)
    (I : ∀ w, Calls Tryd.prog 16 #[.int .i64 (k : Int)] w (Same (.bool true) w)) (HD : ∀ w, Tabs w → Calls Tryd.prog 17 #[.int .i64 (k : Int)] w (Same (.bool false) w)) (HG : ∀ w, Tabs w → Calls Tryd.prog 18 #[.int .i64 (k : Int)] w (Same (.bool true) w))
    (PA : ∀ w, Tabs w → Calls Tryd.prog 19 #[.agg #[.int .i64 (k : Int), .string G, .string N, .string ⟨#[]⟩]] w (StrsIs pl w)) (LV : ∀ w, Tabs w → Calls Tryd.prog 22 #[.agg #[.int .i64 (k : Int), .string G, .string N, .string ⟨#[]⟩]] w (StrsIs ll w))
    (hpl : ∀ x ∈ pl, x.size ≤ 1048576) (hpn : 1 ≤ pl.length) (hpm : pl.length ≤ 3) (hgood : good = pl.all partB) (hlv : good = true → top.size ≤ 1048576 ∧ (joi (ll.map (·.data.toList))).length ≤ 8388608) (hl1 : 1 ≤ ll.length) (hl8 : ll.length ≤ 8) (TB : joinB ll = top) :
    Calls Tryd.prog 7 #[.agg #[.int .i64 (k : Int), .string G, .string N, .string ⟨#[]⟩]] w (PutIs (if good = false then (⟨#[]⟩, 13) else if nameB top = false then (⟨#[]⟩, 13) else (top, 0)) w) := by
  have b0 := ext_alloc w (.cells #[.int .i64 (k : Int), .string G, .string N, .string ⟨#[]⟩] 23)
  have t0 := Lib.hid (ht.keep b0)
  have s0 := Lib.hid (SpotAt.new w k G N ⟨#[]⟩)
  have z0 : (w.alloc (.cells #[.int .i64 (k : Int), .string G, .string N, .string ⟨#[]⟩] 23)).heap.size = w.heap.size + 1 := by simp
  replace z0 := Lib.hid z0
  replace b0 := Lib.hid b0
  replace I := Lib.hid I
  replace HD := Lib.hid HD
  replace HG := Lib.hid HG
  replace PA := Lib.hid PA
  replace LV := Lib.hid LV
  replace hpl := Lib.hid hpl
  replace hgood := Lib.hid hgood
  replace hlv := Lib.hid hlv
  replace TB := Lib.hid TB
  have hpm' : (pl.length : Int) ≤ 3 := by omega
  clear ht
  generalize hr : (if good = false then ((⟨#[]⟩ : ByteArray), (13 : Int)) else if nameB top = false then (⟨#[]⟩, 13) else (top, 0)) = r
  replace hr := Lib.hid hr
  go_enter Tryd.func7, Tryd.ntmps7
  go_wp2_with fail
  refine (I.out _).mono ?_
  rintro e w1 ⟨rfl, rfl⟩
  go_wp2_with fail
  refine (HD.out _ t0.out).mono ?_
  rintro e w1 ⟨rfl, rfl⟩
  go_wp2_with fail
  refine (HG.out _ t0.out).mono ?_
  rintro e w1 ⟨rfl, rfl⟩
  go_wp2_with fail
  refine (PA.out _ t0.out).mono ?_
  rintro e w1 ⟨v1, rfl, own1, b1⟩
  have s1 := s0.out.keep b1 (by simp)
  have t1 := Lib.hid (t0.out.keep b1)
  obtain ⟨g1, c1, rfl, -, hg1, -, hc1⟩ := own_cells own1 (by omega)
  have z1 : w.heap.size + 1 ≤ w1.heap.size := by have := b1.size; rw [z0.out] at this; exact this
  have B1 := Lib.hid (b0.out.trans (b1.mono (by rw [z0.out]; omega)))
  replace s1 := Lib.hid s1
  replace hc1 := Lib.hid hc1
  clear own1 b1 t0 s0 b0 z0
  go_wp2_with fail
  go_loopw [34] (fun i wr => ∃ n : Nat, i = .int .i64 n ∧ n ≤ pl.length ∧ (pl.take n).all partB = true ∧ Below w1.heap.size w1 wr) (fun i _ => pl.length - (intOf i).toNat)
  case atStart => exact ⟨0, rfl, by omega, by simp, Below.refl _ _⟩
  case round =>
    obtain ⟨n, rfl, hn, hall, hb⟩ := hrel
    have zr := hb.size
    have sr := s1.out.keep hb (by omega)
    have c0 := sr.1
    have c1' := sr.2.1
    have c2 := sr.2.2.1
    have c3 := sr.2.2.2
    have tr := Lib.hid (t1.out.keep hb)
    have Br := Lib.hid (B1.out.trans (hb.mono (by omega)))
    have hn' : (n : Int) ≤ pl.length := by omega
    by_cases hend : n = pl.length
    · subst hend
      rw [List.take_length] at hall
      have hgt : good = true := by rw [hgood.out, hall]
      have hs := hlv.out hgt
      have NM := fun w => nam_any top w hs.1
      replace hall := Lib.hid hall
      replace hgt := Lib.hid hgt
      replace hs := Lib.hid hs
      replace hb := Lib.hid hb
      clear hc1
      go_wp2_with fail
      refine (LV.out _ tr.out).mono ?_
      rintro e w2 ⟨v2, rfl, own2, b2⟩
      obtain ⟨g2, cc2, rfl, -, hg2, hcap2, hc2⟩ := own_cells own2 (by omega)
      have J := Lib.hid (join_any g2 cc2 ll w2 hl1 hcap2 hg2 hc2 hl8 hs.out.2)
      have B2 := Lib.hid (ext_trans Br.out b2)
      rw [TB.out] at J
      clear own2 hc2 b2
      generalize ll.length = nl at *
      go_wp2_with fail
      refine J.out.mono ?_
      rintro e w3 ⟨rfl, b3⟩
      have B3 := Lib.hid (ext_trans B2.out b3)
      clear b3
      cases hm : nameB top with
      | false =>
        rw [hm] at NM
        replace NM := Lib.hid NM
        replace hm := Lib.hid hm
        go_wp2_with fail
        refine (NM.out _).mono ?_
        rintro e w4 ⟨rfl, b4⟩
        go_wp2_with fail
        go_ret2
        exact ⟨by rw [← hr.out, hgt.out, hm.out]; rfl, ext_trans B3.out b4⟩
      | true =>
        rw [hm] at NM
        replace NM := Lib.hid NM
        replace hm := Lib.hid hm
        go_wp2_with fail
        refine (NM.out _).mono ?_
        rintro e w4 ⟨rfl, b4⟩
        go_wp2_with fail
        go_ret2
        exact ⟨by rw [← hr.out, hgt.out, hm.out]; rfl, ext_trans B3.out b4⟩
    · have nlt : n < pl.length := by omega
      have nlt' : (n : Int) < pl.length := by omega
      obtain ⟨x, hx⟩ : ∃ x, pl[n]? = some x := ⟨_, List.getElem?_eq_getElem nlt⟩
      have hxc := (hb.cell (by simpa using hg1)).trans (hc1.out n x hx)
      have PX := fun w => part_any x w (hpl.out x (List.mem_of_getElem? hx))
      have htk : (pl.take (n + 1)).all partB = partB x := by
        rw [List.take_add_one, hx, List.all_append, hall]; simp
      have hal : partB x = false → good = false := fun h => by
        rw [hgood.out, List.all_eq_false]
        exact ⟨x, List.mem_of_getElem? hx, by simp [h]⟩
      replace hall := Lib.hid hall
      replace hb := Lib.hid hb
      replace hx := Lib.hid hx
      replace hend := Lib.hid hend
      cases hp : partB x with
      | false =>
        have hgf := hal hp
        rw [hp] at PX
        replace PX := Lib.hid PX
        replace hgf := Lib.hid hgf
        replace hp := Lib.hid hp
        replace htk := Lib.hid htk
        clear hal
        go_wp2_with fail
        refine (PX.out _).mono ?_
        rintro e w4 ⟨rfl, b4⟩
        go_wp2_with fail
        go_ret2
        exact ⟨by rw [← hr.out, hgf.out]; rfl, ext_trans Br.out b4⟩
      | true =>
        rw [hp] at PX htk
        replace PX := Lib.hid PX
        replace hp := Lib.hid hp
        replace htk := Lib.hid htk
        clear hal
        go_wp2_with fail
        refine (PX.out _).mono ?_
        rintro e w4 ⟨rfl, b4⟩
        go_wp2_with fail
        go_roundw
        case rel => exact ⟨n + 1, by simp, by omega, htk.out, hb.out.trans (b4.mono (by omega))⟩
        case measure => simp [intOf]; omega
set_option maxHeartbeats 2000000 in
set_option maxRecDepth 100000 in
theorem put_11 (k : Nat) (G N D : ByteArray) (w : World) (ht : Tabs w) (pl ll : List ByteArray) (top : ByteArray) (good : Bool)
    (I : ∀ w, Calls Tryd.prog 16 #[.int .i64 (k : Int)] w (Same (.bool true) w)) (HD : ∀ w, Tabs w → Calls Tryd.prog 17 #[.int .i64 (k : Int)] w (Same (.bool true) w)) (HG : ∀ w, Tabs w → Calls Tryd.prog 18 #[.int .i64 (k : Int)] w (Same (.bool true) w))
    (PA : ∀ w, Tabs w → Calls Tryd.prog 19 #[.agg #[.int .i64 (k : Int), .string G, .string N, .string D]] w (StrsIs pl w)) (LV : ∀ w, Tabs w → Calls Tryd.prog 22 #[.agg #[.int .i64 (k : Int), .string G, .string N, .string D]] w (StrsIs ll w))
    (hpl : ∀ x ∈ pl, x.size ≤ 1048576) (hpn : 1 ≤ pl.length) (hpm : pl.length ≤ 3) (hgood : good = pl.all partB) (hlv : good = true → top.size ≤ 1048576 ∧ (joi (ll.map (·.data.toList))).length ≤ 8388608) (hl1 : 1 ≤ ll.length) (hl8 : ll.length ≤ 8) (TB : joinB ll = top) :
    Calls Tryd.prog 7 #[.agg #[.int .i64 (k : Int), .string G, .string N, .string D]] w (PutIs (if good = false then (⟨#[]⟩, 13) else if nameB top = false then (⟨#[]⟩, 13) else (top, 0)) w) := by
  have b0 := ext_alloc w (.cells #[.int .i64 (k : Int), .string G, .string N, .string D] 23)
  have t0 := Lib.hid (ht.keep b0)
  have s0 := Lib.hid (SpotAt.new w k G N D)
  have z0 : (w.alloc (.cells #[.int .i64 (k : Int), .string G, .string N, .string D] 23)).heap.size = w.heap.size + 1 := by simp
  replace z0 := Lib.hid z0
  replace b0 := Lib.hid b0
  replace I := Lib.hid I
  replace HD := Lib.hid HD
  replace HG := Lib.hid HG
  replace PA := Lib.hid PA
  replace LV := Lib.hid LV
  replace hpl := Lib.hid hpl
  replace hgood := Lib.hid hgood
  replace hlv := Lib.hid hlv
  replace TB := Lib.hid TB
  have hpm' : (pl.length : Int) ≤ 3 := by omega
  clear ht
  generalize hr : (if good = false then ((⟨#[]⟩ : ByteArray), (13 : Int)) else if nameB top = false then (⟨#[]⟩, 13) else (top, 0)) = r
  replace hr := Lib.hid hr
  go_enter Tryd.func7, Tryd.ntmps7
  go_wp2_with fail
  refine (I.out _).mono ?_
  rintro e w1 ⟨rfl, rfl⟩
  go_wp2_with fail
  refine (HD.out _ t0.out).mono ?_
  rintro e w1 ⟨rfl, rfl⟩
  go_wp2_with fail
  refine (HG.out _ t0.out).mono ?_
  rintro e w1 ⟨rfl, rfl⟩
  go_wp2_with fail
  refine (PA.out _ t0.out).mono ?_
  rintro e w1 ⟨v1, rfl, own1, b1⟩
  have s1 := s0.out.keep b1 (by simp)
  have t1 := Lib.hid (t0.out.keep b1)
  obtain ⟨g1, c1, rfl, -, hg1, -, hc1⟩ := own_cells own1 (by omega)
  have z1 : w.heap.size + 1 ≤ w1.heap.size := by have := b1.size; rw [z0.out] at this; exact this
  have B1 := Lib.hid (b0.out.trans (b1.mono (by rw [z0.out]; omega)))
  replace s1 := Lib.hid s1
  replace hc1 := Lib.hid hc1
  clear own1 b1 t0 s0 b0 z0
  go_wp2_with fail
  go_loopw [34] (fun i wr => ∃ n : Nat, i = .int .i64 n ∧ n ≤ pl.length ∧ (pl.take n).all partB = true ∧ Below w1.heap.size w1 wr) (fun i _ => pl.length - (intOf i).toNat)
  case atStart => exact ⟨0, rfl, by omega, by simp, Below.refl _ _⟩
  case round =>
    obtain ⟨n, rfl, hn, hall, hb⟩ := hrel
    have zr := hb.size
    have sr := s1.out.keep hb (by omega)
    have c0 := sr.1
    have c1' := sr.2.1
    have c2 := sr.2.2.1
    have c3 := sr.2.2.2
    have tr := Lib.hid (t1.out.keep hb)
    have Br := Lib.hid (B1.out.trans (hb.mono (by omega)))
    have hn' : (n : Int) ≤ pl.length := by omega
    by_cases hend : n = pl.length
    · subst hend
      rw [List.take_length] at hall
      have hgt : good = true := by rw [hgood.out, hall]
      have hs := hlv.out hgt
      have NM := fun w => nam_any top w hs.1
      replace hall := Lib.hid hall
      replace hgt := Lib.hid hgt
      replace hs := Lib.hid hs
      replace hb := Lib.hid hb
      clear hc1
      go_wp2_with fail
      refine (LV.out _ tr.out).mono ?_
      rintro e w2 ⟨v2, rfl, own2, b2⟩
      obtain ⟨g2, cc2, rfl, -, hg2, hcap2, hc2⟩ := own_cells own2 (by omega)
      have J := Lib.hid (join_any g2 cc2 ll w2 hl1 hcap2 hg2 hc2 hl8 hs.out.2)
      have B2 := Lib.hid (ext_trans Br.out b2)
      rw [TB.out] at J
      clear own2 hc2 b2
      generalize ll.length = nl at *
      go_wp2_with fail
      refine J.out.mono ?_
      rintro e w3 ⟨rfl, b3⟩
      have B3 := Lib.hid (ext_trans B2.out b3)
      clear b3
      cases hm : nameB top with
      | false =>
        rw [hm] at NM
        replace NM := Lib.hid NM
        replace hm := Lib.hid hm
        go_wp2_with fail
        refine (NM.out _).mono ?_
        rintro e w4 ⟨rfl, b4⟩
        go_wp2_with fail
        go_ret2
        exact ⟨by rw [← hr.out, hgt.out, hm.out]; rfl, ext_trans B3.out b4⟩
      | true =>
        rw [hm] at NM
        replace NM := Lib.hid NM
        replace hm := Lib.hid hm
        go_wp2_with fail
        refine (NM.out _).mono ?_
        rintro e w4 ⟨rfl, b4⟩
        go_wp2_with fail
        go_ret2
        exact ⟨by rw [← hr.out, hgt.out, hm.out]; rfl, ext_trans B3.out b4⟩
    · have nlt : n < pl.length := by omega
      have nlt' : (n : Int) < pl.length := by omega
      obtain ⟨x, hx⟩ : ∃ x, pl[n]? = some x := ⟨_, List.getElem?_eq_getElem nlt⟩
      have hxc := (hb.cell (by simpa using hg1)).trans (hc1.out n x hx)
      have PX := fun w => part_any x w (hpl.out x (List.mem_of_getElem? hx))
      have htk : (pl.take (n + 1)).all partB = partB x := by
        rw [List.take_add_one, hx, List.all_append, hall]; simp
      have hal : partB x = false → good = false := fun h => by
        rw [hgood.out, List.all_eq_false]
        exact ⟨x, List.mem_of_getElem? hx, by simp [h]⟩
      replace hall := Lib.hid hall
      replace hb := Lib.hid hb
      replace hx := Lib.hid hx
      replace hend := Lib.hid hend
      cases hp : partB x with
      | false =>
        have hgf := hal hp
        rw [hp] at PX
        replace PX := Lib.hid PX
        replace hgf := Lib.hid hgf
        replace hp := Lib.hid hp
        replace htk := Lib.hid htk
        clear hal
        go_wp2_with fail
        refine (PX.out _).mono ?_
        rintro e w4 ⟨rfl, b4⟩
        go_wp2_with fail
        go_ret2
        exact ⟨by rw [← hr.out, hgf.out]; rfl, ext_trans Br.out b4⟩
      | true =>
        rw [hp] at PX htk
        replace PX := Lib.hid PX
        replace hp := Lib.hid hp
        replace htk := Lib.hid htk
        clear hal
        go_wp2_with fail
        refine (PX.out _).mono ?_
        rintro e w4 ⟨rfl, b4⟩
        go_wp2_with fail
        go_roundw
        case rel => exact ⟨n + 1, by simp, by omega, htk.out, hb.out.trans (b4.mono (by omega))⟩
        case measure => simp [intOf]; omega
set_option maxHeartbeats 1000000 in
set_option maxRecDepth 100000 in
theorem put_any (k : Nat) (hk : isk (k : Int) = true) (G N D : ByteArray) (w : World) (ht : Tabs w) (hG : G.size ≤ 1048576) (hN : N.size ≤ 1048576) (hD : D.size ≤ 1048576) : Calls Tryd.prog 7 #[.agg #[.int .i64 (k : Int), .string G, .string N, .string D]] w (PutIs (putN k G N D) w) := by
  have k10 : k < 10 := by unfold isk at hk; simp at hk; omega
  have I := fun w => isk_any k w
  rw [hk] at I
  have HG := Lib.hid (fun w h => hasg_any k k10 w h)
  have HD := Lib.hid (fun w h => hasd_any k k10 w h)
  have PA := Lib.hid (fun w h => parts_any k k10 G N D w h)
  have LV := Lib.hid (fun w h => levels_any k k10 G N D w h)
  have b0 := ext_alloc w (.cells #[.int .i64 (k : Int), .string G, .string N, .string D] 23)
  have t0 := Lib.hid (ht.keep b0)
  have s0 := Lib.hid (SpotAt.new w k G N D)
  replace b0 := Lib.hid b0
  replace I := Lib.hid I
  replace hk := Lib.hid hk
  have ht0 := ht
  clear ht
  by_cases hbad : badForm k G D = true
  · have hr : putN k G N D = (⟨#[]⟩, 4) := by unfold putN; rw [if_pos hbad]
    rw [hr]
    unfold badForm at hbad
    generalize gB' k = g at *
    generalize dB k = d at *
    replace hr := Lib.hid hr
    clear PA LV ht0
    cases d with
    | false =>
      by_cases hD0 : D = ⟨#[]⟩
      · subst hD0
        cases g with
        | true => simp at hbad
        | false =>
          have hG0 : G ≠ ⟨#[]⟩ := by simpa using hbad
          have e1 := ne_empty hG0
          replace hG0 := Lib.hid hG0
          replace hbad := Lib.hid hbad
          go_enter Tryd.func7, Tryd.ntmps7
          go_wp2_with fail
          refine (I.out _).mono ?_
          rintro e w1 ⟨rfl, rfl⟩
          go_wp2_with fail
          refine (HD.out _ t0.out).mono ?_
          rintro e w1 ⟨rfl, rfl⟩
          go_wp2_with fail
          refine (HG.out _ t0.out).mono ?_
          rintro e w1 ⟨rfl, rfl⟩
          go_wp2_with fail
          go_ret2
          exact ⟨rfl, b0.out⟩
      · have e1 := ne_empty hD0
        replace hD0 := Lib.hid hD0
        replace hbad := Lib.hid hbad
        go_enter Tryd.func7, Tryd.ntmps7
        go_wp2_with fail
        refine (I.out _).mono ?_
        rintro e w1 ⟨rfl, rfl⟩
        go_wp2_with fail
        refine (HD.out _ t0.out).mono ?_
        rintro e w1 ⟨rfl, rfl⟩
        go_wp2_with fail
        go_ret2
        exact ⟨rfl, b0.out⟩
    | true =>
      cases g with
      | true => simp at hbad
      | false =>
        have hG0 : G ≠ ⟨#[]⟩ := by simpa using hbad
        have e1 := ne_empty hG0
        replace hG0 := Lib.hid hG0
        replace hbad := Lib.hid hbad
        go_enter Tryd.func7, Tryd.ntmps7
        go_wp2_with fail
        refine (I.out _).mono ?_
        rintro e w1 ⟨rfl, rfl⟩
        go_wp2_with fail
        refine (HD.out _ t0.out).mono ?_
        rintro e w1 ⟨rfl, rfl⟩
        go_wp2_with fail
        refine (HG.out _ t0.out).mono ?_
        rintro e w1 ⟨rfl, rfl⟩
        go_wp2_with fail
        go_ret2
        exact ⟨rfl, b0.out⟩
  · have hbad' : badForm k G D = false := by simpa using hbad
    have hform : (dB k = true ∨ D = ⟨#[]⟩) ∧ (gB' k = true ∨ G = ⟨#[]⟩) := by
      unfold badForm at hbad'
      simp only [Bool.or_eq_false_iff, Bool.and_eq_false_iff, Bool.not_eq_false', decide_eq_false_iff_not, Decidable.not_not] at hbad'
      exact ⟨hbad'.1, hbad'.2⟩
    have hput : putN k G N D = if goodParts k G N D = false then (⟨#[]⟩, 13) else if nameB (topicB k G N D) = false then (⟨#[]⟩, 13) else (topicB k G N D, 0) := by unfold putN; rw [if_neg hbad]
    rw [hput]
    have hpl : ∀ x ∈ partsL (gB' k) (dB k) G N D, x.size ≤ 1048576 := by
      intro x hx
      unfold partsL at hx
      simp only [List.mem_append, List.mem_singleton] at hx
      rcases hx with (rfl | hx) | hx
      · exact hN
      · split at hx
        · simp at hx; subst hx; exact hG
        · simp at hx
      · split at hx
        · simp at hx; subst hx; exact hD
        · simp at hx
    have hpn : 1 ≤ (partsL (gB' k) (dB k) G N D).length := by unfold partsL; simp
    have hpm : (partsL (gB' k) (dB k) G N D).length ≤ 3 := by unfold partsL; split <;> split <;> simp
    have hgood : goodParts k G N D = (partsL (gB' k) (dB k) G N D).all partB := rfl
    have hlv : goodParts k G N D = true → (topicB k G N D).size ≤ 1048576 ∧ (joi ((levelsL k G N D).map (·.data.toList))).length ≤ 8388608 := lev_small k k10 G N D hform.1 hform.2
    have hln : 1 ≤ (levelsL k G N D).length ∧ (levelsL k G N D).length ≤ 8 := by unfold levelsL; split <;> simp <;> split <;> simp
    have TB : joinB (levelsL k G N D) = topicB k G N D := rfl
    have himp : dB k = true → gB' k = true := by unfold dB gB'; simp; omega
    obtain ⟨hl1, hl8⟩ := hln
    have ht : Tabs w := ht0
    clear hput
    generalize partsL (gB' k) (dB k) G N D = pl at *
    generalize levelsL k G N D = ll at *
    generalize topicB k G N D = top at *
    generalize gB' k = g at *
    generalize dB k = d at *
    generalize goodParts k G N D = good at *
    cases d with
    | true =>
      obtain rfl := himp rfl
      exact put_11 k G N D w ht pl ll top good I.out HD.out HG.out PA.out LV.out hpl hpn hpm hgood hlv hl1 hl8 TB
    | false =>
      obtain rfl : D = ⟨#[]⟩ := by simpa using hform.1
      cases g with
      | true => exact put_01 k G N w ht pl ll top good I.out HD.out HG.out PA.out LV.out hpl hpn hpm hgood hlv hl1 hl8 TB
      | false =>
        obtain rfl : G = ⟨#[]⟩ := by simpa using hform.2
        exact put_00 k N w ht pl ll top good I.out HD.out HG.out PA.out LV.out hpl hpn hpm hgood hlv hl1 hl8 TB
end Go.Proofs.YtbmelmmefgehoaaDoor
