/-
  LAYER 17: names and filters, the program's, where it is known what ContainsAny says.
-/
import Derived.Test.YtfdaooaooalknaaSa
import Derived.Test.YtfdaooaooalknaaShelf
import Derived.Lib.IndexAny
namespace Go.Proofs.Ytfdaooaooalknaa
set_option linter.unusedSimpArgs false
set_option linter.unusedVariables false
open Go.RowKit

def isPlus : ByteArray := ⟨#[43]⟩
def isHash : ByteArray := ⟨#[35]⟩
/-- Has a text a + or a #? -/
def anyB (s : ByteArray) : Bool := s.data.toList.any fun c => c == 43 || c == 35
def AnyIs (s : ByteArray) (w : World) (e : Ending) (w' : World) : Prop := e = .returned (.bool (anyB s)) ∧ Below w.heap.size w w'
def CA (s : ByteArray) : Prop := ∀ w, Calls Try.prog 28 #[.string s, .string ⟨#[43, 35]⟩] w (AnyIs s w)
theorem containsAny_any (l : List UInt8) : Lib.containsAny l [43, 35] = l.any fun c => c == 43 || c == 35 := by
  unfold Lib.containsAny
  induction l with
  | nil => rfl
  | cons b l ih =>
    have hge := Lib.indexAny_ge [43, 35] l
    rw [Lib.indexAny, List.any_cons, ← ih]
    have hc : ([43, 35] : List UInt8).contains b = (b == 43 || b == 35) := by simp only [List.contains_cons, List.contains_nil, Bool.or_false]
    rw [hc]
    cases hb : (b == 43 || b == 35) with
    | true => simp
    | false =>
      simp only [Bool.false_eq_true, if_false, Bool.false_or]
      by_cases h1 : Lib.indexAny l [43, 35] = -1
      · rw [h1]; rfl
      · have : (Lib.indexAny l [43, 35] == -1) = false := by simpa using h1
        rw [this]
        simp only [Bool.false_eq_true, if_false]
        rw [decide_eq_decide]
        omega
/-- Every byte is below 128. -/
def Asc (s : ByteArray) : Prop := ∀ c ∈ s.data.toList, c.toNat < 128
theorem ca_asc (s : ByteArray) (h : Asc s) (hs : s.size < 4294967281) : CA s := fun w => by
  refine (Try.strings_ContainsAny_laid s ⟨#[43, 35]⟩ w hs (by decide) (fun j b hb => h b (List.mem_of_getElem? hb)) (fun j b hb => by
    have hm : b ∈ ([43, 35] : List UInt8) := List.mem_of_getElem? hb
    simp only [List.mem_cons, List.not_mem_nil, or_false] at hm
    rcases hm with rfl | rfl <;> decide)).mono ?_
  rintro e w' ⟨rfl, hb⟩
  refine ⟨?_, hb⟩
  unfold anyB
  rw [← containsAny_any]
def fitsB (s : ByteArray) : Bool := decide (s.size ≠ 0) && (decide (s.size ≤ 96) && (rightB s && decide (s.data.toList.count 47 < 12)))
def BoolIs (b : Bool) (w : World) (e : Ending) (w' : World) : Prop := e = .returned (.bool b) ∧ Below w.heap.size w w'
theorem size0 {s : ByteArray} (h : s.size = 0) : s = ⟨#[]⟩ := by
  obtain ⟨⟨l⟩⟩ := s
  cases l with
  | nil => rfl
  | cons a l => simp [ByteArray.size] at h
theorem size1 {s : ByteArray} (h : s.size ≠ 0) : s.toList.isEmpty = false := by
  rw [ByteArray.toList_eq]
  obtain ⟨⟨l⟩⟩ := s
  cases l with
  | nil => simp [ByteArray.size] at h
  | cons a l => rfl
set_option maxHeartbeats 1000000 in
set_option maxRecDepth 100000 in
theorem fits_any (s : ByteArray) (w : World) (hs : s.size ≤ 1048576) : Calls Try.prog 27 #[.string s] w (BoolIs (fitsB s) w) := by
  have R := Lib.hid (right_any s)
  have C := Lib.hid (Try.strings_Count_one s 47)
  by_cases h0 : s.size = 0
  · obtain rfl := size0 h0
    go_enter Try.func27, Try.ntmps27
    go_wp2_with fail
    go_ret
    exact ⟨rfl, Below.refl _ _⟩
  have he := size1 h0
  by_cases h96 : s.size ≤ 96
  · have h96' : (s.size : Int) ≤ 96 := by omega
    have hF : fitsB s = (rightB s && decide (s.data.toList.count 47 < 12)) := by unfold fitsB; simp [h0, h96]
    replace hF := Lib.hid hF
    replace h0 := Lib.hid h0
    go_enter Try.func27, Try.ntmps27
    go_wp2_with fail
    refine (R.out _).mono ?_
    rintro e w1 ⟨rfl, b1⟩
    cases hr : rightB s with
    | false =>
      replace hr := Lib.hid hr
      go_wp2_with fail
      go_ret
      exact ⟨by rw [hF.out, hr.out]; rfl, b1⟩
    | true =>
      replace hr := Lib.hid hr
      go_wp2_with fail
      refine (C.out _).mono ?_
      rintro e w2 ⟨rfl, rfl⟩
      unfold Lib.countByte
      generalize hn : s.data.toList.count 47 = n at *
      have hnle : n ≤ 96 := by
        rw [← hn]
        refine Nat.le_trans List.count_le_length ?_
        rw [Array.length_toList]
        exact h96
      have hnle' : (n : Int) ≤ 96 := by omega
      replace hn := Lib.hid hn
      go_wp2_with fail
      go_ret
      refine ⟨?_, b1⟩
      rw [hF.out, hr.out, Bool.true_and]
      show Ending.returned (.bool (decide ((n : Int) < 12))) = _
      congr 2
      rw [decide_eq_decide]
      omega
  · have h96' : ¬ (s.size : Int) ≤ 96 := by omega
    have hs' : (s.size : Int) ≤ 1048576 := by omega
    have hF : fitsB s = false := by unfold fitsB; simp [h96]
    replace hF := Lib.hid hF
    replace h0 := Lib.hid h0
    replace h96 := Lib.hid h96
    go_enter Try.func27, Try.ntmps27
    go_wp2_with fail
    go_ret
    exact ⟨by rw [hF.out]; rfl, Below.refl _ _⟩
def nameB (s : ByteArray) : Bool := fitsB s && !anyB s
set_option maxHeartbeats 1000000 in
set_option maxRecDepth 100000 in
theorem name_any (s : ByteArray) (w : World) (hs : s.size ≤ 1048576) (hc : s.size ≤ 96 → CA s) : Calls Try.prog 18 #[.string s] w (BoolIs (nameB s) w) := by
  have F := Lib.hid (fits_any s w hs)
  unfold nameB
  have hle : fitsB s = true → s.size ≤ 96 := fun h => by
    unfold fitsB at h
    simp only [Bool.and_eq_true, decide_eq_true_eq] at h
    exact h.2.1
  generalize hf : fitsB s = f at *
  replace hf := Lib.hid hf
  go_enter Try.func18, Try.ntmps18
  go_wp2_with fail
  refine (F.out).mono ?_
  rintro e w1 ⟨rfl, b1⟩
  cases f with
  | false =>
    go_wp2_with fail
    go_ret
    exact ⟨rfl, b1⟩
  | true =>
    have hC := Lib.hid (hc (hle rfl))
    clear hle
    go_wp2_with fail
    refine (hC.out _).mono ?_
    rintro e w2 ⟨rfl, b2⟩
    cases hb : anyB s with
    | false =>
      replace hb := Lib.hid hb
      go_wp2_with fail
      go_ret
      exact ⟨by rw [hb.out]; rfl, ext_trans b1 b2⟩
    | true =>
      replace hb := Lib.hid hb
      go_wp2_with fail
      go_ret
      exact ⟨by rw [hb.out]; rfl, ext_trans b1 b2⟩
theorem ba_ext {x y : ByteArray} (h : x.data.toList = y.data.toList) : x = y := by
  obtain ⟨⟨a⟩⟩ := x
  obtain ⟨⟨b⟩⟩ := y
  simp only at h
  rw [h]
theorem is_plus (x : ByteArray) : (x.toList == [43]) = decide (x = isPlus) := by
  rw [ByteArray.toList_eq]
  by_cases h : x = isPlus
  · subst h; rfl
  · rw [decide_eq_false h, beq_eq_false_iff_ne]
    exact fun e => h (ba_ext e)
theorem is_hash (x : ByteArray) : (x.toList == [35]) = decide (x = isHash) := by
  rw [ByteArray.toList_eq]
  by_cases h : x = isHash
  · subst h; rfl
  · rw [decide_eq_false h, beq_eq_false_iff_ne]
    exact fun e => h (ba_ext e)
/-- May the level at a place stand there? -/
def okAt (ss : List ByteArray) (i : Nat) : Bool := let x := ss.getD i ⟨#[]⟩; decide (x = isPlus) || (decide (x = isHash) && decide (i + 1 = ss.length)) || !anyB x
def filtL (ss : List ByteArray) : Bool := (List.range ss.length).all (okAt ss)
def filterB (s : ByteArray) : Bool := fitsB s && filtL (spS s)
theorem spS_pos (s : ByteArray) : 1 ≤ (spS s).length := by
  unfold spS
  rw [List.length_map, spl_length]
  omega
theorem spS_le (s : ByteArray) : (spS s).length ≤ s.size + 1 := by
  have h1 := List.length_filter_le (· == 47) s.data.toList
  have h2 : s.data.toList.length = s.size := Array.length_toList
  unfold spS
  rw [List.length_map, spl_length]
  unfold slashes
  omega
theorem filtL_no {ss : List ByteArray} {i : Nat} (hi : i < ss.length) (h : okAt ss i = false) : filtL ss = false := by
  unfold filtL
  rw [Bool.eq_false_iff]
  intro hall
  have := List.all_eq_true.1 hall i (List.mem_range.2 hi)
  rw [h] at this
  cases this
theorem filtL_yes {ss : List ByteArray} (h : ∀ i, i < ss.length → okAt ss i = true) : filtL ss = true := List.all_eq_true.2 fun i hi => h i (List.mem_range.1 hi)
theorem own_cells {w : World} {B : Nat} {v : Value} {ss : List ByteArray} (h : w.ownsRow B 9 1 v ss.length (sl ss)) (hn : ss.length ≠ 0) :
    ∃ g cap, v = .slice (some ⟨g, 0, none⟩) ss.length cap ∧ B ≤ g ∧ g < w.heap.size ∧ ss.length ≤ cap ∧ ∀ i x, ss[i]? = some x → w.cell? ⟨g, i, none⟩ = some (.string x) := by
  obtain ⟨h1, h2⟩ := h
  rcases h2 with ⟨rfl, h0⟩ | ⟨g, cap, cur, hv, hb, hg, hnc, hcm, hcs, ht⟩
  · exact absurd h0 hn
  · refine ⟨g, cap, hv, hb, (Array.getElem?_eq_some_iff.1 hg).1, hnc, fun i x hx => ?_⟩
    rw [cell_of_row w g i cur 9 (0, 0) hg]
    have hi : i < ss.length := (List.getElem?_eq_some_iff.1 hx).1
    have hu : (sl ss)[i]? = some (.string x) := by simp [sl, hx]
    rw [← ht, List.getElem?_take] at hu
    split at hu
    · simpa using hu
    · cases hu
set_option maxHeartbeats 1000000 in
set_option maxRecDepth 100000 in
theorem filter_any (s : ByteArray) (w : World) (hs : s.size ≤ 1048576) (hc : s.size ≤ 96 → ∀ x ∈ spS s, CA x) : Calls Try.prog 25 #[.string s] w (BoolIs (filterB s) w) := by
  have F := Lib.hid (fits_any s w hs)
  have SP := Lib.hid fun w' => split_any s w' hs
  unfold filterB
  have hle : fitsB s = true → s.size ≤ 96 := fun h => by
    unfold fitsB at h
    simp only [Bool.and_eq_true, decide_eq_true_eq] at h
    exact h.2.1
  generalize hf : fitsB s = f at *
  replace hf := Lib.hid hf
  go_enter Try.func25, Try.ntmps25
  go_wp2_with fail
  refine (F.out).mono ?_
  rintro e w1 ⟨rfl, b1⟩
  cases f with
  | false =>
    go_wp2_with fail
    go_ret
    exact ⟨rfl, b1⟩
  | true =>
    have h96 := hle rfl
    have hC := Lib.hid (hc h96)
    have hlen := spS_le s
    have hpos := spS_pos s
    clear hle
    replace b1 := Lib.hid b1
    go_wp2_with fail
    refine (SP.out _).mono ?_
    rintro e w2 ⟨v, rfl, hown, b2⟩
    generalize spS s = ss at *
    obtain ⟨g, cap, rfl, -, hg, hcap, hcell⟩ := own_cells hown (by omega)
    have B2 := Lib.hid (ext_trans b1.out b2)
    replace hcell := Lib.hid hcell
    have hlen' : (ss.length : Int) ≤ 97 := by omega
    clear hown b2 SP F
    go_wp2
    go_loopw [14] (fun i wr => ∃ k : Nat, i = .int .i64 k ∧ k ≤ ss.length ∧ (∀ j, j < k → okAt ss j = true) ∧ Below w2.heap.size w2 wr) (fun i _ => ss.length - (intOf i).toNat)
    case atStart => exact ⟨0, rfl, by omega, fun j hj => by omega, Below.refl _ _⟩
    case round =>
      obtain ⟨k, rfl, hk, hall, hb⟩ := hrel
      have B3 := Lib.hid (B2.out.trans (hb.mono B2.out.size))
      replace hall := Lib.hid hall
      replace hb := Lib.hid hb
      by_cases hend : k = ss.length
      · subst hend
        go_wp2
        go_ret
        exact ⟨by rw [filtL_yes hall.out]; rfl, B3.out⟩
      obtain ⟨x, hx⟩ : ∃ x, ss[k]? = some x := ⟨_, List.getElem?_eq_getElem (by omega)⟩
      have c0 : wr.cell? ⟨g, k, none⟩ = some (.string x) := by rw [hb.out.cell (by simpa using hg)]; exact hcell.out k x hx
      have hok : okAt ss k = (decide (x = isPlus) || (decide (x = isHash) && decide (k + 1 = ss.length)) || !anyB x) := by unfold okAt; simp [List.getD, hx]
      have hCx := Lib.hid (hC.out x (List.mem_of_getElem? hx))
      have klt : (k : Int) < (ss.length : Int) := by omega
      replace hx := Lib.hid hx
      replace hok := Lib.hid hok
      by_cases hp : x = isPlus
      · have p1 : (x.toList == [43]) = true := by rw [is_plus, hp]; rfl
        have hyes : okAt ss k = true := by rw [hok.out, hp]; rfl
        replace hyes := Lib.hid hyes
        replace hp := Lib.hid hp
        go_wp2_with fail
        go_roundw
        case rel => exact ⟨k + 1, by simp, by omega, fun j hj => by
          by_cases h : j = k
          · rw [h]; exact hyes.out
          · exact hall.out j (by omega), hb.out⟩
        case measure => simp [intOf]; omega
      have p1 : (x.toList == [43]) = false := by rw [is_plus, decide_eq_false hp]
      replace hp := Lib.hid hp
      by_cases hl : k + 1 = ss.length
      · have hl' : (k : Int) + 1 = (ss.length : Int) := by omega
        have hl2 : ((k : Int) == (ss.length : Int) - 1) = true := by rw [beq_iff_eq]; omega
        replace hl' := Lib.hid hl'
        by_cases hh : x = isHash
        · have p2 : (x.toList == [35]) = true := by rw [is_hash, hh]; rfl
          have hyes : okAt ss k = true := by rw [hok.out, hh, hl]; simp
          replace hyes := Lib.hid hyes
          replace hh := Lib.hid hh
          replace hl := Lib.hid hl
          go_wp2_with fail
          go_roundw
          case rel => exact ⟨k + 1, by simp, by omega, fun j hj => by
            by_cases h : j = k
            · rw [h]; exact hyes.out
            · exact hall.out j (by omega), hb.out⟩
          case measure => simp [intOf]; omega
        have p2 : (x.toList == [35]) = false := by rw [is_hash, decide_eq_false hh]
        have hh2 := Lib.hid (show (decide (x = isHash) && decide (k + 1 = ss.length)) = false by rw [decide_eq_false hh]; rfl)
        replace hh := Lib.hid hh
        replace hl := Lib.hid hl
        go_wp2_with fail
        refine (hCx.out _).mono ?_
        rintro e w3 ⟨rfl, b3⟩
        have B4 := Lib.hid (ext_trans B3.out b3)
        have hb4 := Lib.hid (hb.out.trans (b3.mono hb.out.size))
        clear b3
        cases ha : anyB x with
        | true =>
          have hno : okAt ss k = false := by rw [hok.out, ha, decide_eq_false hp.out, hh2.out]; rfl
          replace ha := Lib.hid ha
          replace hno := Lib.hid hno
          clear c0
          go_wp2_with fail
          go_ret
          exact ⟨by rw [filtL_no (by omega) hno.out]; rfl, B4.out⟩
        | false =>
          have hyes : okAt ss k = true := by rw [hok.out, ha]; simp
          replace ha := Lib.hid ha
          replace hyes := Lib.hid hyes
          clear c0
          go_wp2_with fail
          go_roundw
          case rel => exact ⟨k + 1, by simp, by omega, fun j hj => by
            by_cases h : j = k
            · rw [h]; exact hyes.out
            · exact hall.out j (by omega), hb4.out⟩
          case measure => simp [intOf]; omega
      · have hl2 : ((k : Int) == (ss.length : Int) - 1) = false := by rw [beq_eq_false_iff_ne]; omega
        have hh2 := Lib.hid (show (decide (x = isHash) && decide (k + 1 = ss.length)) = false by rw [decide_eq_false hl, Bool.and_false])
        replace hl := Lib.hid hl
        by_cases hh : x = isHash
        · have p2 : (x.toList == [35]) = true := by rw [is_hash, hh]; rfl
          replace hh := Lib.hid hh
          go_wp2_with fail
          refine (hCx.out _).mono ?_
          rintro e w3 ⟨rfl, b3⟩
          have B4 := Lib.hid (ext_trans B3.out b3)
          have hb4 := Lib.hid (hb.out.trans (b3.mono hb.out.size))
          clear b3
          cases ha : anyB x with
          | true =>
            have hno : okAt ss k = false := by rw [hok.out, ha, decide_eq_false hp.out, hh2.out]; rfl
            replace ha := Lib.hid ha
            replace hno := Lib.hid hno
            clear c0
            go_wp2_with fail
            go_ret
            exact ⟨by rw [filtL_no (by omega) hno.out]; rfl, B4.out⟩
          | false =>
            have hyes : okAt ss k = true := by rw [hok.out, ha]; simp
            replace ha := Lib.hid ha
            replace hyes := Lib.hid hyes
            clear c0
            go_wp2_with fail
            go_roundw
            case rel => exact ⟨k + 1, by simp, by omega, fun j hj => by
              by_cases h : j = k
              · rw [h]; exact hyes.out
              · exact hall.out j (by omega), hb4.out⟩
            case measure => simp [intOf]; omega
        have p2 : (x.toList == [35]) = false := by rw [is_hash, decide_eq_false hh]
        replace hh := Lib.hid hh
        go_wp2_with fail
        refine (hCx.out _).mono ?_
        rintro e w3 ⟨rfl, b3⟩
        have B4 := Lib.hid (ext_trans B3.out b3)
        have hb4 := Lib.hid (hb.out.trans (b3.mono hb.out.size))
        clear b3
        cases ha : anyB x with
        | true =>
          have hno : okAt ss k = false := by rw [hok.out, ha, decide_eq_false hp.out, hh2.out]; rfl
          replace ha := Lib.hid ha
          replace hno := Lib.hid hno
          clear c0
          go_wp2_with fail
          go_ret
          exact ⟨by rw [filtL_no (by omega) hno.out]; rfl, B4.out⟩
        | false =>
          have hyes : okAt ss k = true := by rw [hok.out, ha]; simp
          replace ha := Lib.hid ha
          replace hyes := Lib.hid hyes
          clear c0
          go_wp2_with fail
          go_roundw
          case rel => exact ⟨k + 1, by simp, by omega, fun j hj => by
            by_cases h : j = k
            · rw [h]; exact hyes.out
            · exact hall.out j (by omega), hb4.out⟩
          case measure => simp [intOf]; omega
end Go.Proofs.Ytfdaooaooalknaa
