/-
  LAYER 17: the document's: Split, wild, sized, Name, Filter; Hidden of both sides.
-/
import Derived.Test.YtfdaooaooalknaaSc

namespace Go.Proofs.Ytfdaooaooalknaa
set_option linter.unusedSimpArgs false
set_option linter.unusedVariables false
open Go.RowKit

theorem gB_idx (s : ByteArray) (k : Nat) (h : k < s.size) : (s[k]'h).toNat = gB s k := by
  unfold gB ByteArray.get!
  show (s.data[k]'h).toNat = (s.data[k]!).toNat
  rw [getElem!_pos s.data k h]
theorem byte_at (s : ByteArray) (k : Nat) (h : k < s.size) : ∃ c, s.data.toList[k]? = some c ∧ (s[k]'h).toNat = c.toNat := by
  obtain ⟨c, h1, h2⟩ := gB_get s k h
  exact ⟨c, h1, by rw [gB_idx, h2]⟩
theorem cut_mid (s : ByteArray) (a b : Nat) : s.extract a b = bs ((s.data.toList.drop a).take (b - a)) := by
  rw [Lib.extract_eq]; rfl
theorem spl_step {L : List UInt8} {f i : Nat} (hf : f ≤ i) (hi : L[i]? = some 47) (hno : ∀ j c, f ≤ j → j < i → L[j]? = some c → c ≠ 47) : spl (L.drop f) = (L.drop f).take (i - f) :: spl (L.drop (i + 1)) := by
  obtain ⟨hlt, he⟩ := List.getElem?_eq_some_iff.1 hi
  have e : L.drop f = (L.drop f).take (i - f) ++ 47 :: L.drop (i + 1) := by
    conv => lhs; rw [← List.take_append_drop (i - f) (L.drop f)]
    rw [List.drop_drop, show f + (i - f) = i by omega, List.drop_eq_getElem_cons hlt, he]
  have hn : ∀ c ∈ (L.drop f).take (i - f), c ≠ 47 := by
    intro c hc
    obtain ⟨j, hj, he2⟩ := List.mem_iff_getElem.1 hc
    rw [List.length_take, List.length_drop] at hj
    rw [List.getElem_take, List.getElem_drop] at he2
    exact hno (f + j) c (by omega) (by omega) (by rw [← he2]; exact List.getElem?_eq_getElem _)
  conv => lhs; rw [e]
  exact spl_at _ _ hn
theorem spl_last {L : List UInt8} {f : Nat} (hno : ∀ j c, f ≤ j → j < L.length → L[j]? = some c → c ≠ 47) : spl (L.drop f) = [L.drop f] := by
  refine spl_none _ fun c hc => ?_
  obtain ⟨j, hj, he2⟩ := List.mem_iff_getElem.1 hc
  rw [List.length_drop] at hj
  rw [List.getElem_drop] at he2
  exact hno (f + j) c (by omega) (by omega) (by rw [← he2]; exact List.getElem?_eq_getElem _)
set_option maxHeartbeats 2000000 in
set_option maxRecDepth 100000 in
theorem rsplit_any (s : ByteArray) (w : World) (hs : s.size ≤ 1048576) : Calls Try.prog 37 #[.string s] w (SplitIs s w) := by
  obtain ⟨i0, hi, hz0, hz1, hz2⟩ := info_parts Try.info9
  replace hi := Lib.hid hi
  replace hz0 := Lib.hid hz0
  replace hz1 := Lib.hid hz1
  replace hz2 := Lib.hid hz2
  have hLs : s.data.toList.length = s.size := Array.length_toList
  have hs' : (s.size : Int) ≤ 1048576 := by omega
  go_enter Try.func37, Try.ntmps37
  go_wp2
  go_loopw [3, 4, 5] (fun o f i wr => ∃ (k p : Nat) (done : List (List UInt8)), i = .int .i64 k ∧ f = .int .i64 p ∧ p ≤ k ∧ k ≤ s.size ∧ done.length ≤ p ∧ spl s.data.toList = done ++ spl (s.data.toList.drop p) ∧ (∀ j c, p ≤ j → j < k → s.data.toList[j]? = some c → c ≠ 47) ∧ wr.ownsRow w.heap.size 9 1 o done.length (sl (done.map bs)) ∧ Below w.heap.size w wr) (fun _ _ i _ => s.size - (intOf i).toNat)
  case atStart => exact ⟨0, 0, [], rfl, rfl, Nat.le_refl _, by omega, by simp, rfl, fun j c _ h => by omega, ⟨rfl, .inl ⟨rfl, rfl⟩⟩, Below.refl _ _⟩
  case round =>
    obtain ⟨k, p, done, rfl, rfl, hpk, hk, hdp, hsp, hno, hown, hb⟩ := hrel
    have zr := hb.size
    replace hb := Lib.hid hb
    replace hown := Lib.hid hown
    replace hsp := Lib.hid hsp
    obtain ⟨a1, c1, rfl⟩ := own_slice hown.out
    have hpk' : (p : Int) ≤ k := by omega
    have hk' : (k : Int) ≤ s.size := by omega
    by_cases hend : k = s.size
    · subst hend
      have hl := Lib.hid (spl_last (L := s.data.toList) (f := p) (by rw [hLs]; exact hno))
      replace hno := Lib.hid hno
      go_wp2_with (at_builtin; go_must (refine wpList_append_own_at _ rfl (.tmp 25) (.tmp 29) 23 rfl w.heap.size 9 i0 (.string ⟨#[]⟩) 1 16 Try.underlying23 hi.out hz0.out hz1.out hz2.out rfl (by decide) _ done.length (sl (done.map bs)) rfl (hown.out.alloc _) ⟨wr.heap.size, 0, none⟩ 1 1 [.string (s.extract p s.size)] rfl rfl (cell_one_new _ _ _) (by intro u hu; simp at hu; subst hu; rfl) (by unfold maxLen; omega) (by omega) (by simp; omega) ?_); intro v2 w2 o2 gr2 n2 nb2)
      go_ret
      refine ⟨_, rfl, ?_, (hb.out.alloc (by omega) _).grown gr2 (by simp; omega) (fun j hj => ((hown.out).lt j hj).1)⟩
      have e : spS s = (done.map bs) ++ [s.extract p s.size] := by
        unfold spS
        rw [hsp.out, hl.out, List.map_append, cut_back]
        rfl
      rw [e, show sl (done.map bs ++ [s.extract p s.size]) = sl (done.map bs) ++ [.string (s.extract p s.size)] by simp [sl], List.length_append, List.length_map, List.length_singleton]
      exact o2
    · have klt : k < s.size := by omega
      have klt' : (k : Int) < s.size := by omega
      obtain ⟨c, hc1, hc2⟩ := byte_at s k klt
      by_cases h47 : c = 47
      · subst h47
        have hq : (((s[k]'klt).toNat : Int) == 47) = true := by rw [hc2]; rfl
        have hst := Lib.hid (spl_step hpk hc1 (fun j c' h1 h2 h3 => hno j c' h1 h2 h3))
        replace hno := Lib.hid hno
        replace hc1 := Lib.hid hc1
        replace hc2 := Lib.hid hc2
        have hpn : p ≤ k := hpk
        go_wp2_with (at_builtin; go_must (refine wpList_append_own_at _ rfl (.tmp 16) (.tmp 21) 23 rfl w.heap.size 9 i0 (.string ⟨#[]⟩) 1 16 Try.underlying23 hi.out hz0.out hz1.out hz2.out rfl (by decide) _ done.length (sl (done.map bs)) rfl (hown.out.alloc _) ⟨wr.heap.size, 0, none⟩ 1 1 [.string (s.extract p k)] rfl rfl (cell_one_new _ _ _) (by intro u hu; simp at hu; subst hu; rfl) (by unfold maxLen; omega) (by omega) (by simp; omega) ?_); intro v2 w2 o2 gr2 n2 nb2)
        go_roundw
        case rel =>
          refine ⟨k + 1, k + 1, done ++ [(s.data.toList.drop p).take (k - p)], by simp, by simp, Nat.le_refl _, by omega, by simp; omega, ?_, fun j c _ h => by omega, ?_, (hb.out.alloc (by omega) _).grown gr2 (by simp; omega) (fun j hj => ((hown.out).lt j hj).1)⟩
          · rw [hsp.out, hst.out, List.append_assoc]; rfl
          · rw [show sl ((done ++ [(s.data.toList.drop p).take (k - p)]).map bs) = sl (done.map bs) ++ [.string (s.extract p k)] by simp [sl, cut_mid], List.length_append, List.length_singleton]
            exact o2
        case measure => simp [intOf]; omega
      · have hq : (((s[k]'klt).toNat : Int) == 47) = false := by
          rw [hc2, beq_eq_false_iff_ne]
          intro h
          exact h47 (UInt8.toNat_inj.1 (by show c.toNat = 47; omega))
        have hno2 : ∀ j c, p ≤ j → j < k + 1 → s.data.toList[j]? = some c → c ≠ 47 := fun j c' h1 h2 h3 => by
          by_cases hj : j = k
          · subst hj; rw [hc1] at h3; simp only [Option.some.injEq] at h3; rw [← h3]; exact h47
          · exact hno j c' h1 (by omega) h3
        replace hno := Lib.hid hno
        replace hno2 := Lib.hid hno2
        replace hc1 := Lib.hid hc1
        replace hc2 := Lib.hid hc2
        replace h47 := Lib.hid h47
        go_wp2_with fail
        go_roundw
        case rel => exact ⟨k + 1, p, done, by simp, rfl, by omega, by omega, hdp, hsp.out, hno2.out, hown.out, hb.out⟩
        case measure => simp [intOf]; omega
theorem anyB_at {s : ByteArray} {k : Nat} {c : UInt8} (h : s.data.toList[k]? = some c) (hc : (c == 43 || c == 35) = true) : anyB s = true := List.any_eq_true.2 ⟨c, List.mem_of_getElem? h, hc⟩
theorem anyB_no {s : ByteArray} (h : ∀ (k : Nat) (c : UInt8), s.data.toList[k]? = some c → (c == 43 || c == 35) = false) : anyB s = false := by
  unfold anyB
  rw [Bool.eq_false_iff]
  intro ha
  obtain ⟨c, hc, hh⟩ := List.any_eq_true.1 ha
  obtain ⟨i, hi, he⟩ := List.mem_iff_getElem.1 hc
  have := h i c (by rw [← he]; exact List.getElem?_eq_getElem _)
  rw [this] at hh
  cases hh
set_option maxHeartbeats 1000000 in
set_option maxRecDepth 100000 in
theorem wild_any (s : ByteArray) (w : World) (hs : s.size ≤ 1048576) : Calls Try.prog 30 #[.string s] w (BoolIs (anyB s) w) := by
  have hLs : s.data.toList.length = s.size := Array.length_toList
  have hs' : (s.size : Int) ≤ 1048576 := by omega
  go_enter Try.func30, Try.ntmps30
  go_wp2
  go_loopw [3] (fun i wr => ∃ k : Nat, i = .int .i64 k ∧ k ≤ s.size ∧ (∀ j c, j < k → s.data.toList[j]? = some c → (c == 43 || c == 35) = false) ∧ Below w.heap.size w wr) (fun i _ => s.size - (intOf i).toNat)
  case atStart => exact ⟨0, rfl, by omega, fun j c h => by omega, Below.refl _ _⟩
  case round =>
    obtain ⟨k, rfl, hk, hno, hb⟩ := hrel
    replace hb := Lib.hid hb
    by_cases hend : k = s.size
    · subst hend
      have ha := anyB_no (s := s) (fun j c h => hno j c (by have := (List.getElem?_eq_some_iff.1 h).1; omega) h)
      replace ha := Lib.hid ha
      replace hno := Lib.hid hno
      go_wp2
      go_ret
      exact ⟨by rw [ha.out]; rfl, hb.out⟩
    · have klt : k < s.size := by omega
      have klt' : (k : Int) < s.size := by omega
      obtain ⟨c, hc1, hc2⟩ := byte_at s k klt
      have e43 : (((s[k]'klt).toNat : Int) == 43) = (c == 43) := by
        rw [hc2]
        by_cases h : c = 43
        · subst h; rfl
        · have h1 : (c == 43) = false := by simpa using h
          rw [h1, beq_eq_false_iff_ne]
          intro h2
          exact h (UInt8.toNat_inj.1 (by show c.toNat = 43; omega))
      have e35 : (((s[k]'klt).toNat : Int) == 35) = (c == 35) := by
        rw [hc2]
        by_cases h : c = 35
        · subst h; rfl
        · have h1 : (c == 35) = false := by simpa using h
          rw [h1, beq_eq_false_iff_ne]
          intro h2
          exact h (UInt8.toNat_inj.1 (by show c.toNat = 35; omega))
      cases h1 : (c == 43) with
      | true =>
        have ha := anyB_at hc1 (by rw [h1]; rfl)
        rw [h1] at e43
        replace ha := Lib.hid ha
        replace h1 := Lib.hid h1
        replace hno := Lib.hid hno
        replace hc1 := Lib.hid hc1
        replace hc2 := Lib.hid hc2
        replace e35 := Lib.hid e35
        go_wp2_with fail
        go_ret
        exact ⟨by rw [ha.out]; rfl, hb.out⟩
      | false =>
        rw [h1] at e43
        cases h2 : (c == 35) with
        | true =>
          have ha := anyB_at hc1 (by rw [h2]; simp)
          rw [h2] at e35
          replace ha := Lib.hid ha
          replace h1 := Lib.hid h1
          replace h2 := Lib.hid h2
          replace hno := Lib.hid hno
          replace hc1 := Lib.hid hc1
          replace hc2 := Lib.hid hc2
          go_wp2_with fail
          go_ret
          exact ⟨by rw [ha.out]; rfl, hb.out⟩
        | false =>
          rw [h2] at e35
          have hno2 : ∀ j c, j < k + 1 → s.data.toList[j]? = some c → (c == 43 || c == 35) = false := fun j c' hj h3 => by
            by_cases hjk : j = k
            · subst hjk; rw [hc1] at h3; simp only [Option.some.injEq] at h3; rw [← h3, h1, h2]; rfl
            · exact hno j c' (by omega) h3
          replace hno := Lib.hid hno
          replace hno2 := Lib.hid hno2
          replace h1 := Lib.hid h1
          replace h2 := Lib.hid h2
          replace hc1 := Lib.hid hc1
          replace hc2 := Lib.hid hc2
          go_wp2_with fail
          go_roundw
          case rel => exact ⟨k + 1, by simp, by omega, hno2.out, hb.out⟩
          case measure => simp [intOf]; omega
end Go.Proofs.Ytfdaooaooalknaa
