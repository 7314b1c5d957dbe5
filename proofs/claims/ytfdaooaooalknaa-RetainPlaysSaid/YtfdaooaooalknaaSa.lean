/-
  LAYER 17: the program's Split.
-/
import Derived.Test.YtfdaooaooalknaaLp
import Derived.Test.YtfdaooaooalknaaUc
import Derived.WalkMore
import Derived.ScopeJumps
import Derived.WalkSpells
import Derived.Laws.OwnMore
import Derived.Deep.DeepMust
namespace Go.Proofs.Ytfdaooaooalknaa
set_option linter.unusedSimpArgs false
set_option linter.unusedVariables false
open Go.RowKit

theorem Try.info9 : (Try.prog.info? 9).map (fun i => (i.zero, i.size, i.bytes)) = some (some (.string ⟨#[]⟩), 1, 16) := by kernel_rfl
theorem info_parts {P : Program} {t : TypeId} {z : Value} {n b : Nat} (h : (P.info? t).map (fun i => (i.zero, i.size, i.bytes)) = some (some z, n, b)) : ∃ i, P.info? t = some i ∧ i.zero = some z ∧ i.size = n ∧ i.bytes = b := by
  cases hi : P.info? t with
  | none => rw [hi] at h; cases h
  | some i =>
    rw [hi] at h
    simp only [Option.map_some, Option.some.injEq, Prod.mk.injEq] at h
    exact ⟨i, rfl, h.1, h.2.1, h.2.2⟩
theorem own_slice {w : World} {B e size n : Nat} {v : Value} {xs : List Value} (h : w.ownsRow B e size v n xs) : ∃ a c, v = .slice a n c := by
  rcases h.2 with ⟨rfl, rfl⟩ | ⟨g, cap, cur, rfl, _⟩
  · exact ⟨none, 0, rfl⟩
  · exact ⟨_, _, rfl⟩
theorem own_below {w w' : World} {B e size n : Nat} {v : Value} {xs : List Value} (h : w.ownsRow B e size v n xs) (hb : Below w.heap.size w w') : w'.ownsRow B e size v n xs := by
  obtain ⟨h1, hr⟩ := h
  refine ⟨h1, hr.imp id ?_⟩
  rintro ⟨g, cap, cur, hv, hg, hcur, rest⟩
  exact ⟨g, cap, cur, hv, hg, by rw [hb.block g (Array.getElem?_eq_some_iff.1 hcur).1]; exact hcur, rest⟩
def bs (l : List UInt8) : ByteArray := ⟨l.toArray⟩
theorem bs_data (l : List UInt8) : (bs l).data.toList = l := rfl
theorem bs_of (s : ByteArray) : bs s.data.toList = s := by cases s; simp [bs]
theorem bs_size (l : List UInt8) : (bs l).size = l.length := by simp [bs, ByteArray.size]
theorem cut_front (s : ByteArray) (p : Nat) : s.extract 0 p = bs (s.data.toList.take p) := by
  rw [Lib.extract_eq]
  simp [bs]
theorem cut_back (s : ByteArray) (p : Nat) : s.extract p s.size = bs (s.data.toList.drop p) := by
  rw [Lib.extract_eq]
  have : s.size = s.data.toList.length := by rw [Array.length_toList]; rfl
  rw [List.take_of_length_le (by rw [List.length_drop]; omega)]
  rfl
theorem gB_get (s : ByteArray) (k : Nat) (hk : k < s.size) : ∃ c, s.data.toList[k]? = some c ∧ c.toNat = gB s k := by
  have h : k < s.data.size := hk
  refine ⟨s.data[k], by simp, ?_⟩
  unfold gB ByteArray.get!
  show _ = (s.data[k]!).toNat
  rw [getElem!_pos s.data k h]
/-- The levels of a text. -/
def spS (s : ByteArray) : List ByteArray := (spl s.data.toList).map bs
theorem sp_at (S : ByteArray) (pos : Nat) (hp : pos < S.size) (hc : gB S pos = 47) (hno : ∀ i, i < pos → gB S i ≠ 47) : spS S = S.extract 0 pos :: spS (S.extract (pos + 1) S.size) := by
  obtain ⟨c, h1, h2⟩ := gB_get S pos hp
  have hc' : c = 47 := by apply UInt8.toNat_inj.1; rw [h2, hc]; rfl
  subst hc'
  have e : S.data.toList = S.data.toList.take pos ++ 47 :: S.data.toList.drop (pos + 1) := by
    obtain ⟨hlt, he⟩ := List.getElem?_eq_some_iff.1 h1
    conv => lhs; rw [← List.take_append_drop pos S.data.toList]
    rw [List.drop_eq_getElem_cons hlt, he]
  have hn : ∀ c ∈ S.data.toList.take pos, c ≠ 47 := by
    intro c hc0 hcc
    obtain ⟨i, hi, he⟩ := List.mem_iff_getElem.1 hc0
    have hi' : i < pos := by rw [List.length_take] at hi; omega
    obtain ⟨c', h1', h2'⟩ := gB_get S i (by omega)
    rw [List.getElem_take] at he
    have : S.data.toList[i]? = some c := by rw [← he]; exact List.getElem?_eq_getElem _
    rw [h1'] at this
    simp only [Option.some.injEq] at this
    subst this
    apply hno i hi'
    rw [← h2', hcc]; rfl
  unfold spS
  rw [cut_back, bs_data]
  conv => lhs; rw [e, spl_at _ _ hn]
  rw [List.map_cons, cut_front]
theorem sp_end (S : ByteArray) (hno : ∀ i, i < S.size → gB S i ≠ 47) : spS S = [S] := by
  have hn : ∀ c ∈ S.data.toList, c ≠ 47 := by
    intro c hc0 hcc
    obtain ⟨i, hi, he⟩ := List.mem_iff_getElem.1 hc0
    have hi' : i < S.size := by rw [Array.length_toList] at hi; exact hi
    obtain ⟨c', h1', h2'⟩ := gB_get S i hi'
    have : S.data.toList[i]? = some c := by rw [← he]; exact List.getElem?_eq_getElem _
    rw [h1'] at this
    simp only [Option.some.injEq] at this
    subst this
    apply hno i hi'
    rw [← h2', hcc]; rfl
  unfold spS
  rw [spl_none _ hn, List.map_cons, List.map_nil, bs_of]
def sl (ss : List ByteArray) : List Value := ss.map .string
def strSz : Value → Nat | .string s => s.size | _ => 0
/-- What is left at the label. -/
def SJ (s : ByteArray) (w0 : World) (a : Act) (w : World) : Prop :=
  ∃ (S : ByteArray) (done : List ByteArray) (v : Value) (u4 u5 u6 u7 u8 u9 u10 u11 u12 u13 u14 u15 u16 u17 u18 u19 u20 u21 u22 u23 u24 u25 u26 u27 : Value), a = { tmps := #[.string S, undef, .slice none 0 0, v, u4, u5, u6, u7, u8, u9, u10, u11, u12, u13, u14, u15, u16, u17, u18, u19, u20, u21, u22, u23, u24, u25, u26, u27], defers := [] } ∧
    spS s = done ++ spS S ∧ w.ownsRow w0.heap.size 9 1 v done.length (sl done) ∧ Below w0.heap.size w0 w ∧ done.length + S.size ≤ s.size
def SplitIs (s : ByteArray) (w : World) (e : Ending) (w' : World) : Prop := ∃ v, e = .returned v ∧ w'.ownsRow w.heap.size 9 1 v (spS s).length (sl (spS s)) ∧ Below w.heap.size w w'
set_option maxHeartbeats 1000000 in
set_option maxRecDepth 1000000 in
theorem split_any (s : ByteArray) (w : World) (hs : s.size ≤ 1048576) : Calls Try.prog 38 #[.string s] w (SplitIs s w) := by
  obtain ⟨i0, hi, hz0, hz1, hz2⟩ := info_parts Try.info9
  replace hi := Lib.hid hi
  replace hz0 := Lib.hid hz0
  replace hz1 := Lib.hid hz1
  replace hz2 := Lib.hid hz2
  go_enter Try.func38, Try.ntmps38
  go_wp2
  refine wp_scope_jumps 0 (SJ s w) (fun a' _ => strSz (a'.tmps.getD 0 undef)) rfl ?_ ?_
  · go_wp2
    go_step3
    go_wp2
    have hb := Below.refl w.heap.size w
    have hown : w.ownsRow w.heap.size 9 1 (.slice none 0 0) ([] : List ByteArray).length (sl []) := ⟨rfl, .inl ⟨rfl, rfl⟩⟩
    have hsp : spS s = ([] : List ByteArray) ++ spS s := rfl
    have hsz : ([] : List ByteArray).length + s.size ≤ s.size := by simp
    have hS6 : s.size ≤ 1048576 := by omega
    have hd6 : ([] : List ByteArray).length ≤ 1048576 := by omega
    have hlt2 : ∀ p, Below w.heap.size w (w.iter s p) := fun p => iter_below w s p
    have zr := hb.size
    replace hb := Lib.hid hb
    replace hown := Lib.hid hown
    replace hsp := Lib.hid hsp
    replace hsz := Lib.hid hsz
    go_loopw [0, 3, 4, 5] (fun x0 x3 _ _ wr => x0 = .string s ∧ x3 = .slice none 0 0 ∧ ∃ pos, wr = w.iter s pos ∧ pos ≤ s.size ∧ (∀ i, i < pos → gB s i ≠ 47)) (fun _ _ _ _ wr => s.size - wr.iterPos w.heap.size)
    case atStart => exact ⟨rfl, rfl, 0, rfl, by omega, fun i hi => by omega⟩
    case round =>
      obtain ⟨rfl, rfl, pos, rfl, hps, hno⟩ := hrel
      by_cases hp : pos < s.size
      · have hps' : (pos : Int) ≤ 1048576 := by omega
        have hps2 : (pos : Int) < s.size := by omega
        have hdec := decode_stp s pos
        have hle := stp_le (gB s) s.size pos (gB_lt s)
        have hbig := stp_big (gB s) s.size pos (gB_lt s)
        have htl := fun k h0 hk => stp_tail (gB s) s.size pos k h0 hk
        have hasc := stp_ascii (gB s) s.size pos
        have hnx : ∀ ty, (Instr.next (.pointer (some ⟨w.heap.size, 0, none⟩)) true ty).run Try.prog (w.iter s pos) = _ := fun ty => run_next_any w s pos ty hp
        rw [hdec] at hnx
        by_cases hc : gB s pos = 47
        · rw [hasc (by omega), hc] at hnx
          simp only [if_neg (show ¬ (1 = 0) by decide)] at hnx
          have hs1 := sp_at s pos hp hc hno
          replace hs1 := Lib.hid hs1
          replace hno := Lib.hid hno
          have zi : w.heap.size ≤ (w.iter s (pos + 1)).heap.size := (hlt2 (pos + 1)).size
          have own1 := (own_below hown.out (hlt2 (pos + 1))).alloc (.cells #[.string (s.extract 0 pos)] 9)
          have hpn : pos ≤ s.size := by omega
          have hq1 : ¬ (s.size : Int) < (pos : Int) + 1 := by omega
          clear hdec hle hbig htl hasc
          go_wp2_with (at_builtin; go_must (refine wpList_append_own_at _ rfl (.tmp 14) (.tmp 18) 23 rfl w.heap.size 9 i0 (.string ⟨#[]⟩) 1 16 Try.underlying23 hi.out hz0.out hz1.out hz2.out rfl (by decide) _ ([] : List ByteArray).length (sl ([] : List ByteArray)) rfl own1 ⟨(w.iter s (pos + 1)).heap.size, 0, none⟩ 1 1 [.string (s.extract 0 pos)] rfl rfl (cell_one_new _ _ _) (by intro u hu; simp at hu; subst hu; rfl) (by unfold maxLen; omega) (by omega) (by simp; omega) ?_); intro v2 w2 o2 gr2 n2 nb2)
          go_step3
          have hsz2 : (s.extract (pos + 1) s.size).size = s.size - (pos + 1) := by simp
          refine ⟨rfl, ⟨s.extract (pos + 1) s.size, ([] : List ByteArray) ++ [s.extract 0 pos], v2, _, _, _, _, _, _, _, _, _, _, _, _, _, _, _, _, _, _, _, _, _, _, _, _, rfl, ?_, ?_, ?_, ?_⟩⟩
          · rw [hsp.out, hs1.out, List.append_assoc]; rfl
          · rw [show sl (([] : List ByteArray) ++ [s.extract 0 pos]) = sl ([] : List ByteArray) ++ [.string (s.extract 0 pos)] by simp [sl], List.length_append, List.length_singleton]
            exact o2
          · exact ((hb.out.trans ((hlt2 (pos + 1)).mono zr)).alloc (by omega) _).grown gr2 (by simp; omega) (fun j hj => (own1.lt j hj).1)
          · rw [hsz2, List.length_append, List.length_singleton]; have := hsz.out; omega
        · obtain ⟨⟨n, c⟩, hst⟩ : ∃ q, q = stp (gB s) s.size pos := ⟨_, rfl⟩
          rw [← hst] at hnx hle hbig htl
          simp only at hnx hle hbig htl
          have hcn : n ≠ 0 → c ≠ 47 := by
            intro hn0 h47
            by_cases h128 : gB s pos < 128
            · rw [hasc h128] at hst
              simp only [Prod.mk.injEq] at hst
              omega
            · rcases hbig (by omega) with h | h <;> omega
          have hfit : pos + n ≤ s.size := by
            by_cases h1 : n ≤ 1
            · omega
            · have := htl (n - 1) (by omega) (by omega)
              omega
          have hno2 : ∀ i, i < pos + (if n = 0 then 1 else n) → gB s i ≠ 47 := by
            intro i hi
            by_cases h1 : i < pos
            · exact hno i h1
            · by_cases h2 : i = pos
              · subst h2; exact hc
              · have hn0 : ¬ n = 0 := by intro h; rw [if_pos h] at hi; omega
                rw [if_neg hn0] at hi
                have := htl (i - pos) (by omega) (by omega)
                rw [show pos + (i - pos) = i by omega] at this
                omega
          replace hno2 := Lib.hid hno2
          replace hno := Lib.hid hno
          clear hdec hbig htl hasc hst
          by_cases h0 : n = 0
          · subst h0
            simp only [if_true] at hnx
            go_wp2_with fail
            go_roundw
            case rel => exact ⟨rfl, rfl, pos + 1, rfl, by omega, hno2.out⟩
            case measure => simp; omega
          · rw [if_neg h0] at hnx
            have hcz : ((c : Int) == 47) = false := beq_eq_false_iff_ne.2 (by have := hcn h0; omega)
            have hno3 := hno2.out
            rw [if_neg h0] at hno3
            replace hno3 := Lib.hid hno3
            have hn1 : 1 ≤ n := by omega
            replace h0 := Lib.hid h0
            replace hcn := Lib.hid hcn
            go_wp2_with fail
            go_roundw
            case rel => exact ⟨rfl, rfl, pos + n, rfl, hfit, hno3.out⟩
            case measure => simp; omega
      · have hnx : ∀ ty, (Instr.next (.pointer (some ⟨w.heap.size, 0, none⟩)) true ty).run Try.prog (w.iter s pos) = _ := fun ty => run_next_end w s pos ty hp
        have hs1 := sp_end s (fun i hi => hno i (by omega))
        replace hs1 := Lib.hid hs1
        replace hno := Lib.hid hno
        have own1 := (own_below hown.out (hlt2 pos)).alloc (.cells #[.string s] 9)
        have zi : w.heap.size ≤ (w.iter s pos).heap.size := (hlt2 pos).size
        go_wp2_with (at_builtin; go_must (refine wpList_append_own_at _ rfl (.tmp 24) (.tmp 26) 23 rfl w.heap.size 9 i0 (.string ⟨#[]⟩) 1 16 Try.underlying23 hi.out hz0.out hz1.out hz2.out rfl (by decide) _ ([] : List ByteArray).length (sl ([] : List ByteArray)) rfl own1 ⟨(w.iter s pos).heap.size, 0, none⟩ 1 1 [.string s] rfl rfl (cell_one_new _ _ _) (by intro u hu; simp at hu; subst hu; rfl) (by unfold maxLen; omega) (by omega) (by simp; omega) ?_); intro v2 w2 o2 gr2 n2 nb2)
        simp only [Exit.jump]
        go_ret
        refine ⟨_, rfl, ?_, ((hb.out.trans ((hlt2 pos).mono zr)).alloc (by omega) _).grown gr2 (by simp; omega) (fun j hj => (own1.lt j hj).1)⟩
        rw [hsp.out, hs1.out, show sl (([] : List ByteArray) ++ [s]) = sl ([] : List ByteArray) ++ [.string s] by simp [sl], List.length_append, List.length_singleton]
        exact o2
  · rintro a' w' ⟨S, done, v, u4, u5, u6, u7, u8, u9, u10, u11, u12, u13, u14, u15, u16, u17, u18, u19, u20, u21, u22, u23, u24, u25, u26, u27, rfl, hsp, hown, hb, hsz⟩
    go_wp2
    have hS6 : S.size ≤ 1048576 := by omega
    have hd6 : done.length ≤ 1048576 := by omega
    have hlt2 : ∀ p, Below w'.heap.size w' (w'.iter S p) := fun p => iter_below w' S p
    have zr := hb.size
    replace hb := Lib.hid hb
    replace hown := Lib.hid hown
    replace hsp := Lib.hid hsp
    replace hsz := Lib.hid hsz
    obtain ⟨a1, c1, rfl⟩ := own_slice hown.out
    go_loopw [0, 3, 4, 5] (fun x0 x3 _ _ wr => x0 = .string S ∧ x3 = .slice a1 done.length c1 ∧ ∃ pos, wr = w'.iter S pos ∧ pos ≤ S.size ∧ (∀ i, i < pos → gB S i ≠ 47)) (fun _ _ _ _ wr => S.size - wr.iterPos w'.heap.size)
    case atStart => exact ⟨rfl, rfl, 0, rfl, by omega, fun i hi => by omega⟩
    case round =>
      obtain ⟨rfl, rfl, pos, rfl, hps, hno⟩ := hrel
      by_cases hp : pos < S.size
      · have hps' : (pos : Int) ≤ 1048576 := by omega
        have hps2 : (pos : Int) < S.size := by omega
        have hdec := decode_stp S pos
        have hle := stp_le (gB S) S.size pos (gB_lt S)
        have hbig := stp_big (gB S) S.size pos (gB_lt S)
        have htl := fun k h0 hk => stp_tail (gB S) S.size pos k h0 hk
        have hasc := stp_ascii (gB S) S.size pos
        have hnx : ∀ ty, (Instr.next (.pointer (some ⟨w'.heap.size, 0, none⟩)) true ty).run Try.prog (w'.iter S pos) = _ := fun ty => run_next_any w' S pos ty hp
        rw [hdec] at hnx
        by_cases hc : gB S pos = 47
        · rw [hasc (by omega), hc] at hnx
          simp only [if_neg (show ¬ (1 = 0) by decide)] at hnx
          have hs1 := sp_at S pos hp hc hno
          replace hs1 := Lib.hid hs1
          replace hno := Lib.hid hno
          have zi : w'.heap.size ≤ (w'.iter S (pos + 1)).heap.size := (hlt2 (pos + 1)).size
          have own1 := (own_below hown.out (hlt2 (pos + 1))).alloc (.cells #[.string (S.extract 0 pos)] 9)
          have hpn : pos ≤ S.size := by omega
          have hq1 : ¬ (S.size : Int) < (pos : Int) + 1 := by omega
          clear hdec hle hbig htl hasc
          go_wp2_with (at_builtin; go_must (refine wpList_append_own_at _ rfl (.tmp 14) (.tmp 18) 23 rfl w.heap.size 9 i0 (.string ⟨#[]⟩) 1 16 Try.underlying23 hi.out hz0.out hz1.out hz2.out rfl (by decide) _ done.length (sl done) rfl own1 ⟨(w'.iter S (pos + 1)).heap.size, 0, none⟩ 1 1 [.string (S.extract 0 pos)] rfl rfl (cell_one_new _ _ _) (by intro u hu; simp at hu; subst hu; rfl) (by unfold maxLen; omega) (by omega) (by simp; omega) ?_); intro v2 w2 o2 gr2 n2 nb2)
          go_step3
          have hsz2 : (S.extract (pos + 1) S.size).size = S.size - (pos + 1) := by simp
          refine ⟨rfl, ⟨S.extract (pos + 1) S.size, done ++ [S.extract 0 pos], v2, _, _, _, _, _, _, _, _, _, _, _, _, _, _, _, _, _, _, _, _, _, _, _, _, rfl, ?_, ?_, ?_, ?_⟩, ?_⟩
          · rw [hsp.out, hs1.out, List.append_assoc]; rfl
          · rw [show sl (done ++ [S.extract 0 pos]) = sl done ++ [.string (S.extract 0 pos)] by simp [sl], List.length_append, List.length_singleton]
            exact o2
          · exact ((hb.out.trans ((hlt2 (pos + 1)).mono zr)).alloc (by omega) _).grown gr2 (by simp; omega) (fun j hj => (own1.lt j hj).1)
          · rw [hsz2, List.length_append, List.length_singleton]; have := hsz.out; omega
          · show (S.extract (pos + 1) S.size).size < S.size
            rw [hsz2]; omega
        · obtain ⟨⟨n, c⟩, hst⟩ : ∃ q, q = stp (gB S) S.size pos := ⟨_, rfl⟩
          rw [← hst] at hnx hle hbig htl
          simp only at hnx hle hbig htl
          have hcn : n ≠ 0 → c ≠ 47 := by
            intro hn0 h47
            by_cases h128 : gB S pos < 128
            · rw [hasc h128] at hst
              simp only [Prod.mk.injEq] at hst
              omega
            · rcases hbig (by omega) with h | h <;> omega
          have hfit : pos + n ≤ S.size := by
            by_cases h1 : n ≤ 1
            · omega
            · have := htl (n - 1) (by omega) (by omega)
              omega
          have hno2 : ∀ i, i < pos + (if n = 0 then 1 else n) → gB S i ≠ 47 := by
            intro i hi
            by_cases h1 : i < pos
            · exact hno i h1
            · by_cases h2 : i = pos
              · subst h2; exact hc
              · have hn0 : ¬ n = 0 := by intro h; rw [if_pos h] at hi; omega
                rw [if_neg hn0] at hi
                have := htl (i - pos) (by omega) (by omega)
                rw [show pos + (i - pos) = i by omega] at this
                omega
          replace hno2 := Lib.hid hno2
          replace hno := Lib.hid hno
          clear hdec hbig htl hasc hst
          by_cases h0 : n = 0
          · subst h0
            simp only [if_true] at hnx
            go_wp2_with fail
            go_roundw
            case rel => exact ⟨rfl, rfl, pos + 1, rfl, by omega, hno2.out⟩
            case measure => simp; omega
          · rw [if_neg h0] at hnx
            have hcz : ((c : Int) == 47) = false := beq_eq_false_iff_ne.2 (by have := hcn h0; omega)
            have hno3 := hno2.out
            rw [if_neg h0] at hno3
            replace hno3 := Lib.hid hno3
            have hn1 : 1 ≤ n := by omega
            replace h0 := Lib.hid h0
            replace hcn := Lib.hid hcn
            go_wp2_with fail
            go_roundw
            case rel => exact ⟨rfl, rfl, pos + n, rfl, hfit, hno3.out⟩
            case measure => simp; omega
      · have hnx : ∀ ty, (Instr.next (.pointer (some ⟨w'.heap.size, 0, none⟩)) true ty).run Try.prog (w'.iter S pos) = _ := fun ty => run_next_end w' S pos ty hp
        have hs1 := sp_end S (fun i hi => hno i (by omega))
        replace hs1 := Lib.hid hs1
        replace hno := Lib.hid hno
        have own1 := (own_below hown.out (hlt2 pos)).alloc (.cells #[.string S] 9)
        have zi : w'.heap.size ≤ (w'.iter S pos).heap.size := (hlt2 pos).size
        go_wp2_with (at_builtin; go_must (refine wpList_append_own_at _ rfl (.tmp 24) (.tmp 26) 23 rfl w.heap.size 9 i0 (.string ⟨#[]⟩) 1 16 Try.underlying23 hi.out hz0.out hz1.out hz2.out rfl (by decide) _ done.length (sl done) rfl own1 ⟨(w'.iter S pos).heap.size, 0, none⟩ 1 1 [.string S] rfl rfl (cell_one_new _ _ _) (by intro u hu; simp at hu; subst hu; rfl) (by unfold maxLen; omega) (by omega) (by simp; omega) ?_); intro v2 w2 o2 gr2 n2 nb2)
        simp only [Exit.jump]
        go_ret
        refine ⟨_, rfl, ?_, ((hb.out.trans ((hlt2 pos).mono zr)).alloc (by omega) _).grown gr2 (by simp; omega) (fun j hj => (own1.lt j hj).1)⟩
        rw [hsp.out, hs1.out, show sl (done ++ [S]) = sl done ++ [.string S] by simp [sl], List.length_append, List.length_singleton]
        exact o2
end Go.Proofs.Ytfdaooaooalknaa
