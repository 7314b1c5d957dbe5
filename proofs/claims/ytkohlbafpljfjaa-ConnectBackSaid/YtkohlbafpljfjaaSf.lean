/-
  LAYER 15: answers: PutAck of both sides.
-/
import Derived.Test.YtkohlbafpljfjaaSe
namespace Go.Proofs.Ytkohlbafpljfjaa
set_option linter.unusedSimpArgs false
set_option linter.unusedVariables false
open Go.RowKit

/-- The slice value v reads as the numbers l. -/
def IntsAt (w : World) (v : Value) (l : List Int) : Prop :=
  ∃ a cap, v = .slice a l.length cap ∧ l.length ≤ 9223372036854775807 ∧ (l = [] ∨ ∃ b o, a = some ⟨b, o, none⟩ ∧ b < w.heap.size ∧ ∀ i, i < l.length → w.cell? ⟨b, o + i, none⟩ = some (.int .i64 (l.getD i 0)))
theorem IntsAt.keep {w w' : World} {v : Value} {l : List Int} (h : IntsAt w v l) {B : Nat} (hb : Below B w w') (hB : w.heap.size ≤ B) : IntsAt w' v l := by
  obtain ⟨a, cap, hv, hc, h⟩ := h
  refine ⟨a, cap, hv, hc, h.imp id ?_⟩
  rintro ⟨b, o, ha, hlt, hcell⟩
  exact ⟨b, o, ha, Nat.lt_of_lt_of_le hlt hb.size, fun i hi => by rw [hb.cell (by simpa using by omega)]; exact hcell i hi⟩
theorem IsRow.ints {w : World} {a : Option Addr} {len cap : Nat} {zs : List Int} (h : IsRow .i64 w a len cap zs) : IntsAt w (.slice a len cap) (zs.take len) ∧ ∀ c ∈ zs.take len, -9223372036854775808 ≤ c ∧ c ≤ 9223372036854775807 := by
  have hl := h.len_le
  have hc := h.cellAt
  have e : (zs.take len).length = len := by
    rcases h with ⟨rfl, rfl, rfl, rfl⟩ | ⟨x, rfl, hl, hm, hz, hcell, hwz⟩
    · rfl
    · simp; omega
  refine ⟨⟨a, cap, by rw [e], by rw [e]; omega, ?_⟩, ?_⟩
  · rcases hc with h0 | ⟨b, o, ha, hb, hcell⟩
    · left; exact List.eq_nil_of_length_eq_zero (by omega)
    · right
      refine ⟨b, o, ha, hb, fun i hi => ?_⟩
      rw [(hcell i (by omega)).1]
      simp [List.getD, List.getElem?_take, show i < len by omega]
  · intro c hcm
    rcases h with ⟨rfl, rfl, rfl, rfl⟩ | ⟨x, rfl, hl, hm, hz, hcell, hwz⟩
    · simp at hcm
    · exact wf_i64 (hwz c (List.mem_of_mem_take hcm))
def ackE (id : Int) (l : List Int) : Int := if beginE id l.length ≠ 0 then beginE id l.length else if l.all codeB then 0 else 5
def ackL (id : Int) (l : List Int) : List Nat := if ackE id l = 0 then [(id / 256).toNat, (id % 256).toNat] ++ l.map Int.toNat else []
theorem codeB_lo {c : Int} (h : codeB c = true) : 0 ≤ c ∧ c ≤ 128 := by unfold codeB at h; have := of_decide_eq_true h; omega
theorem code_wrap {c : Int} (h : codeB c = true) : IntKind.u8.wrap c = ((c.toNat : Nat) : Int) := by
  have := codeB_lo h
  rw [IntKind.wrap_u8']; omega
theorem int_at {w wr : World} {a : Option Addr} {l : List Int} {k : Nat} (hk : k < l.length) (hb : Below w.heap.size w wr)
    (hc : l = [] ∨ ∃ b o, a = some ⟨b, o, none⟩ ∧ b < w.heap.size ∧ ∀ i, i < l.length → w.cell? ⟨b, o + i, none⟩ = some (.int .i64 (l.getD i 0))) :
    ∃ b o, a = some ⟨b, o, none⟩ ∧ b < w.heap.size ∧ wr.cell? ⟨b, o + k, none⟩ = some (.int .i64 (l.getD k 0)) := by
  rcases hc with h | ⟨b, o, ha, hlt, hc⟩
  · subst h; simp at hk
  · exact ⟨b, o, ha, hlt, by rw [hb.cell (by simpa using hlt)]; exact hc k hk⟩
theorem take_snocI (l : List Int) (k : Nat) (h : k < l.length) : l.take (k + 1) = l.take k ++ [l.getD k 0] := by
  rw [List.take_succ_eq_append_getElem h]; simp [List.getD, h]
theorem begin_zero {id n : Int} (h0 : 0 ≤ n) (hB : beginE id n = 0) : n ≤ 8 ∧ n ≠ 0 ∧ (1 ≤ id ∧ id ≤ 65535) := by
  unfold beginE at hB
  by_cases c1 : id < 1 ∨ 65535 < id
  · rw [if_pos c1] at hB; cases hB
  rw [if_neg c1] at hB
  by_cases c2 : n = 0
  · rw [if_pos c2] at hB; cases hB
  rw [if_neg c2] at hB
  by_cases c3 : 8 < n
  · rw [if_pos c3] at hB; cases hB
  omega
set_option maxHeartbeats 4000000 in
set_option maxRecDepth 100000 in
theorem ack15_any (id : Int) (v : Value) (l : List Int) (w : World) (hid : -9223372036854775808 ≤ id ∧ id ≤ 9223372036854775807) (hs : IntsAt w v l) :
    Calls Try.prog 15 #[.int .i64 id, v] w (PutsP (ackE id l) (ackL id l) w) := by
  obtain ⟨i0, hi, hz0, hz1, hz2⟩ := info_parts info5
  replace hi := Lib.hid hi
  replace hz0 := Lib.hid hz0
  replace hz1 := Lib.hid hz1
  replace hz2 := Lib.hid hz2
  obtain ⟨a, cap, rfl, hlen, hc⟩ := hs
  have BG := Lib.hid (begin_any id l.length w hid (by omega))
  have hlen' : (l.length : Int) ≤ 9223372036854775807 := by omega
  replace hid := Lib.hid hid
  replace hc := Lib.hid hc
  by_cases hB : ¬ beginE id l.length = 0
  · have e : ackE id l = beginE id l.length := by unfold ackE; rw [if_pos hB]
    have el : ackL id l = [] := by unfold ackL; rw [if_neg (by rw [e]; exact hB)]
    rw [e, el]
    clear e el
    have hd : (beginE id l.length != 0) = true := by simpa using hB
    generalize beginE id l.length = E at *
    replace hB := Lib.hid hB
    go_enter Try.func15, Try.ntmps15
    go_wp2_with fail
    refine (BG.out).mono ?_
    rintro e w1 ⟨v1, rfl, -, hb⟩
    replace hb := Lib.hid hb
    go_wp2_with fail
    go_ret2
    exact ⟨_, rfl, bytes_nil _, hb.out⟩
  · replace hB := Decidable.not_not.1 hB
    obtain ⟨hl8, -, -⟩ := begin_zero (by omega) hB
    have el : beginL id l.length = [(id / 256).toNat, (id % 256).toNat] := by unfold beginL; rw [if_pos hB]
    have e : ackE id l = if l.all codeB then 0 else 5 := by unfold ackE; rw [if_neg (by simpa using hB)]
    have pl : ackL id l = if ackE id l = 0 then [(id / 256).toNat, (id % 256).toNat] ++ l.map Int.toNat else [] := rfl
    rw [hB, el] at BG
    replace el := Lib.hid el
    generalize ackL id l = PL at *
    generalize ackE id l = PE at *
    generalize hH : [(id / 256).toNat, (id % 256).toNat] = H at *
    have hH2 : H.length = 2 := by rw [← hH]; rfl
    replace hH := Lib.hid hH
    replace e := Lib.hid e
    replace pl := Lib.hid pl
    replace hB := Lib.hid hB
    replace hH2 := Lib.hid hH2
    go_enter Try.func15, Try.ntmps15
    go_wp2_with fail
    refine (BG.out).mono ?_
    rintro e1 w1 ⟨v1, rfl, ho, hb⟩
    obtain ⟨a1, c1, rfl⟩ : ∃ a c, v1 = .slice a H.length c := by
      obtain ⟨a', c', hv, -⟩ := BytesAt.of_own ho
      exact ⟨a', c', hv⟩
    replace ho := Lib.hid ho
    replace hb := Lib.hid hb
    go_wp2_with fail
    go_loopw [6, 22] (fun o i wr => ∃ k : Nat, i = .int .i64 k ∧ k ≤ l.length ∧ (∀ g ∈ l.take k, codeB g = true) ∧ HP w (H ++ (l.take k).map Int.toNat) o wr) (fun _ i _ => l.length - (intOf i).toNat)
    case atStart => exact ⟨0, rfl, by omega, by simp, by simpa using ho.out, hb.out⟩
    case round =>
      obtain ⟨k, rfl, hk, hall, hown, hb1⟩ := hrel
      clear hb ho BG
      replace hall := Lib.hid hall
      replace hb1 := Lib.hid hb1
      by_cases hend : k = l.length
      · subst hend
        rw [List.take_length] at hown hall
        have hA : l.all codeB = true := List.all_eq_true.2 hall.out
        have hE : PE = 0 := by rw [e.out, if_pos hA]
        have pl' := pl.out
        rw [hE, if_pos rfl] at pl'
        have hB2 := BytesAt.of_own hown
        generalize H ++ l.map Int.toNat = L at *
        replace hE := Lib.hid hE
        replace hA := Lib.hid hA
        replace pl' := Lib.hid pl'
        replace hB2 := Lib.hid hB2
        clear hown
        go_wp2_with fail
        go_ret2
        exact ⟨_, by rw [hE.out]; rfl, by rw [pl'.out]; exact hB2.out, hb1.out⟩
      have klt : (k : Int) < (l.length : Int) := by omega
      have klt' : k < l.length := by omega
      obtain ⟨b, o, rfl, hbl, q0⟩ := int_at klt' hb1.out hc.out
      have hsn := take_snocI l k klt'
      generalize hcd : l.getD k 0 = c at *
      have hmem : c ∈ l := by rw [← hcd]; simp [List.getD, klt']
      have hlen3 : (H ++ (l.take k).map Int.toNat).length ≤ 10 := by rw [List.length_append, hH2.out, List.length_map, List.length_take]; omega
      have CD := Lib.hid fun w => code_any 32 (.inl rfl) c w
      replace hcd := Lib.hid hcd
      by_cases hco : codeB c = true
      · have hw := code_wrap hco
        have hcl := codeB_lo hco
        have hall2 : ∀ g ∈ l.take (k + 1), codeB g = true := by
          rw [hsn]; intro g hg
          rcases List.mem_append.1 hg with hg | hg
          · exact hall.out g hg
          · rw [List.mem_singleton.1 hg]; exact hco
        have hj2 : H ++ (l.take (k + 1)).map Int.toNat = (H ++ (l.take k).map Int.toNat) ++ [c.toNat] := by rw [hsn, List.map_append, List.append_assoc]; rfl
        rw [hco] at CD
        obtain ⟨n, rfl⟩ := Int.eq_ofNat_of_zero_le hcl.1
        have hn : n ≤ 128 := by omega
        rw [Int.toNat_natCast] at hw hj2
        replace hj2 := Lib.hid hj2
        replace hall2 := Lib.hid hall2
        replace hsn := Lib.hid hsn
        replace hco := Lib.hid hco
        replace hmem := Lib.hid hmem
        have own0 := Lib.hid hown
        clear hown hcl
        obtain ⟨L, gL⟩ : ∃ L, L = H ++ (l.take k).map Int.toNat := ⟨_, rfl⟩
        rw [← gL] at own0 hlen3 hj2
        replace gL := Lib.hid gL
        go_wp2_with (first | (go_at_call 32; refine (CD.out _).mono ?_; rintro e w' ⟨rfl, rfl⟩) | (at_builtin; (refine wpList_append_bytes _ rfl (.tmp 29) (.tmp 32) 23 rfl w.heap.size 5 i0 Try.underlying23 hi.out hz0.out hz1.out hz2.out u6 L [n] rfl (own_below own0.out (ext_alloc _ _)) (one_at wr n) (by simp only [List.length_singleton]; omega) (by have := hb1.out.size; simp; omega) ?_); intro v4 w4 o4 g4 n4; clear n4; have B4 := Lib.hid ((hb1.out.trans ((ext_alloc wr (.cells #[.int .u8 (n : Int)] 5)).mono hb1.out.size)).trans (grown_ext (own_below own0.out (ext_alloc _ _)) g4 (by have := hb1.out.size; simp; omega))); clear g4; replace o4 := Lib.hid o4))
        go_roundw
        case rel => exact ⟨k + 1, by simp, by omega, hall2.out, by rw [hj2.out]; exact o4.out, B4.out⟩
        case measure => simp [intOf]; omega
      · have hco' : codeB c = false := by simpa using hco
        have hA : l.all codeB = false := by
          rw [List.all_eq_false]; exact ⟨c, hmem, by simpa using hco⟩
        have hE : PE = 5 := by rw [e.out, hA]; rfl
        have hP : PL = [] := by rw [pl.out, hE, if_neg (by decide)]
        rw [hco'] at CD
        replace hE := Lib.hid hE
        replace hP := Lib.hid hP
        replace hA := Lib.hid hA
        replace hco := Lib.hid hco
        replace hco' := Lib.hid hco'
        replace hmem := Lib.hid hmem
        replace hsn := Lib.hid hsn
        clear hown
        go_wp2_with (go_at_call 32; refine (CD.out _).mono ?_; rintro e w' ⟨rfl, rfl⟩)
        go_ret2
        exact ⟨_, by rw [hE.out]; rfl, by rw [hP.out]; exact bytes_nil _, hb1.out⟩
set_option maxHeartbeats 4000000 in
set_option maxRecDepth 100000 in
theorem ack16_any (id : Int) (v : Value) (l : List Int) (w : World) (hid : -9223372036854775808 ≤ id ∧ id ≤ 9223372036854775807) (hs : IntsAt w v l) :
    Calls Try.prog 16 #[.int .i64 id, v] w (PutsP (ackE id l) (ackL id l) w) := by
  obtain ⟨i0, hi, hz0, hz1, hz2⟩ := info_parts info5
  replace hi := Lib.hid hi
  replace hz0 := Lib.hid hz0
  replace hz1 := Lib.hid hz1
  replace hz2 := Lib.hid hz2
  obtain ⟨a, cap, rfl, hlen, hc⟩ := hs
  have BG := Lib.hid (putid_any id w hid)
  have hlen' : (l.length : Int) ≤ 9223372036854775807 := by omega
  replace hid := Lib.hid hid
  replace hc := Lib.hid hc
  by_cases hB : ¬ beginE id l.length = 0
  · have e : ackE id l = beginE id l.length := by unfold ackE; rw [if_pos hB]
    have el : ackL id l = [] := by unfold ackL; rw [if_neg (by rw [e]; exact hB)]
    rw [e, el]
    clear e el
    unfold beginE at hB ⊢
    by_cases c1 : id < 1 ∨ 65535 < id
    · rw [if_pos c1]
      have e1 : idE id = 1 := by unfold idE; rw [if_pos c1]
      rw [e1] at BG
      replace hB := Lib.hid hB
      clear c1
      go_enter Try.func16, Try.ntmps16
      go_wp2_with fail
      refine (BG.out).mono ?_
      rintro e w1 ⟨v1, rfl, -, hb⟩
      replace hb := Lib.hid hb
      go_wp2_with fail
      go_ret2
      exact ⟨_, rfl, bytes_nil _, hb.out⟩
    rw [if_neg c1] at hB ⊢
    have e1 : idE id = 0 := by unfold idE; rw [if_neg c1]
    rw [e1] at BG
    clear c1
    by_cases c2 : (l.length : Int) = 0
    · rw [if_pos c2]
      have l0 : ((l.length : Int) == 0) = true := by simpa using c2
      replace c2 := Lib.hid c2
      replace hB := Lib.hid hB
      go_enter Try.func16, Try.ntmps16
      go_wp2_with fail
      refine (BG.out).mono ?_
      rintro e w1 ⟨v1, rfl, -, hb⟩
      replace hb := Lib.hid hb
      go_wp2_with fail
      go_ret2
      exact ⟨_, rfl, bytes_nil _, hb.out⟩
    rw [if_neg c2] at hB ⊢
    by_cases c3 : 8 < (l.length : Int)
    · rw [if_pos c3]
      replace c2 := Lib.hid c2
      replace hB := Lib.hid hB
      go_enter Try.func16, Try.ntmps16
      go_wp2_with fail
      refine (BG.out).mono ?_
      rintro e w1 ⟨v1, rfl, -, hb⟩
      replace hb := Lib.hid hb
      go_wp2_with fail
      go_ret2
      exact ⟨_, rfl, bytes_nil _, hb.out⟩
    · rw [if_neg c3] at hB; exact absurd rfl hB
  · replace hB := Decidable.not_not.1 hB
    obtain ⟨hl8, hl0, hid1, hid2⟩ := begin_zero (by omega) hB
    have l0 : ((l.length : Int) == 0) = false := by rw [beq_eq_false_iff_ne]; omega
    have e1 : idE id = 0 := by unfold idE; rw [if_neg (by omega)]
    have eL : idL id = [(id / 256).toNat, (id % 256).toNat] := by unfold idL; rw [if_pos e1]
    have e : ackE id l = if l.all codeB then 0 else 5 := by unfold ackE; rw [if_neg (by simpa using hB)]
    have pl : ackL id l = if ackE id l = 0 then [(id / 256).toNat, (id % 256).toNat] ++ l.map Int.toNat else [] := rfl
    rw [e1, eL] at BG
    replace e1 := Lib.hid e1
    replace hl0 := Lib.hid hl0
    clear eL
    generalize ackL id l = PL at *
    generalize ackE id l = PE at *
    generalize hH : [(id / 256).toNat, (id % 256).toNat] = H at *
    have hH2 : H.length = 2 := by rw [← hH]; rfl
    replace hH := Lib.hid hH
    replace e := Lib.hid e
    replace pl := Lib.hid pl
    replace hB := Lib.hid hB
    replace hH2 := Lib.hid hH2
    go_enter Try.func16, Try.ntmps16
    go_wp2_with fail
    refine (BG.out).mono ?_
    rintro e1 w1 ⟨v1, rfl, ho, hb⟩
    obtain ⟨a1, c1, rfl⟩ : ∃ a c, v1 = .slice a H.length c := by
      obtain ⟨a', c', hv, -⟩ := BytesAt.of_own ho
      exact ⟨a', c', hv⟩
    replace ho := Lib.hid ho
    replace hb := Lib.hid hb
    go_wp2_with fail
    go_loopw [6, 8] (fun o i wr => ∃ k : Nat, i = .int .i64 k ∧ k ≤ l.length ∧ (∀ g ∈ l.take k, codeB g = true) ∧ HP w (H ++ (l.take k).map Int.toNat) o wr) (fun _ i _ => l.length - (intOf i).toNat)
    case atStart => exact ⟨0, rfl, by omega, by simp, by simpa using ho.out, hb.out⟩
    case round =>
      obtain ⟨k, rfl, hk, hall, hown, hb1⟩ := hrel
      clear hb ho BG
      replace hall := Lib.hid hall
      replace hb1 := Lib.hid hb1
      by_cases hend : k = l.length
      · subst hend
        rw [List.take_length] at hown hall
        have hA : l.all codeB = true := List.all_eq_true.2 hall.out
        have hE : PE = 0 := by rw [e.out, if_pos hA]
        have pl' := pl.out
        rw [hE, if_pos rfl] at pl'
        have hB2 := BytesAt.of_own hown
        generalize H ++ l.map Int.toNat = L at *
        replace hE := Lib.hid hE
        replace hA := Lib.hid hA
        replace pl' := Lib.hid pl'
        replace hB2 := Lib.hid hB2
        clear hown
        go_wp2_with fail
        go_ret2
        exact ⟨_, by rw [hE.out]; rfl, by rw [pl'.out]; exact hB2.out, hb1.out⟩
      have klt : (k : Int) < (l.length : Int) := by omega
      have klt' : k < l.length := by omega
      obtain ⟨b, o, rfl, hbl, q0⟩ := int_at klt' hb1.out hc.out
      have hsn := take_snocI l k klt'
      generalize hcd : l.getD k 0 = c at *
      have hmem : c ∈ l := by rw [← hcd]; simp [List.getD, klt']
      have hlen3 : (H ++ (l.take k).map Int.toNat).length ≤ 10 := by rw [List.length_append, hH2.out, List.length_map, List.length_take]; omega
      have CD := Lib.hid fun w => code_any 33 (.inr rfl) c w
      replace hcd := Lib.hid hcd
      by_cases hco : codeB c = true
      · have hw := code_wrap hco
        have hcl := codeB_lo hco
        have hall2 : ∀ g ∈ l.take (k + 1), codeB g = true := by
          rw [hsn]; intro g hg
          rcases List.mem_append.1 hg with hg | hg
          · exact hall.out g hg
          · rw [List.mem_singleton.1 hg]; exact hco
        have hj2 : H ++ (l.take (k + 1)).map Int.toNat = (H ++ (l.take k).map Int.toNat) ++ [c.toNat] := by rw [hsn, List.map_append, List.append_assoc]; rfl
        rw [hco] at CD
        obtain ⟨n, rfl⟩ := Int.eq_ofNat_of_zero_le hcl.1
        have hn : n ≤ 128 := by omega
        rw [Int.toNat_natCast] at hw hj2
        replace hj2 := Lib.hid hj2
        replace hall2 := Lib.hid hall2
        replace hsn := Lib.hid hsn
        replace hco := Lib.hid hco
        replace hmem := Lib.hid hmem
        have own0 := Lib.hid hown
        clear hown hcl
        obtain ⟨L, gL⟩ : ∃ L, L = H ++ (l.take k).map Int.toNat := ⟨_, rfl⟩
        rw [← gL] at own0 hlen3 hj2
        replace gL := Lib.hid gL
        go_wp2_with (first | (go_at_call 33; refine (CD.out _).mono ?_; rintro e w' ⟨rfl, rfl⟩) | (at_builtin; (refine wpList_append_bytes _ rfl (.tmp 35) (.tmp 41) 23 rfl w.heap.size 5 i0 Try.underlying23 hi.out hz0.out hz1.out hz2.out u6 L [n] rfl (own_below own0.out (ext_alloc _ _)) (one_at wr n) (by simp only [List.length_singleton]; omega) (by have := hb1.out.size; simp; omega) ?_); intro v4 w4 o4 g4 n4; clear n4; have B4 := Lib.hid ((hb1.out.trans ((ext_alloc wr (.cells #[.int .u8 (n : Int)] 5)).mono hb1.out.size)).trans (grown_ext (own_below own0.out (ext_alloc _ _)) g4 (by have := hb1.out.size; simp; omega))); clear g4; replace o4 := Lib.hid o4))
        go_roundw
        case rel => exact ⟨k + 1, by simp, by omega, hall2.out, by rw [hj2.out]; exact o4.out, B4.out⟩
        case measure => simp [intOf]; omega
      · have hco' : codeB c = false := by simpa using hco
        have hA : l.all codeB = false := by
          rw [List.all_eq_false]; exact ⟨c, hmem, by simpa using hco⟩
        have hE : PE = 5 := by rw [e.out, hA]; rfl
        have hP : PL = [] := by rw [pl.out, hE, if_neg (by decide)]
        rw [hco'] at CD
        replace hE := Lib.hid hE
        replace hP := Lib.hid hP
        replace hA := Lib.hid hA
        replace hco := Lib.hid hco
        replace hco' := Lib.hid hco'
        replace hmem := Lib.hid hmem
        replace hsn := Lib.hid hsn
        clear hown
        go_wp2_with (go_at_call 33; refine (CD.out _).mono ?_; rintro e w' ⟨rfl, rfl⟩)
        go_ret2
        exact ⟨_, by rw [hE.out]; rfl, by rw [hP.out]; exact bytes_nil _, hb1.out⟩
end Go.Proofs.Ytkohlbafpljfjaa
