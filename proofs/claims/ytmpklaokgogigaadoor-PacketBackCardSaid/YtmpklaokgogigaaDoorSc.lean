/-
  LAYER 15: the program's Put.
-/
import Derived.Test.YtmpklaokgogigaaDoorSk
import Derived.Laws.OwnMore
import Derived.Test.YtmpklaokgogigaaDoorBlk
namespace Go.Proofs.YtmpklaokgogigaaDoor
set_option linter.unusedSimpArgs false
set_option linter.unusedVariables false
open Go.RowKit
theorem txt_p (s : ByteArray) (w : World) (hs : s.size ≤ 140737488351232) : Calls Tryd.prog 96 #[.string s] w (TxtP s w) := by
  unfold TxtP txtE
  by_cases h : 65535 < s.size
  · simp only [if_pos h]
    refine (put_long s w h).mono ?_
    rintro e w' ⟨rfl, hw⟩
    refine ⟨_, rfl, ?_, fun h => by cases h⟩
    first | exact hw | (subst hw; exact Below.refl _ _)
  · simp only [if_neg h]
    cases hr : rightB s
    · refine (put_bad s w (by omega) hr).mono ?_
      rintro e w' ⟨rfl, hw⟩
      refine ⟨_, rfl, ?_, fun h => by simp at h⟩
      first | exact hw | (subst hw; exact Below.refl _ _)
    · refine (put_ok s w (by omega) hr).mono ?_
      rintro e w' ⟨v, rfl, ho, hb⟩
      exact ⟨v, rfl, hb, fun _ => own_bytes ho⟩
set_option maxHeartbeats 4000000 in
set_option maxRecDepth 100000 in
theorem put9_any (id : Int) (v : Value) (l : List Fi) (ends : Bool) (w : World) (hid : -9223372036854775808 ≤ id ∧ id ≤ 9223372036854775807) (hs : FisAt w v l) (hok : ∀ f ∈ l, f.ok) :
    Calls Tryd.prog 79 #[.int .i64 id, v, .bool ends] w (PutsP (putE id l ends) (putLs id l ends) w) := by
  obtain ⟨i0, hi, hz0, hz1, hz2⟩ := info_parts info5
  replace hi := Lib.hid hi
  replace hz0 := Lib.hid hz0
  replace hz1 := Lib.hid hz1
  replace hz2 := Lib.hid hz2
  obtain ⟨a, cap, rfl, hlen, hc⟩ := hs
  have BG := Lib.hid (begin_any id l.length w hid (by omega))
  have hlen' : (l.length : Int) ≤ 9223372036854775807 := by omega
  replace hid := Lib.hid hid
  replace hc := Lib.hid hc
  replace hok := Lib.hid hok
  by_cases hB : ¬ beginE id l.length = 0
  · have e : putE id l ends = beginE id l.length := by unfold putE; rw [if_pos hB]
    have el : putLs id l ends = [] := by unfold putLs; rw [if_neg (by rw [e]; exact hB)]
    rw [e, el]
    have hd : (beginE id l.length != 0) = true := by simpa using hB
    clear e el
    generalize beginE id l.length = E at *
    replace hB := Lib.hid hB
    go_enter Tryd.func79, Tryd.ntmps79
    go_wp2_with fail
    refine (BG.out).mono ?_
    rintro e w1 ⟨v1, rfl, -, hb⟩
    replace hb := Lib.hid hb
    go_wp2_with fail
    go_ret2
    exact ⟨_, rfl, bytes_nil _, hb.out⟩
  · replace hB := Decidable.not_not.1 hB
    have hl8 : l.length ≤ 8 := by
      unfold beginE at hB
      by_cases c1 : id < 1 ∨ 65535 < id
      · rw [if_pos c1] at hB; cases hB
      rw [if_neg c1] at hB
      by_cases c2 : (l.length : Int) = 0
      · rw [if_pos c2] at hB; cases hB
      rw [if_neg c2] at hB
      by_cases c3 : 8 < (l.length : Int)
      · rw [if_pos c3] at hB; cases hB
      omega
    have el : beginL id l.length = [(id / 256).toNat, (id % 256).toNat] := by unfold beginL; rw [if_pos hB]
    have e : putE id l ends = if firstF ends l ≠ 0 then firstF ends l else if 4096 < 2 + (fisL ends l).length then 3 else 0 := by unfold putE; rw [if_neg (by simpa using hB)]
    have pl : putLs id l ends = if putE id l ends = 0 then [(id / 256).toNat, (id % 256).toNat] ++ fisL ends l else [] := rfl
    rw [hB, el] at BG
    generalize putLs id l ends = PL at *
    generalize putE id l ends = PE at *
    generalize hH : [(id / 256).toNat, (id % 256).toNat] = H at *
    have hH2 : H.length = 2 := by rw [← hH]; rfl
    replace hH := Lib.hid hH
    replace e := Lib.hid e
    replace pl := Lib.hid pl
    replace el := Lib.hid el
    replace hB := Lib.hid hB
    replace hH2 := Lib.hid hH2
    go_enter Tryd.func79, Tryd.ntmps79
    go_wp2_with fail
    refine (BG.out).mono ?_
    rintro e1 w1 ⟨v1, rfl, ho, hb⟩
    obtain ⟨a1, c1, rfl⟩ : ∃ a c, v1 = .slice a H.length c := by
      obtain ⟨a', c', hv, -⟩ := BytesAt.of_own ho
      exact ⟨a', c', hv⟩
    replace ho := Lib.hid ho
    replace hb := Lib.hid hb
    go_wp2
    go_loopw [26, 8] (fun i o wr => ∃ k : Nat, i = .int .i64 k ∧ k ≤ l.length ∧ (∀ g ∈ l.take k, fiE ends g = 0) ∧ HP w (H ++ fisL ends (l.take k)) o wr) (fun i _ _ => l.length - (intOf i).toNat)
    case atStart => exact ⟨0, rfl, by omega, by simp, by simpa [fisL] using ho.out, hb.out⟩
    case round =>
      obtain ⟨k, rfl, hk, hall, hown, hb1⟩ := hrel
      clear hb ho BG
      replace hall := Lib.hid hall
      replace hb1 := Lib.hid hb1
      by_cases hend : k = l.length
      · subst hend
        rw [List.take_length] at hown hall
        have hF : firstF ends l = 0 := firstF_zero.2 hall.out
        have hlen2 : (H ++ fisL ends l).length = 2 + (fisL ends l).length := by rw [List.length_append, hH2.out]
        have hbd := fisL_len ends l hall.out
        by_cases hbig : 4096 < 2 + (fisL ends l).length
        · have hE : PE = 3 := by rw [e.out, hF, if_neg (by simp), if_pos hbig]
          have hb' : (4096 : Int) < ((H ++ fisL ends l).length : Int) := by omega
          have hle : ((H ++ fisL ends l).length : Int) ≤ 9223372036854775807 := by omega
          generalize H ++ fisL ends l = L at *
          obtain ⟨a2, c2, rfl⟩ : ∃ a c, u8 = .slice a L.length c := by
            obtain ⟨a', c', hv, -⟩ := BytesAt.of_own hown
            exact ⟨a', c', hv⟩
          replace hE := Lib.hid hE
          replace hlen2 := Lib.hid hlen2
          replace hF := Lib.hid hF
          replace hbig := Lib.hid hbig
          clear hown hbd
          go_wp2
          go_ret2
          exact ⟨_, by rw [hE.out]; rfl, by rw [pl.out, hE.out, if_neg (by decide)]; exact bytes_nil _, hb1.out⟩
        · have hE : PE = 0 := by rw [e.out, hF, if_neg (by simp), if_neg hbig]
          have hb' : ((H ++ fisL ends l).length : Int) ≤ 4096 := by omega
          have pl' := pl.out
          rw [hE, if_pos rfl] at pl'
          generalize H ++ fisL ends l = L at *
          have hB2 := BytesAt.of_own hown
          obtain ⟨a2, c2, rfl⟩ : ∃ a c, u8 = .slice a L.length c := by
            obtain ⟨a', c', hv, -⟩ := BytesAt.of_own hown
            exact ⟨a', c', hv⟩
          replace hE := Lib.hid hE
          replace hlen2 := Lib.hid hlen2
          replace hF := Lib.hid hF
          replace hbig := Lib.hid hbig
          replace pl' := Lib.hid pl'
          replace hB2 := Lib.hid hB2
          clear hown hbd
          go_wp2
          go_ret2
          exact ⟨_, by rw [hE.out]; rfl, by rw [pl'.out]; exact hB2.out, hb1.out⟩
      obtain ⟨f, hf⟩ : ∃ f, l[k]? = some f := ⟨_, List.getElem?_eq_getElem (by omega)⟩
      obtain ⟨b, o, rfl, hbl, q0, q1⟩ := fi_at hf hb1.out hc.out
      have klt : (k : Int) < (l.length : Int) := by omega
      have fok := hok.out f (List.mem_of_getElem? hf)
      have hsz : f.t.size ≤ 140737488351232 := fok.1
      by_cases hfE : fiE ends f = 0
      · have hq' : ends = true ∨ (0 ≤ f.q ∧ f.q ≤ 2) := by
          by_cases hq : ends = false ∧ (f.q < 0 ∨ 2 < f.q)
          · obtain ⟨rfl, hq⟩ := hq
            rw [fiE_qos hq] at hfE; cases hfE
          · cases ends
            · right; constructor <;> (by_cases z : f.q < 0 ∨ 2 < f.q; exact absurd ⟨rfl, z⟩ hq; omega)
            · exact .inl rfl
        have hall2 : ∀ g ∈ l.take (k + 1), fiE ends g = 0 := by
          rw [List.take_succ_eq_append_getElem (by omega)]
          intro g hg
          rcases List.mem_append.1 hg with hg | hg
          · exact hall.out g hg
          · rw [List.mem_singleton.1 hg, show l[k]'(by omega) = f from (List.getElem?_eq_some_iff.1 hf).2]; exact hfE
        have hj : fisL ends (l.take (k + 1)) = fisL ends (l.take k) ++ fiL ends f := by
          rw [List.take_succ_eq_append_getElem (by omega), fisL_snoc]
          rw [show l[k]'(by omega) = f from (List.getElem?_eq_some_iff.1 hf).2]
        have hbd := fisL_len ends _ hall.out
        have hkl : (l.take k).length ≤ 8 := by rw [List.length_take]; omega
        have hT : txtE f.t = 0 := by rw [← fiE_txt hq']; exact hfE
        have hts : f.t.size ≤ 65535 := by
          unfold txtE at hT
          by_cases z : 65535 < f.t.size
          · rw [if_pos z] at hT; cases hT
          · omega
        have hd : (txtE f.t != 0) = false := by rw [hT]; rfl
        have hLl : (H ++ fisL ends (l.take k)).length ≤ 2 + 8 * 65538 := by rw [List.length_append, hH2.out]; omega
        have hrl : (rawL f.t).length ≤ 65537 := by rw [rawL_length]; omega
        have own0 : (wr.alloc (.cells #[.string f.t, .int .i64 f.q] 56)).ownsRow w.heap.size 5 1 u8 (H ++ fisL ends (l.take k)).length (bl (H ++ fisL ends (l.take k))) := own_below hown (ext_alloc _ _)
        have B0 : Below w.heap.size w (wr.alloc (.cells #[.string f.t, .int .i64 f.q] 56)) := hb1.out.trans ((ext_alloc _ _).mono hb1.out.size)
        have y0 : wr.heap.size < (wr.alloc (.cells #[.string f.t, .int .i64 f.q] 56)).heap.size := by simp
        have z0 : Blk (wr.alloc (.cells #[.string f.t, .int .i64 f.q] 56)) wr.heap.size 56 #[.string f.t, .int .i64 f.q] := Blk.new wr 56 _
        have hne : some wr.heap.size ≠ u8.ownBlock := by intro he; have := (hown.lt _ he.symm).2; omega
        have T := Lib.hid fun w => txt_p f.t w hsz
        clear hown hbd
        obtain ⟨L, gL⟩ : ∃ L, L = H ++ fisL ends (l.take k) := ⟨_, rfl⟩
        rw [← gL] at own0 hLl
        obtain ⟨R, gR⟩ : ∃ R, R = rawL f.t := ⟨_, rfl⟩
        unfold TxtP at T
        rw [hT] at T
        rw [← gR] at T hrl
        rw [hT] at hd
        have hj2 : H ++ fisL ends (l.take (k + 1)) = (L ++ R) ++ if ends then [] else [f.q.toNat] := by
          rw [hj, gL, gR]; unfold fiL; simp only [List.append_assoc]
        replace hj2 := Lib.hid hj2
        replace gL := Lib.hid gL
        replace gR := Lib.hid gR
        replace hj := Lib.hid hj
        replace hf := Lib.hid hf
        replace hT := Lib.hid hT
        replace hfE := Lib.hid hfE
        replace hall2 := Lib.hid hall2
        replace own0 := Lib.hid own0
        replace B0 := Lib.hid B0
        replace z0 := Lib.hid z0
        replace y0 := Lib.hid y0
        obtain ⟨ft, fq⟩ := f
        simp only at q0 q1 hq' hsz hts hrl T own0 B0 z0 y0 hj2 hfE
        rcases hq' with rfl | ⟨hq1, hq2⟩
        · go_wp2_with fail
          refine (T.out _).mono ?_
          rintro e2 w2 ⟨v2, rfl, hb2, hR⟩
          have own2 := own_below own0.out hb2
          have B2 := Lib.hid (B0.out.trans (hb2.mono B0.out.size))
          have hR2 := hR (by trivial)
          obtain ⟨a3, c3, rfl⟩ : ∃ a c, v2 = .slice a R.length c := by
            obtain ⟨a', c', hv, -⟩ := hR2
            exact ⟨a', c', hv⟩
          clear hR hb2
          go_wp2_with (at_builtin; (refine wpList_append_bytes _ rfl (.tmp 51) (.tmp 52) 48 rfl w.heap.size 5 i0 Tryd.underlying48 hi.out hz0.out hz1.out hz2.out u8 L R rfl own2 hR2 (by omega) B2.out.size ?_); intro v3 w3 o3 g3 n3; clear n3; have B3 := Lib.hid (B2.out.trans (grown_ext own2 g3 B2.out.size)); clear own2 hR2 g3; replace o3 := Lib.hid o3)
          go_roundw
          case rel => exact ⟨k + 1, by simp, by omega, hall2.out, by rw [hj2.out]; simpa using o3.out, B3.out⟩
          case measure => simp [intOf]; omega
        · cases ends
          rotate_left
          · go_wp2_with fail
            refine (T.out _).mono ?_
            rintro e2 w2 ⟨v2, rfl, hb2, hR⟩
            have own2 := own_below own0.out hb2
            have B2 := Lib.hid (B0.out.trans (hb2.mono B0.out.size))
            have hR2 := hR (by trivial)
            obtain ⟨a3, c3, rfl⟩ : ∃ a c, v2 = .slice a R.length c := by
              obtain ⟨a', c', hv, -⟩ := hR2
              exact ⟨a', c', hv⟩
            clear hR hb2
            go_wp2_with (at_builtin; (refine wpList_append_bytes _ rfl (.tmp 51) (.tmp 52) 48 rfl w.heap.size 5 i0 Tryd.underlying48 hi.out hz0.out hz1.out hz2.out u8 L R rfl own2 hR2 (by omega) B2.out.size ?_); intro v3 w3 o3 g3 n3; clear n3; have B3 := Lib.hid (B2.out.trans (grown_ext own2 g3 B2.out.size)); clear own2 hR2 g3; replace o3 := Lib.hid o3)
            go_roundw
            case rel => exact ⟨k + 1, by simp, by omega, hall2.out, by rw [hj2.out]; simpa using o3.out, B3.out⟩
            case measure => simp [intOf]; omega
          · obtain ⟨q, rfl⟩ := Int.eq_ofNat_of_zero_le hq1
            have hqw : IntKind.u8.wrap (q : Int) = (q : Int) := by rw [IntKind.wrap_u8']; omega
            have hqb : bl [q] = [Value.int .u8 (q : Int)] := rfl
            rw [show (if false = true then [] else [((q : Int)).toNat]) = [q] by simp] at hj2
            go_wp2_with fail
            refine (T.out _).mono ?_
            rintro e2 w2 ⟨v2, rfl, hb2, hR⟩
            have own2 := own_below own0.out hb2
            have B2 := Lib.hid (B0.out.trans (hb2.mono B0.out.size))
            have z2 := Lib.hid (z0.out.ext hb2)
            have hR2 := hR (by trivial)
            obtain ⟨a3, c3, rfl⟩ : ∃ a c, v2 = .slice a R.length c := by
              obtain ⟨a', c', hv, -⟩ := hR2
              exact ⟨a', c', hv⟩
            clear hR hb2
            replace hne := Lib.hid hne
            go_wp2_with (first | (at_builtin; (refine wpList_append_bytes _ rfl (.tmp 51) (.tmp 52) 48 rfl w.heap.size 5 i0 Tryd.underlying48 hi.out hz0.out hz1.out hz2.out u8 L R rfl own2 hR2 (by omega) B2.out.size ?_); intro v3 w3 o3 g3 n3; clear n3; have B3 := Lib.hid (B2.out.trans (grown_ext own2 g3 B2.out.size)); have z3 := z2.out.grown g3 hne.out; have q3 := z3.cell 1; simp only [List.getElem?_toArray, List.getElem?_cons_succ, List.getElem?_cons_zero] at q3; clear own2 hR2 g3 z2 z3; replace o3 := Lib.hid o3) | (at_builtin; (refine wpList_append_bytes _ rfl (.tmp 56) (.tmp 60) 48 rfl w.heap.size 5 i0 Tryd.underlying48 hi.out hz0.out hz1.out hz2.out v3 (L ++ R) [q] rfl (own_below o3.out (ext_alloc _ _)) (one_at w3 q) (by rw [List.length_append]; simp only [List.length_singleton]; omega) (by have := B3.out.size; simp; omega) ?_); intro v4 w4 o4 g4 n4; clear n4; have B4 := Lib.hid ((B3.out.trans ((ext_alloc w3 (.cells #[.int .u8 (q : Int)] 5)).mono B3.out.size)).trans (grown_ext (own_below o3.out (ext_alloc _ _)) g4 (by have := B3.out.size; simp; omega))); clear g4 q3; replace o4 := Lib.hid o4))
            go_roundw
            case rel => exact ⟨k + 1, by simp, by omega, hall2.out, by rw [hj2.out]; exact o4.out, B4.out⟩
            case measure => simp [intOf]; omega
      · have hF := firstF_at hall.out hf hfE
        have hE : PE = fiE ends f := by rw [e.out, hF, if_pos hfE]
        have hP : PL = [] := by rw [pl.out, hE, if_neg hfE]
        replace hF := Lib.hid hF
        replace hf := Lib.hid hf
        by_cases hq : ends = false ∧ (f.q < 0 ∨ 2 < f.q)
        · obtain ⟨rfl, hq⟩ := hq
          rw [fiE_qos hq] at hE
          have hq' : f.q < 0 ∨ (0 ≤ f.q ∧ 2 < f.q) := by omega
          replace hE := Lib.hid hE
          replace hP := Lib.hid hP
          replace hfE := Lib.hid hfE
          clear hq
          obtain ⟨ft, fq⟩ := f
          simp only at q0 q1 hq' hsz
          rcases hq' with hq | ⟨hq, hq2⟩
          all_goals
            go_wp2
            go_ret2
            exact ⟨_, by rw [hE.out]; rfl, by rw [hP.out]; exact bytes_nil _, hb1.out.trans ((ext_alloc _ _).mono hb1.out.size)⟩
        · have hq' : ends = true ∨ (0 ≤ f.q ∧ f.q ≤ 2) := by
            cases ends
            · right; constructor <;> (by_cases z : f.q < 0 ∨ 2 < f.q; exact absurd ⟨rfl, z⟩ hq; omega)
            · exact .inl rfl
          have hT := fiE_txt hq'
          have hd : (txtE f.t != 0) = true := by rw [← hT]; simpa using hfE
          rw [hT] at hE
          have T := Lib.hid fun w => txt_p f.t w hsz
          replace hE := Lib.hid hE
          replace hP := Lib.hid hP
          replace hfE := Lib.hid hfE
          replace hT := Lib.hid hT
          clear hq hown
          obtain ⟨ft, fq⟩ := f
          simp only at q0 q1 hq' hsz hd T hE
          unfold TxtP at T
          generalize txtE ft = Et at *
          have B0 := Lib.hid (hb1.out.trans ((ext_alloc wr (.cells #[.string ft, .int .i64 fq] 56)).mono hb1.out.size))
          rcases hq' with rfl | ⟨hq1, hq2⟩
          · go_wp2_with fail
            refine (T.out _).mono ?_
            rintro e2 w2 ⟨v2, rfl, hb2, -⟩
            replace hb2 := Lib.hid hb2
            go_wp2_with fail
            go_ret2
            exact ⟨_, by rw [hE.out]; rfl, by rw [hP.out]; exact bytes_nil _, B0.out.trans (hb2.out.mono B0.out.size)⟩
          · cases ends
            all_goals
              go_wp2_with fail
              refine (T.out _).mono ?_
              rintro e2 w2 ⟨v2, rfl, hb2, -⟩
              replace hb2 := Lib.hid hb2
              go_wp2_with fail
              go_ret2
              exact ⟨_, by rw [hE.out]; rfl, by rw [hP.out]; exact bytes_nil _, B0.out.trans (hb2.out.mono B0.out.size)⟩
end Go.Proofs.YtmpklaokgogigaaDoor
