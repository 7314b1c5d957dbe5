/-
  LAYER 3: the document's Put.
-/
import Derived.Test.YtoglgdkeknojkaaWd
namespace Go.Proofs.Ytoglgdkeknojkaa
open Go.RowKit

set_option maxHeartbeats 1000000 in
set_option maxRecDepth 100000 in
theorem rputs_1 (v : Value) (l : List Fd) (w : World) (hs : FdsAt w v l) (hl : firstE l ≠ 0) : Calls Try.prog 14 #[v] w (Puts (firstE l) [] w) := by
  obtain ⟨a, cap, rfl, hlen, hc⟩ := hs
  replace hl := Lib.hid hl
  replace hc := Lib.hid hc
  have hlen' : (l.length : Int) ≤ 9223372036854775807 := by omega
  go_enter Try.func14, Try.ntmps14
  go_wp2
  go_loopw [4] (fun i wr => ∃ k : Nat, i = .int .i64 k ∧ k ≤ l.length ∧ (∀ g ∈ l.take k, wrE g = 0) ∧ Below w.heap.size w wr) (fun i _ => l.length - (intOf i).toNat)
  case atStart => exact ⟨0, rfl, by omega, by simp, Below.refl _ _⟩
  case round =>
    obtain ⟨k, rfl, hk, hall, hb⟩ := hrel
    replace hall := Lib.hid hall
    replace hb := Lib.hid hb
    by_cases hend : k = l.length
    · exfalso
      subst hend
      have := hall.out
      rw [List.take_length] at this
      exact hl.out (firstE_zero.2 this)
    obtain ⟨f, hf⟩ : ∃ f, l[k]? = some f := ⟨_, List.getElem?_eq_getElem (by omega)⟩
    obtain ⟨b, o, rfl, hbl, hcell⟩ : ∃ b o, a = some ⟨b, o, none⟩ ∧ b < w.heap.size ∧ w.rangeAt b (o + k * 4) f.cells := by
      rcases hc.out with h | ⟨b, o, ha, hb, hc⟩
      · subst h; simp at hf
      · exact ⟨b, o, ha, hb, hc k f hf⟩
    have hr := rangeAt_keep hcell hb.out hbl
    clear hcell
    obtain ⟨c0, c1, c2, c3⟩ := rangeAt4 hr
    replace hf := Lib.hid hf
    have klt : (k : Int) < (l.length : Int) := by omega
    go_wp2_with fail
    refine (wr_any 22 (.inr rfl) f _).mono ?_
    rintro e w1 ⟨rfl, h1⟩
    have h2 := Lib.hid (hb.out.trans (h1.mono hb.out.size))
    clear h1
    by_cases hw : wrE f = 0
    · have hd : (wrE f != 0) = false := by simp [hw]
      clear c0 c1 c2 c3 hr
      go_wp2_with fail
      go_roundw
      case rel => exact ⟨k + 1, by simp, by omega, by
        rw [List.take_succ_eq_append_getElem (by omega)]
        intro g hg
        rcases List.mem_append.1 hg with hg | hg
        · exact hall.out g hg
        · obtain ⟨hlt, he⟩ := List.getElem?_eq_some_iff.1 hf.out
          rw [List.mem_singleton.1 hg, he]
          exact hw, h2.out⟩
      case measure => simp [intOf]; omega
    · have hd : (wrE f != 0) = true := by simpa using hw
      have hE := firstE_at hall.out hf.out hw
      replace hE := Lib.hid hE
      clear c0 c1 c2 c3 hr
      go_wp2_with fail
      go_ret2
      exact ⟨_, by rw [hE.out]; rfl, src_nil _, h2.out⟩
theorem oneL_len (f : Fd) (h : f.ok) (hn : wrE f = 0) : f.text.size ≤ (oneL f).length ∧ (oneL f).length ≤ 20 + f.text.size := by
  obtain ⟨n1, n2, -⟩ := wrE_zero hn
  obtain ⟨kl, kg⟩ := kind_le hn
  have := putL_small (tag f) (by have := tag_le f n2 kg; omega)
  have := mid_len f h
  unfold oneL
  simp only [List.length_append, txtL_length]
  omega
set_option maxHeartbeats 2000000 in
set_option maxRecDepth 100000 in
theorem rputs_2 (v : Value) (l : List Fd) (w : World) (hs : FdsAt w v l) (hok : ∀ f ∈ l, f.ok) (h0 : firstE l = 0) : Calls Try.prog 14 #[v] w (Puts (putsE l) (putsL l) w) := by
  obtain ⟨i0, hi, hz0, hz1, hz2⟩ := info_parts Try.info5
  replace hi := Lib.hid hi
  replace hz0 := Lib.hid hz0
  replace hz1 := Lib.hid hz1
  replace hz2 := Lib.hid hz2
  obtain ⟨a, cap, rfl, hlen, hc⟩ := hs
  replace h0 := Lib.hid h0
  replace hc := Lib.hid hc
  replace hok := Lib.hid hok
  have hlen' : (l.length : Int) ≤ 9223372036854775807 := by omega
  go_enter Try.func14, Try.ntmps14
  go_wp2
  go_loopw [4] (fun i wr => ∃ k : Nat, i = .int .i64 k ∧ k ≤ l.length ∧ Below w.heap.size w wr) (fun i _ => l.length - (intOf i).toNat)
  case atStart => exact ⟨0, rfl, by omega, Below.refl _ _⟩
  case round =>
    obtain ⟨k, rfl, hk, hb⟩ := hrel
    replace hb := Lib.hid hb
    by_cases hend : k = l.length
    · subst hend
      by_cases h256 : 256 < l.length
      · have h256' : 256 < (l.length : Int) := by omega
        go_wp2
        go_ret2
        have hE : putsE l = 6 := by unfold putsE; rw [h0.out, if_neg (by simp), if_pos h256]
        exact ⟨_, by rw [hE]; rfl, by unfold putsL; rw [hE, if_neg (by decide)]; exact src_nil _, hb.out⟩
      have h256' : ¬ 256 < (l.length : Int) := by omega
      clear hk
      go_wp2
      have b0 := hb.out.size
      rename World => w0
      go_loopw [7, 6] (fun i o wr => P2 w l o i wr) (fun i _ _ => l.length - (intOf i).toNat)
      case atStart => exact ⟨0, rfl, by omega, ⟨by simp [joinL, bl], .inl ⟨rfl, by simp [joinL]⟩⟩, by simp [joinL], hb.out⟩
      case round =>
        obtain ⟨k, rfl, hk, hown, hln, hb1⟩ := hrel
        clear hb
        replace hb1 := Lib.hid hb1
        by_cases hend : k = l.length
        · subst hend
          rw [List.take_length] at hown hln
          go_wp2
          go_ret2
          have hE : putsE l = 0 := by unfold putsE; rw [h0.out, if_neg (by simp), if_neg h256, if_neg (by omega)]
          exact ⟨_, by rw [hE]; rfl, by unfold putsL; rw [hE, if_pos rfl]; exact Src.of_own hown, hb1.out⟩
        obtain ⟨f, hf⟩ : ∃ f, l[k]? = some f := ⟨_, List.getElem?_eq_getElem (by omega)⟩
        obtain ⟨b, o', rfl, hbl, hcell⟩ : ∃ b o, a = some ⟨b, o, none⟩ ∧ b < w.heap.size ∧ w.rangeAt b (o + k * 4) f.cells := by
          rcases hc.out with h | ⟨b, o, ha, hb, hc⟩
          · subst h; simp at hf
          · exact ⟨b, o, ha, hb, hc k f hf⟩
        have hr := rangeAt_keep hcell hb1.out hbl
        clear hcell
        obtain ⟨c0, c1, c2, c3⟩ := rangeAt4 hr
        have hw := wr_puts0 h0.out hf
        have fok := hok.out f (List.mem_of_getElem? hf)
        obtain ⟨ol, og⟩ := oneL_len f fok hw
        have hj : joinL (l.take (k + 1)) = joinL (l.take k) ++ oneL f := by
          rw [List.take_succ_eq_append_getElem (by omega), joinL_snoc]
          rw [show l[k]'(by omega) = f from (List.getElem?_eq_some_iff.1 hf).2]
        have hjl := joinL_take_le l (k + 1)
        replace hf := Lib.hid hf
        have klt : (k : Int) < (l.length : Int) := by omega
        have hsz : (f.text.size : Int) ≤ 140737488351232 := by have := fok.2.2.2; omega
        have M := Lib.hid fun w => one_any f w fok hw
        have zr : w.heap.size ≤ wr.heap.size := hb1.out.size
        obtain ⟨L, gL⟩ : ∃ L, L = joinL (l.take k) := ⟨_, rfl⟩
        obtain ⟨lo, glo⟩ : ∃ x, x = oneL f := ⟨_, rfl⟩
        obtain ⟨L3, gL3⟩ : ∃ x, x = joinL (l.take (k + 1)) := ⟨_, rfl⟩
        rw [← gL] at hown hln hj
        rw [← glo] at hj ol og
        rw [← gL3] at hj hjl
        have hl3 : L3.length = L.length + lo.length := by rw [hj, List.length_append]
        replace gL := Lib.hid gL
        replace glo := Lib.hid glo
        replace gL3 := Lib.hid gL3
        replace hj := Lib.hid hj
        replace hjl := Lib.hid hjl
        replace fok := Lib.hid fok
        replace hw := Lib.hid hw
        clear hr
        by_cases hlong : 4096 < f.text.size
        · have hlong' : 4096 < (f.text.size : Int) := by omega
          have hE : putsE l = 3 := by
            have h6 := hjl.out
            unfold putsE
            rw [h0.out, if_neg (by simp), if_neg h256, if_pos (by omega)]
          replace hE := Lib.hid hE
          go_wp2_with fail
          go_ret2
          exact ⟨_, by rw [hE.out]; rfl, by unfold putsL; rw [hE.out, if_neg (by decide)]; exact src_nil _, hb1.out⟩
        have hlong' : (f.text.size : Int) ≤ 4096 := by omega
        have hb3 : (L3.length : Int) ≤ 9000 := by omega
        have h23 : L.length + lo.length ≤ 140737488355328 := by omega
        go_wp2_with fail
        refine (M.out _).mono ?_
        rintro e w1 ⟨a1, m1, d1, rfl, h1, b1⟩
        rw [← glo.out] at h1
        have own1 := own_below hown b1
        have B1 := Lib.hid (ext_trans hb1.out b1)
        have y1 : w.heap.size ≤ w1.heap.size := by have := b1.size; omega
        clear b1 c0 c1 c2 c3 M hown
        replace hl3 := Lib.hid hl3
        by_cases hbig : 4096 < L3.length
        · have hE : putsE l = 3 := by
            have h6 := hjl.out
            unfold putsE
            rw [h0.out, if_neg (by simp), if_neg h256, if_pos (by omega)]
          replace hE := Lib.hid hE
          have hbig' : (4096 : Int) < (L3.length : Int) := by omega
          go_wp2_with (at_builtin; (refine wpList_append_bytes _ rfl (.tmp 38) (.tmp 43) 25 rfl w.heap.size 5 i0 Try.underlying25 hi.out hz0.out hz1.out hz2.out u6 L lo rfl own1 h1 h23 y1 ?_); intro v4 w4 o4 g4 n4'; clear n4'; have B4 := Lib.hid (B1.out.trans (grown_ext own1 g4 y1)); clear own1 h1 g4; rw [← hj.out] at o4; obtain ⟨a4, c4, rfl⟩ := own_slice o4)
          go_ret2
          exact ⟨_, by rw [hE.out]; rfl, by unfold putsL; rw [hE.out, if_neg (by decide)]; exact src_nil _, B4.out⟩
        · have hbig' : (L3.length : Int) ≤ 4096 := by omega
          go_wp2_with (at_builtin; (refine wpList_append_bytes _ rfl (.tmp 38) (.tmp 43) 25 rfl w.heap.size 5 i0 Try.underlying25 hi.out hz0.out hz1.out hz2.out u6 L lo rfl own1 h1 h23 y1 ?_); intro v4 w4 o4 g4 n4'; clear n4'; have B4 := Lib.hid (B1.out.trans (grown_ext own1 g4 y1)); clear own1 h1 g4; rw [← hj.out] at o4; obtain ⟨a4, c4, rfl⟩ := own_slice o4)
          go_roundw
          case rel => exact ⟨k + 1, by simp, by omega, by rw [← gL3.out]; exact o4, by rw [← gL3.out]; omega, B4.out⟩
          case measure => simp [intOf]; omega
    obtain ⟨f, hf⟩ : ∃ f, l[k]? = some f := ⟨_, List.getElem?_eq_getElem (by omega)⟩
    obtain ⟨b, o, rfl, hbl, hcell⟩ : ∃ b o, a = some ⟨b, o, none⟩ ∧ b < w.heap.size ∧ w.rangeAt b (o + k * 4) f.cells := by
      rcases hc.out with h | ⟨b, o, ha, hb, hc⟩
      · subst h; simp at hf
      · exact ⟨b, o, ha, hb, hc k f hf⟩
    have hr := rangeAt_keep hcell hb.out hbl
    clear hcell
    obtain ⟨c0, c1, c2, c3⟩ := rangeAt4 hr
    have hw := wr_puts0 h0.out hf
    replace hf := Lib.hid hf
    have klt : (k : Int) < (l.length : Int) := by omega
    go_wp2_with fail
    refine (wr_any 22 (.inr rfl) f _).mono ?_
    rw [hw]
    rintro e w1 ⟨rfl, h1⟩
    have h2 := Lib.hid (hb.out.trans (h1.mono hb.out.size))
    clear h1
    clear c0 c1 c2 c3 hr
    go_wp2_with fail
    go_roundw
    case rel => exact ⟨k + 1, by simp, by omega, h2.out⟩
    case measure => simp [intOf]; omega
/-- Both sides' Put. -/
theorem puts3 (v : Value) (l : List Fd) (w : World) (hs : FdsAt w v l) (hok : ∀ f ∈ l, f.ok) : Calls Try.prog 16 #[v] w (Puts (putsE l) (putsL l) w) ∧ Calls Try.prog 14 #[v] w (Puts (putsE l) (putsL l) w) := by
  by_cases h : firstE l = 0
  · exact ⟨puts_2 v l w hs hok h, rputs_2 v l w hs hok h⟩
  · have hE : putsE l = firstE l := by unfold putsE; rw [if_pos h]
    have hL : putsL l = [] := by unfold putsL; rw [hE, if_neg h]
    rw [hE, hL]
    exact ⟨puts_1 v l w hs h, rputs_1 v l w hs h⟩
end Go.Proofs.Ytoglgdkeknojkaa
