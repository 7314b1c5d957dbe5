/-
  LAYER 30: Set.
-/
import Derived.Test.YtihblangceblhaaDoorAd
namespace Go.Proofs.YtihblangceblhaaDoor
set_option linter.unusedSimpArgs false
set_option linter.unusedVariables false
open Go.RowKit Go.Maps Go.WideMaps

/-- What items are set. -/
def ents (o : ByteArray) (l : List It) : List En := (l.filter fun x => x.a1).map fun x => ⟨x.a2, o, x.a0⟩
theorem usedB_false {T : List En} {o : ByteArray} {s : List Int} {a : Int} (h : usedB T o s a = false) (hn : Nd T) : a ∉ s ∧ ∀ x ∈ T, x.a = a → x.o = o := by
  unfold usedB at h
  rw [Bool.or_eq_false_iff] at h
  refine ⟨by simpa using h.1, fun x hx hxa => ?_⟩
  subst hxa
  have := h.2
  rw [findT_mem hn hx] at this
  simpa using this
theorem scan_spec {T : List En} {o : ByteArray} (hn : Nd T) : ∀ (l : List It) (s t : List Int), scan T o s l = some t →
    t.length = s.length + (ents o l).length ∧ Nd (ents o l) ∧ (∀ e ∈ ents o l, e.a ∉ s) ∧ (∀ e ∈ ents o l, ∀ x ∈ T, x.a = e.a → x.o = o) := by
  intro l
  induction l with
  | nil => intro s t h; simp [scan] at h; subst h; exact ⟨rfl, List.Pairwise.nil, by simp [ents], by simp [ents]⟩
  | cons x l ih =>
    intro s t h
    rw [scan] at h
    by_cases hx : x.a1 = true
    · have ee : ents o (x :: l) = ⟨x.a2, o, x.a0⟩ :: ents o l := by simp [ents, hx]
      rw [if_pos hx] at h
      cases hu : usedB T o s x.a2
      · rw [hu, if_neg (by simp)] at h
        obtain ⟨h1, h2, h3, h4⟩ := ih _ _ h
        obtain ⟨u1, u2⟩ := usedB_false hu hn
        rw [ee]
        refine ⟨by simp at h1 ⊢; omega, ?_, ?_, ?_⟩
        · unfold Nd at h2 ⊢
          rw [List.pairwise_cons]
          refine ⟨fun y hy hya => ?_, h2⟩
          have := h3 y hy
          simp at this
          exact this.2 hya.symm
        · intro e he
          rcases List.mem_cons.1 he with rfl | he
          · exact u1
          · have := h3 e he; simp at this; exact this.1
        · intro e he
          rcases List.mem_cons.1 he with rfl | he
          · exact u2
          · exact h4 e he
      · rw [hu, if_pos rfl] at h; cases h
    · have hx' : x.a1 = false := by simpa using hx
      have ee : ents o (x :: l) = ents o l := by simp [ents, hx']
      rw [if_neg hx] at h
      rw [ee]; exact ih _ _ h
theorem tryE_zero {T : List En} {o : ByteArray} {l : List It} (hn : Nd T) (h : tryE T o l = 0) :
    (notO T o).length + (ents o l).length ≤ 64 ∧ Nd (notO T o ++ ents o l) := by
  unfold tryE at h
  cases hs : scan T o [] l with
  | none => rw [hs] at h; cases h
  | some s =>
    rw [hs] at h
    simp only at h
    obtain ⟨h1, h2, h3, h4⟩ := scan_spec hn l [] s hs
    refine ⟨?_, ?_⟩
    · by_cases hb : 64 < (notO T o).length + s.length
      · rw [if_pos hb] at h; cases h
      · simp at h1; omega
    · unfold Nd at hn h2 ⊢
      rw [List.pairwise_append]
      refine ⟨List.Pairwise.sublist List.filter_sublist hn, h2, fun x hx e he hxa => ?_⟩
      obtain ⟨hxT, hxo⟩ := List.mem_filter.1 hx
      have := h4 e he x hxT hxa
      simp at hxo; exact hxo this
theorem ents_take (o : ByteArray) (l : List It) (k : Nat) (x : It) (hx : l[k]? = some x) : ents o (l.take (k + 1)) = ents o (l.take k) ++ if x.a1 then [⟨x.a2, o, x.a0⟩] else [] := by
  have hk : k < l.length := (List.getElem?_eq_some_iff.1 hx).1
  rw [List.take_succ_eq_append_getElem hk, (List.getElem?_eq_some_iff.1 hx).2]
  unfold ents
  rw [List.filter_append, List.map_append]
  cases h : x.a1 <;> simp [h]
theorem ents_sub (o : ByteArray) (l : List It) (k : Nat) : (ents o (l.take k)).Sublist (ents o l) :=
  (List.Sublist.filter _ (List.take_sublist k l)).map _
theorem Tb.put {w w' : World} {g m : Nat} {T : List En} {D : DataW Unit} (h : Tb w g m T D) (e : En) (hf : ∀ x ∈ T, x.a ≠ e.a) (hl : T.length < 64) (hw : (Lit.int .u64 e.a).wf = true)
    (hm : w'.ownsMap Tryd.prog 23 mR m (T.length + 1) (D.put (ky e.a) e.enc)) (hg : w.grownBy w' (some m)) : Tb w' g m (T ++ [e]) (D.put (ky e.a) e.enc) := by
  have hh : has D (ky e.a) = false := (h.rd e.a).2 hf
  refine ⟨(hg.block g h.lt (fun e => h.ne (Option.some.inj e).symm)).trans h.row, by rw [List.length_append, List.length_singleton]; exact hm, ?_, h.ne, ?_, by rw [List.length_append, List.length_singleton]; omega, ?_, h.rd.put h.map.isMap e hf⟩
  · rw [size_put (h.map.tidy law23), hh, h.size]; simp
  · unfold Nd
    rw [List.pairwise_append]
    exact ⟨h.nd, by simp, fun x hx y hy => by rw [List.mem_singleton.1 hy]; exact hf x hx⟩
  · intro x hx
    rcases List.mem_append.1 hx with hx | hx
    · exact h.wf x hx
    · rw [List.mem_singleton.1 hx]; exact hw
def setT (T : List En) (o : ByteArray) (l : List It) : List En := if tryE T o l = 0 then notO T o ++ ents o l else T
def SetP (g m : Nat) (T : List En) (o : ByteArray) (l : List It) (w : World) (e : Ending) (w' : World) : Prop :=
  e = .returned (.int .i64 (tryE T o l)) ∧ (∃ D', Tb w' g m (setT T o l) D') ∧ w.grownBy w' (some m)
theorem cell_not_map {w : World} {b i m n : Nat} {u : Value} {k : TypeId} {R : Value → Option (DataW Unit × List MemPlace)} {D : DataW Unit} (h : w.cell? ⟨b, i, none⟩ = some u) (hm : w.ownsMap Tryd.prog k R m n D) : b ≠ m := by
  rintro rfl
  obtain ⟨es, clock, hb, -⟩ := hm
  simp [World.cell?, hb] at h
set_option maxHeartbeats 4000000 in
set_option maxRecDepth 100000 in
theorem set_any {w : World} {g m : Nat} {T : List En} {D : DataW Unit} (h : Tb w g m T D) (o : ByteArray) (v : Value) (l : List It) (hl : ItsAt w v l) (hok : ∀ x ∈ l, x.ok) (hlen : l.length ≤ 1000000) :
    Calls Tryd.prog 16 #[.pointer (some ⟨g, 0, none⟩), .string o, v] w (SetP g m T o l w) := by
  have TR := Lib.hid (try_any h o v l hl hok hlen)
  have DR := Lib.hid (fun w' (hb : Below w.heap.size w w') => drop_any (h.keep hb) o)
  have H := Lib.hid h
  obtain ⟨a, cap, rfl, -, hc⟩ := hl
  have hlen' : (l.length : Int) ≤ 1000000 := by omega
  obtain ⟨E, hE⟩ : ∃ E, E = tryE T o l := ⟨_, rfl⟩
  unfold SetP setT
  rw [← hE] at TR ⊢
  clear h
  by_cases h0 : E = 0
  · rw [if_pos h0]
    rw [h0] at hE
    obtain ⟨hsz, hnd⟩ := tryE_zero H.out.nd hE.symm
    subst h0
    replace hE := Lib.hid hE
    replace hc := Lib.hid hc
    replace hok := Lib.hid hok
    replace hnd := Lib.hid hnd
    go_enter Tryd.func16, Tryd.ntmps16
    go_wp2_with (first | (go_at_call 26; refine TR.out.mono ?_; rintro e w1 ⟨rfl, b1⟩; have DD := DR.out _ b1; replace b1 := Lib.hid b1) | (go_at_call 27; refine DD.mono ?_; rintro e w2 ⟨rfl, ht2, g2⟩; replace ht2 := Lib.hid ht2; replace g2 := Lib.hid g2; clear DD))
    go_loopw [22] (fun i wr => ∃ (k : Nat), i = .int .i64 (k : Int) ∧ k ≤ l.length ∧ (∃ D', Tb wr g m (notO T o ++ ents o (l.take k)) D') ∧ w.grownBy wr (some m)) (fun i _ => l.length - (intOf i).toNat)
    case atStart => exact ⟨0, rfl, by omega, by simpa [ents] using ht2.out, grown_trans (grown_below b1.out (Nat.le_refl _)) g2.out⟩
    case round =>
      obtain ⟨k, rfl, hk, ⟨D', ht⟩, hgr⟩ := hrel
      by_cases hlt : k < l.length
      · obtain ⟨x, hx⟩ : ∃ x, l[k]? = some x := ⟨_, List.getElem?_eq_getElem hlt⟩
        have hxo := hok.out x (List.mem_of_getElem? hx)
        have hent := ents_take o l k x hx
        replace hx := Lib.hid hx
        have hsl := (ents_sub o l (k + 1))
        obtain ⟨b, o0, rfl, hbl, q0, q1, q2, q3, q4, q5, q6, q7⟩ : ∃ b o0, a = some ⟨b, o0, none⟩ ∧ b < w.heap.size ∧ wr.cell? ⟨b, o0 + k * 8, none⟩ = some (.string x.a0) ∧ wr.cell? ⟨b, o0 + k * 8 + 1, none⟩ = some (.bool x.a1) ∧ wr.cell? ⟨b, o0 + k * 8 + 2, none⟩ = some (.int .u64 x.a2) ∧ wr.cell? ⟨b, o0 + k * 8 + 3, none⟩ = some (.int .u32 x.a3) ∧ wr.cell? ⟨b, o0 + k * 8 + 4, none⟩ = some (.bool x.a4) ∧ wr.cell? ⟨b, o0 + k * 8 + 5, none⟩ = some (.int .i64 x.a5_0) ∧ wr.cell? ⟨b, o0 + k * 8 + 6, none⟩ = some (.int .u64 x.a5_1) ∧ wr.cell? ⟨b, o0 + k * 8 + 7, none⟩ = some (.string x.a5_2) := by
          rcases hc.out with h | ⟨b, o0, ha, hbl, hcell⟩
          · subst h; simp at hlt
          · have hne : b ≠ m := cell_not_map (hcell k x hx.out 0 _ rfl) H.out.map
            have gg : ∀ j u, x.cells[j]? = some u → wr.cell? ⟨b, o0 + k * 8 + j, none⟩ = some u := fun j u hu => hgr.cell (hcell k x hx.out j u hu) (by simpa using hne)
            exact ⟨b, o0, ha, hbl, gg 0 _ rfl, gg 1 _ rfl, gg 2 _ rfl, gg 3 _ rfl, gg 4 _ rfl, gg 5 _ rfl, gg 6 _ rfl, gg 7 _ rfl⟩
        obtain ⟨a0, a1, a2, a3, a4, a5, a6, a7⟩ := x
        simp only at q0 q1 q2 q3 q4 q5 q6 q7 hent
        obtain ⟨ok0, ok2, ok3, ok5, ok6, ok7⟩ := hxo
        simp only at ok2
        have hlt' : (k : Int) < l.length := by omega
        cases a1
        · simp only [Bool.false_eq_true, if_false, List.append_nil] at hent
          replace ht := Lib.hid ht
          replace hgr := Lib.hid hgr
          replace hent := Lib.hid hent
          go_wp2
          go_roundw
          case rel => exact ⟨k + 1, by simp, by omega, ⟨D', by rw [hent.out]; exact ht.out.keep (ext_alloc _ _)⟩, hgr.out.andThen (World.grownBy_alloc wr _ none) (fun j hj => by cases hj)⟩
          case measure => simp [intOf]; omega
        · simp only [if_true] at hent
          have hfr : ∀ x ∈ notO T o ++ ents o (l.take k), x.a ≠ a2 := by
            have h1 : Nd (notO T o ++ ents o (l.take (k + 1))) := hnd.out.sub ((List.Sublist.refl _).append hsl)
            rw [hent, ← List.append_assoc] at h1
            unfold Nd at h1
            rw [List.pairwise_append] at h1
            exact fun x hx => h1.2.2 x hx _ (List.mem_singleton_self _)
          have hlt64 : (notO T o ++ ents o (l.take k)).length < 64 := by
            have h1 := hsl.length_le
            rw [hent, List.length_append, List.length_singleton] at h1
            rw [List.length_append]; omega
          have htA := ht.keep (ext_alloc wr (.cells #[.string a0, .bool true, .int .u64 a2, .int .u32 a3, .bool a4, .int .i64 a5, .int .u64 a6, .string a7] 37))
          have hgrA : w.grownBy (wr.alloc (.cells #[.string a0, .bool true, .int .u64 a2, .int .u32 a3, .bool a4, .int .i64 a5, .int .u64 a6, .string a7] 37)) (some m) := hgr.andThen (World.grownBy_alloc wr _ none) (fun j hj => by cases hj)
          have cgA := htA.at
          have ciA : (wr.alloc (.cells #[.string a0, .bool true, .int .u64 a2, .int .u32 a3, .bool a4, .int .i64 a5, .int .u64 a6, .string a7] 37)).cell? ⟨wr.heap.size, 2, none⟩ = some (.int .u64 a2) := by simp
          have ciB : (wr.alloc (.cells #[.string a0, .bool true, .int .u64 a2, .int .u32 a3, .bool a4, .int .i64 a5, .int .u64 a6, .string a7] 37)).cell? ⟨wr.heap.size, 0, none⟩ = some (.string a0) := by simp
          replace ht := Lib.hid ht
          replace htA := Lib.hid htA
          replace hgr := Lib.hid hgr
          replace hgrA := Lib.hid hgrA
          replace hent := Lib.hid hent
          replace hfr := Lib.hid hfr
          go_wp2
          generalize hW : wr.alloc (.cells #[.string a0, .bool true, .int .u64 a2, .int .u32 a3, .bool a4, .int .i64 a5, .int .u64 a6, .string a7] 37) = W at *
          go_still_tail 10, (by kernel_rfl)
          change wpList _ _ _ _ _ W.drew
          have htD := htA.out.keep (w' := W.drew) (Below.refl _ _).drew
          have hmD := htD.map
          replace htD := Lib.hid htD
          refine wpList_mapUpdate_own _ rfl _ _ _ 67 rfl 23 72 law23 Tryd.underlying67 mR m _ D' rfl hmD (by unfold maxLen; omega) _ _ _ rfl rfl (key_of ok2) (En.enc ⟨a2, o, a0⟩) [] (mR_mk _ _) ?_
          intro w9 hown9 hgrow9
          have ht9 := Lib.hid (htD.out.put ⟨a2, o, a0⟩ hfr.out hlt64 ok2 hown9 hgrow9)
          have hg9 := Lib.hid (grown_trans (grown_trans hgrA.out (grown_below (B := W.heap.size) (Below.refl _ _).drew (Nat.le_refl _))) hgrow9)
          clear hown9 hgrow9 hmD
          go_wp2
          go_roundw
          case rel => exact ⟨k + 1, by simp, by omega, ⟨_, by rw [hent.out, ← List.append_assoc]; exact ht9.out⟩, hg9.out⟩
          case measure => simp [intOf]; omega
      · obtain rfl : k = l.length := by omega
        rw [List.take_length] at ht
        replace ht := Lib.hid ht
        replace hgr := Lib.hid hgr
        go_wp2
        go_ret
        exact ⟨rfl, ⟨D', ht.out⟩, hgr.out⟩
  · rw [if_neg h0]
    have hd : (E != 0) = true := by simpa using h0
    replace h0 := Lib.hid h0
    replace hE := Lib.hid hE
    go_enter Tryd.func16, Tryd.ntmps16
    go_wp2_with (first | (go_at_call 26; refine TR.out.mono ?_; rintro e w1 ⟨rfl, b1⟩; replace b1 := Lib.hid b1))
    go_ret
    exact ⟨rfl, ⟨D, H.out.keep b1.out⟩, grown_below b1.out (Nat.le_refl _)⟩
end Go.Proofs.YtihblangceblhaaDoor
