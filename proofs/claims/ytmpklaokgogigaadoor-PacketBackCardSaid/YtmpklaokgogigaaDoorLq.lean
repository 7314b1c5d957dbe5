/-
  LAYER 16: Put, the program's.
-/
import Derived.Test.YtmpklaokgogigaaDoorLi
import Derived.Test.YtmpklaokgogigaaDoorLw
import Derived.BigRegion
import Derived.Deep.RegionHeld3
namespace Go.Proofs.YtmpklaokgogigaaDoor.Pac
set_option linter.unusedVariables false
set_option linter.unusedSimpArgs false
open Go.Proofs.YtmpklaokgogigaaDoor
open Go.RowKit
set_option maxRecDepth 100000 in
set_option maxHeartbeats 8000000 in
theorem put16_err_45 (P Q : Pk) (f1 c1 : Value) (fl : Int) (w : World) (ht : Hea.Tab3 w)
    (hC : ∀ w, Calls Tryd.prog 14 #[.agg (P.v f1 c1)] w (ClP Q w))
    (hB : ∀ f c w, Calls Tryd.prog 22 #[.agg (Q.v f c)] w fun e w' => e = .returned (.func (.func 45) #[.agg (Q.v f c)] #[]) ∧ Below w.heap.size w w')
    (hF : ∀ f c w, Calls Tryd.prog 23 #[.agg (Q.v f c)] w fun e w' => e = .returned (.int .i64 fl) ∧ Below w.heap.size w w')
    (h0 : 0 ≤ fl) (l : List Nat) (m : Int) (hW : ∀ f c w, FisAt w f Q.fl → IntsAt w c Q.cl → Calls Tryd.prog 45 #[.agg (Q.v f c)] w (Pub.Numb l m w)) (hm : m ≠ 0) :
    Calls Tryd.prog 13 #[.agg (P.v f1 c1)] w (Pub.Numb [] m w) := by
  have NE : ∀ (cs : Array Value) (W : World), (binOp .eql 62 (.func (.func 45) #[.agg cs] #[]) .nilFunc).run Tryd.prog W = .ok (.bool false) W := fun _ _ => rfl
  have FL : decide (fl < 0) = false := by simp; omega
  replace h0 := Lib.hid h0
  replace hW := Lib.hid hW
  have K := Lib.hid (Blk.new w 33 (P.v f1 c1))
  have sz0 : Hid ((Tryd.prog.info? 33).map (·.size) = some (P.v f1 c1).size) := Lib.hid (pk_size _ _ _)
  replace hC := Lib.hid hC
  replace hB := Lib.hid hB
  replace hF := Lib.hid hF
  generalize P.v f1 c1 = xs at *
  go_enter Tryd.func13, Tryd.ntmps13
  go_wp2_with (refine wpList_load_row rfl 33 (.tmp 1) rfl w.heap.size rfl 33 xs (0, 0) _ K.out Tryd.underlying33 rfl sz0.out ?_)
  refine (hC.out _).mono ?_
  rintro e w2 ⟨fs, cs', rfl, ⟨hfs, -⟩, ⟨hcs, -⟩, b2⟩
  have hB' := Lib.hid (hB.out fs cs')
  have hF' := Lib.hid (hF.out fs cs')
  have one : Hid ((Q.v fs cs').all (·.oneCell') = true) := Lib.hid (pk_one _ _ _ (fis_one hfs) (ints_one hcs))
  have sz : Hid ((Tryd.prog.info? 61).map (·.size) = some (Q.v fs cs').size) := Lib.hid (by kernel_rfl)
  have hz : Hid ((#[.int .i64 0, .int .i64 0, .bool false, .string ⟨#[]⟩, .string ⟨#[]⟩, .int .i64 0, .bool false, .int .i64 0, .bool false, .int .i64 0, .string ⟨#[]⟩, .bool false, .string ⟨#[]⟩, .string ⟨#[]⟩, .int .i64 0, .bool false, .bool false, .string ⟨#[]⟩, .bool false, .string ⟨#[]⟩, .bool false, .int .i64 0, .slice none 0 0, .slice none 0 0] : Array Value).size = (Q.v fs cs').size) := Lib.hid rfl
  generalize hcs0 : Q.v fs cs' = cs at *
  have A2 := Lib.hid (heap_alloc_new w2 (.cells #[.int .i64 0, .int .i64 0, .bool false, .string ⟨#[]⟩, .string ⟨#[]⟩, .int .i64 0, .bool false, .int .i64 0, .bool false, .int .i64 0, .string ⟨#[]⟩, .bool false, .string ⟨#[]⟩, .string ⟨#[]⟩, .int .i64 0, .bool false, .bool false, .string ⟨#[]⟩, .bool false, .string ⟨#[]⟩, .bool false, .int .i64 0, .slice none 0 0, .slice none 0 0] 61))
  have A3 := Lib.hid (World.setRow_alloc_new w2 #[.int .i64 0, .int .i64 0, .bool false, .string ⟨#[]⟩, .string ⟨#[]⟩, .int .i64 0, .bool false, .int .i64 0, .bool false, .int .i64 0, .string ⟨#[]⟩, .bool false, .string ⟨#[]⟩, .string ⟨#[]⟩, .int .i64 0, .bool false, .bool false, .string ⟨#[]⟩, .bool false, .string ⟨#[]⟩, .bool false, .int .i64 0, .slice none 0 0, .slice none 0 0] cs 61)
  have R4 := Lib.hid (Blk.new w2 61 cs)
  clear hB hF hC
  replace hcs0 := Lib.hid hcs0
  go_wp2_with (refine wpList_store_row rfl 61 (.tmp 4) (.tmp 11) rfl w2.heap.size cs rfl rfl 61 #[.int .i64 0, .int .i64 0, .bool false, .string ⟨#[]⟩, .string ⟨#[]⟩, .int .i64 0, .bool false, .int .i64 0, .bool false, .int .i64 0, .string ⟨#[]⟩, .bool false, .string ⟨#[]⟩, .string ⟨#[]⟩, .int .i64 0, .bool false, .bool false, .string ⟨#[]⟩, .bool false, .string ⟨#[]⟩, .bool false, .int .i64 0, .slice none 0 0, .slice none 0 0] A2.out sz.out hz.out one.out ?_; rw [A3.out])
  have KS : Hid (∀ W, Below (w2.alloc (.cells cs 61)).heap.size (w2.alloc (.cells cs 61)) W → W.rangeAt w2.heap.size 0 cs.toList) := Lib.hid fun W hW j u hj => by
    have := (R4.out.ext hW).cell j
    rw [Nat.zero_add, this]
    simpa using hj
  have B4 := Lib.hid (((Below.refl _ w).alloc (Nat.le_refl _) (.cells xs 33)).trans (b2.mono (by simp)))
  have hT4 := Lib.hid ((ht.keep B4.out).keep ((Below.refl _ w2).alloc (Nat.le_refl _) (.cells cs 61)))
  have B5 := Lib.hid (B4.out.trans (((Below.refl _ w2).alloc (Nat.le_refl _) (.cells cs 61)).mono B4.out.size))
  have bq := ((Below.refl _ w2).alloc (Nat.le_refl _) (.cells cs 61))
  have F4 := Lib.hid (And.intro (hfs.keep bq (Nat.le_refl _)) (hcs.keep bq (Nat.le_refl _)))
  have hW' := Lib.hid (hW.out fs cs')
  rw [hcs0.out] at hW'
  clear ht b2 hfs hcs A2 A3 B4 bq hW
  generalize w2.alloc (.cells cs 61) = W4 at *
  generalize w2.heap.size = bt at *
  refine wp_region_held_drew (S := fun W => W.rangeAt bt 0 cs.toList) (by kernel_rfl) (KS.out _ (ext_drew _)) (fun hHeld => ?_)
  refine wpAnyH_take (i := 0) (oi := _) (v := .agg cs) rfl (by kernel_rfl) (by kernel_rfl) (by kernel_rfl) (fun _ _ _ h => h) (yieldsIf_load_mid (by rfl) 61 _ rfl bt 0 (by rfl) cs.toList _ (fun w hSw => hSw) Tryd.underlying61 rfl sz.out) (by assumption) ?zr0
  try simp only [Act.put, List.setIfInBounds_toArray, List.set_cons_zero, List.set_cons_succ]
  refine wpAnyH_take (i := 2) (oi := _) (v := .agg cs) rfl (by kernel_rfl) (by kernel_rfl) (by kernel_rfl) (fun _ _ _ h => h) (yieldsIf_load_mid (by rfl) 61 _ rfl bt 0 (by rfl) cs.toList _ (fun w hSw => hSw) Tryd.underlying61 rfl sz.out) (by assumption) ?zr2
  try simp only [Act.put, List.setIfInBounds_toArray, List.set_cons_zero, List.set_cons_succ]
  refine wpAnyH_ready (rs := [1]) (by kernel_rfl) (by simp) ?_
  refine AllReadyH.cons (o := _) rfl (fun K hK => ?_) AllReadyH.nil
  go_simp
  refine (hB'.out _).mono ?_
  rintro e w5 ⟨rfl, b5⟩
  go_wp2_with fail
  refine hK _ _ (KS.out _ (ext_trans (ext_drew _) b5)) (fun hHeld2 => ?_)
  have HB5 := Lib.hid (ext_trans (ext_drew _) b5)
  clear hK K b5
  try simp only [Act.put, List.setIfInBounds_toArray, List.set_cons_zero, List.set_cons_succ]
  refine wpAnyH_ready (rs := [3]) (by kernel_rfl) (by simp) ?_
  refine AllReadyH.cons (o := _) rfl (fun K hK => ?_) AllReadyH.nil
  go_simp
  refine (hF'.out _).mono ?_
  rintro e w6 ⟨rfl, b6⟩
  go_wp2_with fail
  refine hK _ _ (KS.out _ (ext_trans HB5.out b6)) (fun hHeld3 => ?_)
  have HB6 := Lib.hid (ext_trans HB5.out b6)
  clear hK K b6
  try simp only [Act.put, List.setIfInBounds_toArray, List.set_cons_zero, List.set_cons_succ]
  refine wpAnyH_take (i := 4) (oi := _) (v := ?zv4) rfl (by kernel_rfl) (by kernel_rfl) (by kernel_rfl) (fun _ _ _ h => h) (Or.inl ⟨by rfl, ?zy4⟩) (by assumption) ?zr4
  case zy4 => (intro w hSw; go_simp <;> with_reducible rfl)
  try simp only [Act.put, List.setIfInBounds_toArray, List.set_cons_zero, List.set_cons_succ]
  refine wpAnyH_take (i := 5) (oi := _) (v := ?zv5) rfl (by kernel_rfl) (by kernel_rfl) (by kernel_rfl) (fun _ _ _ h => h) (Or.inl ⟨by rfl, ?zy5⟩) (by assumption) ?zr5
  case zy5 => (intro w hSw; go_simp <;> with_reducible rfl)
  try simp only [Act.put, List.setIfInBounds_toArray, List.set_cons_zero, List.set_cons_succ]
  refine wpAnyH_done (by kernel_rfl) ?_ _
  clear hHeld hHeld2 hHeld3
  go_wp2_with fail
  refine (hW'.out _ (F4.out.1.keep HB6.out (Nat.le_refl _)) (F4.out.2.keep HB6.out (Nat.le_refl _))).mono ?_
  rintro e w7 ⟨v, rfl, hv, b7⟩
  have hm' : (m != 0) = true := by simpa using hm
  replace hm := Lib.hid hm
  have B7 := Lib.hid (B5.out.trans ((ext_trans HB6.out b7).mono B5.out.size))
  clear b7
  go_wp2_with fail
  refine bodyPost_ret (v := .tuple #[.slice none 0 0, .int .i64 m]) (by simp [results, Tryd.results13, go_sem]) rfl ⟨_, rfl, bytes_nil _, B7.out⟩
set_option maxRecDepth 100000 in
set_option maxHeartbeats 8000000 in
theorem put16_ok_45 (P Q : Pk) (f1 c1 : Value) (fl : Int) (w : World) (ht : Hea.Tab3 w)
    (hC : ∀ w, Calls Tryd.prog 14 #[.agg (P.v f1 c1)] w (ClP Q w))
    (hB : ∀ f c w, Calls Tryd.prog 22 #[.agg (Q.v f c)] w fun e w' => e = .returned (.func (.func 45) #[.agg (Q.v f c)] #[]) ∧ Below w.heap.size w w')
    (hF : ∀ f c w, Calls Tryd.prog 23 #[.agg (Q.v f c)] w fun e w' => e = .returned (.int .i64 fl) ∧ Below w.heap.size w w')
    (h0 : 0 ≤ fl) (l : List Nat) (m : Int) (hW : ∀ f c w, FisAt w f Q.fl → IntsAt w c Q.cl → Calls Tryd.prog 45 #[.agg (Q.v f c)] w (Pub.Numb l m w)) (hm : m = 0) (k f : Nat) (hk : Q.kind = k) (hf : fl = f) (h256 : ∀ x ∈ l, x < 256) (hR : Hea.RightF k f = 0) (hl : l.length ≤ 4096) :
    Calls Tryd.prog 13 #[.agg (P.v f1 c1)] w (Pub.Numb (Hea.putB k f l.length ++ l) 0 w) := by
  have NE : ∀ (cs : Array Value) (W : World), (binOp .eql 62 (.func (.func 45) #[.agg cs] #[]) .nilFunc).run Tryd.prog W = .ok (.bool false) W := fun _ _ => rfl
  have FL : decide (fl < 0) = false := by simp; omega
  replace h0 := Lib.hid h0
  replace hW := Lib.hid hW
  have K := Lib.hid (Blk.new w 33 (P.v f1 c1))
  have sz0 : Hid ((Tryd.prog.info? 33).map (·.size) = some (P.v f1 c1).size) := Lib.hid (pk_size _ _ _)
  replace hC := Lib.hid hC
  replace hB := Lib.hid hB
  replace hF := Lib.hid hF
  generalize P.v f1 c1 = xs at *
  go_enter Tryd.func13, Tryd.ntmps13
  go_wp2_with (refine wpList_load_row rfl 33 (.tmp 1) rfl w.heap.size rfl 33 xs (0, 0) _ K.out Tryd.underlying33 rfl sz0.out ?_)
  refine (hC.out _).mono ?_
  rintro e w2 ⟨fs, cs', rfl, ⟨hfs, -⟩, ⟨hcs, -⟩, b2⟩
  have hB' := Lib.hid (hB.out fs cs')
  have hF' := Lib.hid (hF.out fs cs')
  have one : Hid ((Q.v fs cs').all (·.oneCell') = true) := Lib.hid (pk_one _ _ _ (fis_one hfs) (ints_one hcs))
  have sz : Hid ((Tryd.prog.info? 61).map (·.size) = some (Q.v fs cs').size) := Lib.hid (by kernel_rfl)
  have hz : Hid ((#[.int .i64 0, .int .i64 0, .bool false, .string ⟨#[]⟩, .string ⟨#[]⟩, .int .i64 0, .bool false, .int .i64 0, .bool false, .int .i64 0, .string ⟨#[]⟩, .bool false, .string ⟨#[]⟩, .string ⟨#[]⟩, .int .i64 0, .bool false, .bool false, .string ⟨#[]⟩, .bool false, .string ⟨#[]⟩, .bool false, .int .i64 0, .slice none 0 0, .slice none 0 0] : Array Value).size = (Q.v fs cs').size) := Lib.hid rfl
  generalize hcs0 : Q.v fs cs' = cs at *
  have A2 := Lib.hid (heap_alloc_new w2 (.cells #[.int .i64 0, .int .i64 0, .bool false, .string ⟨#[]⟩, .string ⟨#[]⟩, .int .i64 0, .bool false, .int .i64 0, .bool false, .int .i64 0, .string ⟨#[]⟩, .bool false, .string ⟨#[]⟩, .string ⟨#[]⟩, .int .i64 0, .bool false, .bool false, .string ⟨#[]⟩, .bool false, .string ⟨#[]⟩, .bool false, .int .i64 0, .slice none 0 0, .slice none 0 0] 61))
  have A3 := Lib.hid (World.setRow_alloc_new w2 #[.int .i64 0, .int .i64 0, .bool false, .string ⟨#[]⟩, .string ⟨#[]⟩, .int .i64 0, .bool false, .int .i64 0, .bool false, .int .i64 0, .string ⟨#[]⟩, .bool false, .string ⟨#[]⟩, .string ⟨#[]⟩, .int .i64 0, .bool false, .bool false, .string ⟨#[]⟩, .bool false, .string ⟨#[]⟩, .bool false, .int .i64 0, .slice none 0 0, .slice none 0 0] cs 61)
  have R4 := Lib.hid (Blk.new w2 61 cs)
  clear hB hF hC
  replace hcs0 := Lib.hid hcs0
  go_wp2_with (refine wpList_store_row rfl 61 (.tmp 4) (.tmp 11) rfl w2.heap.size cs rfl rfl 61 #[.int .i64 0, .int .i64 0, .bool false, .string ⟨#[]⟩, .string ⟨#[]⟩, .int .i64 0, .bool false, .int .i64 0, .bool false, .int .i64 0, .string ⟨#[]⟩, .bool false, .string ⟨#[]⟩, .string ⟨#[]⟩, .int .i64 0, .bool false, .bool false, .string ⟨#[]⟩, .bool false, .string ⟨#[]⟩, .bool false, .int .i64 0, .slice none 0 0, .slice none 0 0] A2.out sz.out hz.out one.out ?_; rw [A3.out])
  have KS : Hid (∀ W, Below (w2.alloc (.cells cs 61)).heap.size (w2.alloc (.cells cs 61)) W → W.rangeAt w2.heap.size 0 cs.toList) := Lib.hid fun W hW j u hj => by
    have := (R4.out.ext hW).cell j
    rw [Nat.zero_add, this]
    simpa using hj
  have B4 := Lib.hid (((Below.refl _ w).alloc (Nat.le_refl _) (.cells xs 33)).trans (b2.mono (by simp)))
  have hT4 := Lib.hid ((ht.keep B4.out).keep ((Below.refl _ w2).alloc (Nat.le_refl _) (.cells cs 61)))
  have B5 := Lib.hid (B4.out.trans (((Below.refl _ w2).alloc (Nat.le_refl _) (.cells cs 61)).mono B4.out.size))
  have bq := ((Below.refl _ w2).alloc (Nat.le_refl _) (.cells cs 61))
  have F4 := Lib.hid (And.intro (hfs.keep bq (Nat.le_refl _)) (hcs.keep bq (Nat.le_refl _)))
  have hW' := Lib.hid (hW.out fs cs')
  rw [hcs0.out] at hW'
  clear ht b2 hfs hcs A2 A3 B4 bq hW
  generalize w2.alloc (.cells cs 61) = W4 at *
  generalize w2.heap.size = bt at *
  refine wp_region_held_drew (S := fun W => W.rangeAt bt 0 cs.toList) (by kernel_rfl) (KS.out _ (ext_drew _)) (fun hHeld => ?_)
  refine wpAnyH_take (i := 0) (oi := _) (v := .agg cs) rfl (by kernel_rfl) (by kernel_rfl) (by kernel_rfl) (fun _ _ _ h => h) (yieldsIf_load_mid (by rfl) 61 _ rfl bt 0 (by rfl) cs.toList _ (fun w hSw => hSw) Tryd.underlying61 rfl sz.out) (by assumption) ?zr0
  try simp only [Act.put, List.setIfInBounds_toArray, List.set_cons_zero, List.set_cons_succ]
  refine wpAnyH_take (i := 2) (oi := _) (v := .agg cs) rfl (by kernel_rfl) (by kernel_rfl) (by kernel_rfl) (fun _ _ _ h => h) (yieldsIf_load_mid (by rfl) 61 _ rfl bt 0 (by rfl) cs.toList _ (fun w hSw => hSw) Tryd.underlying61 rfl sz.out) (by assumption) ?zr2
  try simp only [Act.put, List.setIfInBounds_toArray, List.set_cons_zero, List.set_cons_succ]
  refine wpAnyH_ready (rs := [1]) (by kernel_rfl) (by simp) ?_
  refine AllReadyH.cons (o := _) rfl (fun K hK => ?_) AllReadyH.nil
  go_simp
  refine (hB'.out _).mono ?_
  rintro e w5 ⟨rfl, b5⟩
  go_wp2_with fail
  refine hK _ _ (KS.out _ (ext_trans (ext_drew _) b5)) (fun hHeld2 => ?_)
  have HB5 := Lib.hid (ext_trans (ext_drew _) b5)
  clear hK K b5
  try simp only [Act.put, List.setIfInBounds_toArray, List.set_cons_zero, List.set_cons_succ]
  refine wpAnyH_ready (rs := [3]) (by kernel_rfl) (by simp) ?_
  refine AllReadyH.cons (o := _) rfl (fun K hK => ?_) AllReadyH.nil
  go_simp
  refine (hF'.out _).mono ?_
  rintro e w6 ⟨rfl, b6⟩
  go_wp2_with fail
  refine hK _ _ (KS.out _ (ext_trans HB5.out b6)) (fun hHeld3 => ?_)
  have HB6 := Lib.hid (ext_trans HB5.out b6)
  clear hK K b6
  try simp only [Act.put, List.setIfInBounds_toArray, List.set_cons_zero, List.set_cons_succ]
  refine wpAnyH_take (i := 4) (oi := _) (v := ?zv4) rfl (by kernel_rfl) (by kernel_rfl) (by kernel_rfl) (fun _ _ _ h => h) (Or.inl ⟨by rfl, ?zy4⟩) (by assumption) ?zr4
  case zy4 => (intro w hSw; go_simp <;> with_reducible rfl)
  try simp only [Act.put, List.setIfInBounds_toArray, List.set_cons_zero, List.set_cons_succ]
  refine wpAnyH_take (i := 5) (oi := _) (v := ?zv5) rfl (by kernel_rfl) (by kernel_rfl) (by kernel_rfl) (fun _ _ _ h => h) (Or.inl ⟨by rfl, ?zy5⟩) (by assumption) ?zr5
  case zy5 => (intro w hSw; go_simp <;> with_reducible rfl)
  try simp only [Act.put, List.setIfInBounds_toArray, List.set_cons_zero, List.set_cons_succ]
  refine wpAnyH_done (by kernel_rfl) ?_ _
  clear hHeld hHeld2 hHeld3
  go_wp2_with fail
  refine (hW'.out _ (F4.out.1.keep HB6.out (Nat.le_refl _)) (F4.out.2.keep HB6.out (Nat.le_refl _))).mono ?_
  rintro e w7 ⟨v, rfl, hv, b7⟩
  subst hm hf
  have H := Lib.hid (fun W hT => head_ok k f l.length W hT hR hl)
  have C0 : w7.cell? ⟨bt, 0, none⟩ = some (.int .i64 k) := by
    have := (R4.out.ext (ext_trans HB6.out b7)).cell 0
    rw [this, ← hcs0.out, ← hk]
    rfl
  have T7 := Lib.hid (hT4.out.keep (ext_trans HB6.out b7))
  have B7 := Lib.hid (B5.out.trans ((ext_trans HB6.out b7).mono B5.out.size))
  have HV := Lib.hid hv
  obtain ⟨i0, hi, hz0, hz1, hz2⟩ := info_parts Hea.info5
  have hl' : (l.length : Int) ≤ 4096 := by omega
  have hpl := putB_len k f l.length
  replace hl := Lib.hid hl
  replace hk := Lib.hid hk
  obtain ⟨va, vc, rfl, -, -⟩ := hv
  replace b7 := Lib.hid b7
  generalize hp0 : Hea.putB k f l.length = hp at *
  clear hR h256
  go_wp2_with fail
  refine (H.out _ T7.out).mono ?_
  rintro e w8 ⟨v8, rfl, o8, b8⟩
  have HV8 := Lib.hid (HV.out.keep b8 (Nat.le_refl _))
  replace o8 := Lib.hid o8
  replace b8 := Lib.hid b8
  have hlN := hl.out
  go_wp2_with (at_builtin; refine wpList_append_bytes _ rfl (.tmp 41) (.tmp 42) 48 rfl w7.heap.size 5 i0 Tryd.underlying48 hi hz0 hz1 hz2 v8 hp l rfl o8.out HV8.out (by omega) b8.out.size ?_; intro v9 w9 o9 g9 n9; have b9 := Lib.hid (grown_ext o8.out g9 b8.out.size); replace o9 := Lib.hid o9; clear g9 n9)
  refine bodyPost_ret (v := .tuple #[v9, .int .i64 0]) (by simp [results, Tryd.results13, go_sem]) rfl ⟨_, rfl, BytesAt.of_own o9.out, B7.out.trans ((b8.out.trans b9.out).mono B7.out.size)⟩
set_option maxRecDepth 100000 in
set_option maxHeartbeats 8000000 in
theorem put16_err_46 (P Q : Pk) (f1 c1 : Value) (fl : Int) (w : World) (ht : Hea.Tab3 w)
    (hC : ∀ w, Calls Tryd.prog 14 #[.agg (P.v f1 c1)] w (ClP Q w))
    (hB : ∀ f c w, Calls Tryd.prog 22 #[.agg (Q.v f c)] w fun e w' => e = .returned (.func (.func 46) #[.agg (Q.v f c)] #[]) ∧ Below w.heap.size w w')
    (hF : ∀ f c w, Calls Tryd.prog 23 #[.agg (Q.v f c)] w fun e w' => e = .returned (.int .i64 fl) ∧ Below w.heap.size w w')
    (h0 : 0 ≤ fl) (l : List Nat) (m : Int) (hW : ∀ f c w, FisAt w f Q.fl → IntsAt w c Q.cl → Calls Tryd.prog 46 #[.agg (Q.v f c)] w (Pub.Numb l m w)) (hm : m ≠ 0) :
    Calls Tryd.prog 13 #[.agg (P.v f1 c1)] w (Pub.Numb [] m w) := by
  have NE : ∀ (cs : Array Value) (W : World), (binOp .eql 62 (.func (.func 46) #[.agg cs] #[]) .nilFunc).run Tryd.prog W = .ok (.bool false) W := fun _ _ => rfl
  have FL : decide (fl < 0) = false := by simp; omega
  replace h0 := Lib.hid h0
  replace hW := Lib.hid hW
  have K := Lib.hid (Blk.new w 33 (P.v f1 c1))
  have sz0 : Hid ((Tryd.prog.info? 33).map (·.size) = some (P.v f1 c1).size) := Lib.hid (pk_size _ _ _)
  replace hC := Lib.hid hC
  replace hB := Lib.hid hB
  replace hF := Lib.hid hF
  generalize P.v f1 c1 = xs at *
  go_enter Tryd.func13, Tryd.ntmps13
  go_wp2_with (refine wpList_load_row rfl 33 (.tmp 1) rfl w.heap.size rfl 33 xs (0, 0) _ K.out Tryd.underlying33 rfl sz0.out ?_)
  refine (hC.out _).mono ?_
  rintro e w2 ⟨fs, cs', rfl, ⟨hfs, -⟩, ⟨hcs, -⟩, b2⟩
  have hB' := Lib.hid (hB.out fs cs')
  have hF' := Lib.hid (hF.out fs cs')
  have one : Hid ((Q.v fs cs').all (·.oneCell') = true) := Lib.hid (pk_one _ _ _ (fis_one hfs) (ints_one hcs))
  have sz : Hid ((Tryd.prog.info? 61).map (·.size) = some (Q.v fs cs').size) := Lib.hid (by kernel_rfl)
  have hz : Hid ((#[.int .i64 0, .int .i64 0, .bool false, .string ⟨#[]⟩, .string ⟨#[]⟩, .int .i64 0, .bool false, .int .i64 0, .bool false, .int .i64 0, .string ⟨#[]⟩, .bool false, .string ⟨#[]⟩, .string ⟨#[]⟩, .int .i64 0, .bool false, .bool false, .string ⟨#[]⟩, .bool false, .string ⟨#[]⟩, .bool false, .int .i64 0, .slice none 0 0, .slice none 0 0] : Array Value).size = (Q.v fs cs').size) := Lib.hid rfl
  generalize hcs0 : Q.v fs cs' = cs at *
  have A2 := Lib.hid (heap_alloc_new w2 (.cells #[.int .i64 0, .int .i64 0, .bool false, .string ⟨#[]⟩, .string ⟨#[]⟩, .int .i64 0, .bool false, .int .i64 0, .bool false, .int .i64 0, .string ⟨#[]⟩, .bool false, .string ⟨#[]⟩, .string ⟨#[]⟩, .int .i64 0, .bool false, .bool false, .string ⟨#[]⟩, .bool false, .string ⟨#[]⟩, .bool false, .int .i64 0, .slice none 0 0, .slice none 0 0] 61))
  have A3 := Lib.hid (World.setRow_alloc_new w2 #[.int .i64 0, .int .i64 0, .bool false, .string ⟨#[]⟩, .string ⟨#[]⟩, .int .i64 0, .bool false, .int .i64 0, .bool false, .int .i64 0, .string ⟨#[]⟩, .bool false, .string ⟨#[]⟩, .string ⟨#[]⟩, .int .i64 0, .bool false, .bool false, .string ⟨#[]⟩, .bool false, .string ⟨#[]⟩, .bool false, .int .i64 0, .slice none 0 0, .slice none 0 0] cs 61)
  have R4 := Lib.hid (Blk.new w2 61 cs)
  clear hB hF hC
  replace hcs0 := Lib.hid hcs0
  go_wp2_with (refine wpList_store_row rfl 61 (.tmp 4) (.tmp 11) rfl w2.heap.size cs rfl rfl 61 #[.int .i64 0, .int .i64 0, .bool false, .string ⟨#[]⟩, .string ⟨#[]⟩, .int .i64 0, .bool false, .int .i64 0, .bool false, .int .i64 0, .string ⟨#[]⟩, .bool false, .string ⟨#[]⟩, .string ⟨#[]⟩, .int .i64 0, .bool false, .bool false, .string ⟨#[]⟩, .bool false, .string ⟨#[]⟩, .bool false, .int .i64 0, .slice none 0 0, .slice none 0 0] A2.out sz.out hz.out one.out ?_; rw [A3.out])
  have KS : Hid (∀ W, Below (w2.alloc (.cells cs 61)).heap.size (w2.alloc (.cells cs 61)) W → W.rangeAt w2.heap.size 0 cs.toList) := Lib.hid fun W hW j u hj => by
    have := (R4.out.ext hW).cell j
    rw [Nat.zero_add, this]
    simpa using hj
  have B4 := Lib.hid (((Below.refl _ w).alloc (Nat.le_refl _) (.cells xs 33)).trans (b2.mono (by simp)))
  have hT4 := Lib.hid ((ht.keep B4.out).keep ((Below.refl _ w2).alloc (Nat.le_refl _) (.cells cs 61)))
  have B5 := Lib.hid (B4.out.trans (((Below.refl _ w2).alloc (Nat.le_refl _) (.cells cs 61)).mono B4.out.size))
  have bq := ((Below.refl _ w2).alloc (Nat.le_refl _) (.cells cs 61))
  have F4 := Lib.hid (And.intro (hfs.keep bq (Nat.le_refl _)) (hcs.keep bq (Nat.le_refl _)))
  have hW' := Lib.hid (hW.out fs cs')
  rw [hcs0.out] at hW'
  clear ht b2 hfs hcs A2 A3 B4 bq hW
  generalize w2.alloc (.cells cs 61) = W4 at *
  generalize w2.heap.size = bt at *
  refine wp_region_held_drew (S := fun W => W.rangeAt bt 0 cs.toList) (by kernel_rfl) (KS.out _ (ext_drew _)) (fun hHeld => ?_)
  refine wpAnyH_take (i := 0) (oi := _) (v := .agg cs) rfl (by kernel_rfl) (by kernel_rfl) (by kernel_rfl) (fun _ _ _ h => h) (yieldsIf_load_mid (by rfl) 61 _ rfl bt 0 (by rfl) cs.toList _ (fun w hSw => hSw) Tryd.underlying61 rfl sz.out) (by assumption) ?zr0
  try simp only [Act.put, List.setIfInBounds_toArray, List.set_cons_zero, List.set_cons_succ]
  refine wpAnyH_take (i := 2) (oi := _) (v := .agg cs) rfl (by kernel_rfl) (by kernel_rfl) (by kernel_rfl) (fun _ _ _ h => h) (yieldsIf_load_mid (by rfl) 61 _ rfl bt 0 (by rfl) cs.toList _ (fun w hSw => hSw) Tryd.underlying61 rfl sz.out) (by assumption) ?zr2
  try simp only [Act.put, List.setIfInBounds_toArray, List.set_cons_zero, List.set_cons_succ]
  refine wpAnyH_ready (rs := [1]) (by kernel_rfl) (by simp) ?_
  refine AllReadyH.cons (o := _) rfl (fun K hK => ?_) AllReadyH.nil
  go_simp
  refine (hB'.out _).mono ?_
  rintro e w5 ⟨rfl, b5⟩
  go_wp2_with fail
  refine hK _ _ (KS.out _ (ext_trans (ext_drew _) b5)) (fun hHeld2 => ?_)
  have HB5 := Lib.hid (ext_trans (ext_drew _) b5)
  clear hK K b5
  try simp only [Act.put, List.setIfInBounds_toArray, List.set_cons_zero, List.set_cons_succ]
  refine wpAnyH_ready (rs := [3]) (by kernel_rfl) (by simp) ?_
  refine AllReadyH.cons (o := _) rfl (fun K hK => ?_) AllReadyH.nil
  go_simp
  refine (hF'.out _).mono ?_
  rintro e w6 ⟨rfl, b6⟩
  go_wp2_with fail
  refine hK _ _ (KS.out _ (ext_trans HB5.out b6)) (fun hHeld3 => ?_)
  have HB6 := Lib.hid (ext_trans HB5.out b6)
  clear hK K b6
  try simp only [Act.put, List.setIfInBounds_toArray, List.set_cons_zero, List.set_cons_succ]
  refine wpAnyH_take (i := 4) (oi := _) (v := ?zv4) rfl (by kernel_rfl) (by kernel_rfl) (by kernel_rfl) (fun _ _ _ h => h) (Or.inl ⟨by rfl, ?zy4⟩) (by assumption) ?zr4
  case zy4 => (intro w hSw; go_simp <;> with_reducible rfl)
  try simp only [Act.put, List.setIfInBounds_toArray, List.set_cons_zero, List.set_cons_succ]
  refine wpAnyH_take (i := 5) (oi := _) (v := ?zv5) rfl (by kernel_rfl) (by kernel_rfl) (by kernel_rfl) (fun _ _ _ h => h) (Or.inl ⟨by rfl, ?zy5⟩) (by assumption) ?zr5
  case zy5 => (intro w hSw; go_simp <;> with_reducible rfl)
  try simp only [Act.put, List.setIfInBounds_toArray, List.set_cons_zero, List.set_cons_succ]
  refine wpAnyH_done (by kernel_rfl) ?_ _
  clear hHeld hHeld2 hHeld3
  go_wp2_with fail
  refine (hW'.out _ (F4.out.1.keep HB6.out (Nat.le_refl _)) (F4.out.2.keep HB6.out (Nat.le_refl _))).mono ?_
  rintro e w7 ⟨v, rfl, hv, b7⟩
  have hm' : (m != 0) = true := by simpa using hm
  replace hm := Lib.hid hm
  have B7 := Lib.hid (B5.out.trans ((ext_trans HB6.out b7).mono B5.out.size))
  clear b7
  go_wp2_with fail
  refine bodyPost_ret (v := .tuple #[.slice none 0 0, .int .i64 m]) (by simp [results, Tryd.results13, go_sem]) rfl ⟨_, rfl, bytes_nil _, B7.out⟩
set_option maxRecDepth 100000 in
set_option maxHeartbeats 8000000 in
theorem put16_ok_46 (P Q : Pk) (f1 c1 : Value) (fl : Int) (w : World) (ht : Hea.Tab3 w)
    (hC : ∀ w, Calls Tryd.prog 14 #[.agg (P.v f1 c1)] w (ClP Q w))
    (hB : ∀ f c w, Calls Tryd.prog 22 #[.agg (Q.v f c)] w fun e w' => e = .returned (.func (.func 46) #[.agg (Q.v f c)] #[]) ∧ Below w.heap.size w w')
    (hF : ∀ f c w, Calls Tryd.prog 23 #[.agg (Q.v f c)] w fun e w' => e = .returned (.int .i64 fl) ∧ Below w.heap.size w w')
    (h0 : 0 ≤ fl) (l : List Nat) (m : Int) (hW : ∀ f c w, FisAt w f Q.fl → IntsAt w c Q.cl → Calls Tryd.prog 46 #[.agg (Q.v f c)] w (Pub.Numb l m w)) (hm : m = 0) (k f : Nat) (hk : Q.kind = k) (hf : fl = f) (h256 : ∀ x ∈ l, x < 256) (hR : Hea.RightF k f = 0) (hl : l.length ≤ 4096) :
    Calls Tryd.prog 13 #[.agg (P.v f1 c1)] w (Pub.Numb (Hea.putB k f l.length ++ l) 0 w) := by
  have NE : ∀ (cs : Array Value) (W : World), (binOp .eql 62 (.func (.func 46) #[.agg cs] #[]) .nilFunc).run Tryd.prog W = .ok (.bool false) W := fun _ _ => rfl
  have FL : decide (fl < 0) = false := by simp; omega
  replace h0 := Lib.hid h0
  replace hW := Lib.hid hW
  have K := Lib.hid (Blk.new w 33 (P.v f1 c1))
  have sz0 : Hid ((Tryd.prog.info? 33).map (·.size) = some (P.v f1 c1).size) := Lib.hid (pk_size _ _ _)
  replace hC := Lib.hid hC
  replace hB := Lib.hid hB
  replace hF := Lib.hid hF
  generalize P.v f1 c1 = xs at *
  go_enter Tryd.func13, Tryd.ntmps13
  go_wp2_with (refine wpList_load_row rfl 33 (.tmp 1) rfl w.heap.size rfl 33 xs (0, 0) _ K.out Tryd.underlying33 rfl sz0.out ?_)
  refine (hC.out _).mono ?_
  rintro e w2 ⟨fs, cs', rfl, ⟨hfs, -⟩, ⟨hcs, -⟩, b2⟩
  have hB' := Lib.hid (hB.out fs cs')
  have hF' := Lib.hid (hF.out fs cs')
  have one : Hid ((Q.v fs cs').all (·.oneCell') = true) := Lib.hid (pk_one _ _ _ (fis_one hfs) (ints_one hcs))
  have sz : Hid ((Tryd.prog.info? 61).map (·.size) = some (Q.v fs cs').size) := Lib.hid (by kernel_rfl)
  have hz : Hid ((#[.int .i64 0, .int .i64 0, .bool false, .string ⟨#[]⟩, .string ⟨#[]⟩, .int .i64 0, .bool false, .int .i64 0, .bool false, .int .i64 0, .string ⟨#[]⟩, .bool false, .string ⟨#[]⟩, .string ⟨#[]⟩, .int .i64 0, .bool false, .bool false, .string ⟨#[]⟩, .bool false, .string ⟨#[]⟩, .bool false, .int .i64 0, .slice none 0 0, .slice none 0 0] : Array Value).size = (Q.v fs cs').size) := Lib.hid rfl
  generalize hcs0 : Q.v fs cs' = cs at *
  have A2 := Lib.hid (heap_alloc_new w2 (.cells #[.int .i64 0, .int .i64 0, .bool false, .string ⟨#[]⟩, .string ⟨#[]⟩, .int .i64 0, .bool false, .int .i64 0, .bool false, .int .i64 0, .string ⟨#[]⟩, .bool false, .string ⟨#[]⟩, .string ⟨#[]⟩, .int .i64 0, .bool false, .bool false, .string ⟨#[]⟩, .bool false, .string ⟨#[]⟩, .bool false, .int .i64 0, .slice none 0 0, .slice none 0 0] 61))
  have A3 := Lib.hid (World.setRow_alloc_new w2 #[.int .i64 0, .int .i64 0, .bool false, .string ⟨#[]⟩, .string ⟨#[]⟩, .int .i64 0, .bool false, .int .i64 0, .bool false, .int .i64 0, .string ⟨#[]⟩, .bool false, .string ⟨#[]⟩, .string ⟨#[]⟩, .int .i64 0, .bool false, .bool false, .string ⟨#[]⟩, .bool false, .string ⟨#[]⟩, .bool false, .int .i64 0, .slice none 0 0, .slice none 0 0] cs 61)
  have R4 := Lib.hid (Blk.new w2 61 cs)
  clear hB hF hC
  replace hcs0 := Lib.hid hcs0
  go_wp2_with (refine wpList_store_row rfl 61 (.tmp 4) (.tmp 11) rfl w2.heap.size cs rfl rfl 61 #[.int .i64 0, .int .i64 0, .bool false, .string ⟨#[]⟩, .string ⟨#[]⟩, .int .i64 0, .bool false, .int .i64 0, .bool false, .int .i64 0, .string ⟨#[]⟩, .bool false, .string ⟨#[]⟩, .string ⟨#[]⟩, .int .i64 0, .bool false, .bool false, .string ⟨#[]⟩, .bool false, .string ⟨#[]⟩, .bool false, .int .i64 0, .slice none 0 0, .slice none 0 0] A2.out sz.out hz.out one.out ?_; rw [A3.out])
  have KS : Hid (∀ W, Below (w2.alloc (.cells cs 61)).heap.size (w2.alloc (.cells cs 61)) W → W.rangeAt w2.heap.size 0 cs.toList) := Lib.hid fun W hW j u hj => by
    have := (R4.out.ext hW).cell j
    rw [Nat.zero_add, this]
    simpa using hj
  have B4 := Lib.hid (((Below.refl _ w).alloc (Nat.le_refl _) (.cells xs 33)).trans (b2.mono (by simp)))
  have hT4 := Lib.hid ((ht.keep B4.out).keep ((Below.refl _ w2).alloc (Nat.le_refl _) (.cells cs 61)))
  have B5 := Lib.hid (B4.out.trans (((Below.refl _ w2).alloc (Nat.le_refl _) (.cells cs 61)).mono B4.out.size))
  have bq := ((Below.refl _ w2).alloc (Nat.le_refl _) (.cells cs 61))
  have F4 := Lib.hid (And.intro (hfs.keep bq (Nat.le_refl _)) (hcs.keep bq (Nat.le_refl _)))
  have hW' := Lib.hid (hW.out fs cs')
  rw [hcs0.out] at hW'
  clear ht b2 hfs hcs A2 A3 B4 bq hW
  generalize w2.alloc (.cells cs 61) = W4 at *
  generalize w2.heap.size = bt at *
  refine wp_region_held_drew (S := fun W => W.rangeAt bt 0 cs.toList) (by kernel_rfl) (KS.out _ (ext_drew _)) (fun hHeld => ?_)
  refine wpAnyH_take (i := 0) (oi := _) (v := .agg cs) rfl (by kernel_rfl) (by kernel_rfl) (by kernel_rfl) (fun _ _ _ h => h) (yieldsIf_load_mid (by rfl) 61 _ rfl bt 0 (by rfl) cs.toList _ (fun w hSw => hSw) Tryd.underlying61 rfl sz.out) (by assumption) ?zr0
  try simp only [Act.put, List.setIfInBounds_toArray, List.set_cons_zero, List.set_cons_succ]
  refine wpAnyH_take (i := 2) (oi := _) (v := .agg cs) rfl (by kernel_rfl) (by kernel_rfl) (by kernel_rfl) (fun _ _ _ h => h) (yieldsIf_load_mid (by rfl) 61 _ rfl bt 0 (by rfl) cs.toList _ (fun w hSw => hSw) Tryd.underlying61 rfl sz.out) (by assumption) ?zr2
  try simp only [Act.put, List.setIfInBounds_toArray, List.set_cons_zero, List.set_cons_succ]
  refine wpAnyH_ready (rs := [1]) (by kernel_rfl) (by simp) ?_
  refine AllReadyH.cons (o := _) rfl (fun K hK => ?_) AllReadyH.nil
  go_simp
  refine (hB'.out _).mono ?_
  rintro e w5 ⟨rfl, b5⟩
  go_wp2_with fail
  refine hK _ _ (KS.out _ (ext_trans (ext_drew _) b5)) (fun hHeld2 => ?_)
  have HB5 := Lib.hid (ext_trans (ext_drew _) b5)
  clear hK K b5
  try simp only [Act.put, List.setIfInBounds_toArray, List.set_cons_zero, List.set_cons_succ]
  refine wpAnyH_ready (rs := [3]) (by kernel_rfl) (by simp) ?_
  refine AllReadyH.cons (o := _) rfl (fun K hK => ?_) AllReadyH.nil
  go_simp
  refine (hF'.out _).mono ?_
  rintro e w6 ⟨rfl, b6⟩
  go_wp2_with fail
  refine hK _ _ (KS.out _ (ext_trans HB5.out b6)) (fun hHeld3 => ?_)
  have HB6 := Lib.hid (ext_trans HB5.out b6)
  clear hK K b6
  try simp only [Act.put, List.setIfInBounds_toArray, List.set_cons_zero, List.set_cons_succ]
  refine wpAnyH_take (i := 4) (oi := _) (v := ?zv4) rfl (by kernel_rfl) (by kernel_rfl) (by kernel_rfl) (fun _ _ _ h => h) (Or.inl ⟨by rfl, ?zy4⟩) (by assumption) ?zr4
  case zy4 => (intro w hSw; go_simp <;> with_reducible rfl)
  try simp only [Act.put, List.setIfInBounds_toArray, List.set_cons_zero, List.set_cons_succ]
  refine wpAnyH_take (i := 5) (oi := _) (v := ?zv5) rfl (by kernel_rfl) (by kernel_rfl) (by kernel_rfl) (fun _ _ _ h => h) (Or.inl ⟨by rfl, ?zy5⟩) (by assumption) ?zr5
  case zy5 => (intro w hSw; go_simp <;> with_reducible rfl)
  try simp only [Act.put, List.setIfInBounds_toArray, List.set_cons_zero, List.set_cons_succ]
  refine wpAnyH_done (by kernel_rfl) ?_ _
  clear hHeld hHeld2 hHeld3
  go_wp2_with fail
  refine (hW'.out _ (F4.out.1.keep HB6.out (Nat.le_refl _)) (F4.out.2.keep HB6.out (Nat.le_refl _))).mono ?_
  rintro e w7 ⟨v, rfl, hv, b7⟩
  subst hm hf
  have H := Lib.hid (fun W hT => head_ok k f l.length W hT hR hl)
  have C0 : w7.cell? ⟨bt, 0, none⟩ = some (.int .i64 k) := by
    have := (R4.out.ext (ext_trans HB6.out b7)).cell 0
    rw [this, ← hcs0.out, ← hk]
    rfl
  have T7 := Lib.hid (hT4.out.keep (ext_trans HB6.out b7))
  have B7 := Lib.hid (B5.out.trans ((ext_trans HB6.out b7).mono B5.out.size))
  have HV := Lib.hid hv
  obtain ⟨i0, hi, hz0, hz1, hz2⟩ := info_parts Hea.info5
  have hl' : (l.length : Int) ≤ 4096 := by omega
  have hpl := putB_len k f l.length
  replace hl := Lib.hid hl
  replace hk := Lib.hid hk
  obtain ⟨va, vc, rfl, -, -⟩ := hv
  replace b7 := Lib.hid b7
  generalize hp0 : Hea.putB k f l.length = hp at *
  clear hR h256
  go_wp2_with fail
  refine (H.out _ T7.out).mono ?_
  rintro e w8 ⟨v8, rfl, o8, b8⟩
  have HV8 := Lib.hid (HV.out.keep b8 (Nat.le_refl _))
  replace o8 := Lib.hid o8
  replace b8 := Lib.hid b8
  have hlN := hl.out
  go_wp2_with (at_builtin; refine wpList_append_bytes _ rfl (.tmp 41) (.tmp 42) 48 rfl w7.heap.size 5 i0 Tryd.underlying48 hi hz0 hz1 hz2 v8 hp l rfl o8.out HV8.out (by omega) b8.out.size ?_; intro v9 w9 o9 g9 n9; have b9 := Lib.hid (grown_ext o8.out g9 b8.out.size); replace o9 := Lib.hid o9; clear g9 n9)
  refine bodyPost_ret (v := .tuple #[v9, .int .i64 0]) (by simp [results, Tryd.results13, go_sem]) rfl ⟨_, rfl, BytesAt.of_own o9.out, B7.out.trans ((b8.out.trans b9.out).mono B7.out.size)⟩
set_option maxRecDepth 100000 in
set_option maxHeartbeats 8000000 in
theorem put16_err_47 (P Q : Pk) (f1 c1 : Value) (fl : Int) (w : World) (ht : Hea.Tab3 w)
    (hC : ∀ w, Calls Tryd.prog 14 #[.agg (P.v f1 c1)] w (ClP Q w))
    (hB : ∀ f c w, Calls Tryd.prog 22 #[.agg (Q.v f c)] w fun e w' => e = .returned (.func (.func 47) #[.agg (Q.v f c)] #[]) ∧ Below w.heap.size w w')
    (hF : ∀ f c w, Calls Tryd.prog 23 #[.agg (Q.v f c)] w fun e w' => e = .returned (.int .i64 fl) ∧ Below w.heap.size w w')
    (h0 : 0 ≤ fl) (l : List Nat) (m : Int) (hW : ∀ f c w, FisAt w f Q.fl → IntsAt w c Q.cl → Calls Tryd.prog 47 #[.agg (Q.v f c)] w (Pub.Numb l m w)) (hm : m ≠ 0) :
    Calls Tryd.prog 13 #[.agg (P.v f1 c1)] w (Pub.Numb [] m w) := by
  have NE : ∀ (cs : Array Value) (W : World), (binOp .eql 62 (.func (.func 47) #[.agg cs] #[]) .nilFunc).run Tryd.prog W = .ok (.bool false) W := fun _ _ => rfl
  have FL : decide (fl < 0) = false := by simp; omega
  replace h0 := Lib.hid h0
  replace hW := Lib.hid hW
  have K := Lib.hid (Blk.new w 33 (P.v f1 c1))
  have sz0 : Hid ((Tryd.prog.info? 33).map (·.size) = some (P.v f1 c1).size) := Lib.hid (pk_size _ _ _)
  replace hC := Lib.hid hC
  replace hB := Lib.hid hB
  replace hF := Lib.hid hF
  generalize P.v f1 c1 = xs at *
  go_enter Tryd.func13, Tryd.ntmps13
  go_wp2_with (refine wpList_load_row rfl 33 (.tmp 1) rfl w.heap.size rfl 33 xs (0, 0) _ K.out Tryd.underlying33 rfl sz0.out ?_)
  refine (hC.out _).mono ?_
  rintro e w2 ⟨fs, cs', rfl, ⟨hfs, -⟩, ⟨hcs, -⟩, b2⟩
  have hB' := Lib.hid (hB.out fs cs')
  have hF' := Lib.hid (hF.out fs cs')
  have one : Hid ((Q.v fs cs').all (·.oneCell') = true) := Lib.hid (pk_one _ _ _ (fis_one hfs) (ints_one hcs))
  have sz : Hid ((Tryd.prog.info? 61).map (·.size) = some (Q.v fs cs').size) := Lib.hid (by kernel_rfl)
  have hz : Hid ((#[.int .i64 0, .int .i64 0, .bool false, .string ⟨#[]⟩, .string ⟨#[]⟩, .int .i64 0, .bool false, .int .i64 0, .bool false, .int .i64 0, .string ⟨#[]⟩, .bool false, .string ⟨#[]⟩, .string ⟨#[]⟩, .int .i64 0, .bool false, .bool false, .string ⟨#[]⟩, .bool false, .string ⟨#[]⟩, .bool false, .int .i64 0, .slice none 0 0, .slice none 0 0] : Array Value).size = (Q.v fs cs').size) := Lib.hid rfl
  generalize hcs0 : Q.v fs cs' = cs at *
  have A2 := Lib.hid (heap_alloc_new w2 (.cells #[.int .i64 0, .int .i64 0, .bool false, .string ⟨#[]⟩, .string ⟨#[]⟩, .int .i64 0, .bool false, .int .i64 0, .bool false, .int .i64 0, .string ⟨#[]⟩, .bool false, .string ⟨#[]⟩, .string ⟨#[]⟩, .int .i64 0, .bool false, .bool false, .string ⟨#[]⟩, .bool false, .string ⟨#[]⟩, .bool false, .int .i64 0, .slice none 0 0, .slice none 0 0] 61))
  have A3 := Lib.hid (World.setRow_alloc_new w2 #[.int .i64 0, .int .i64 0, .bool false, .string ⟨#[]⟩, .string ⟨#[]⟩, .int .i64 0, .bool false, .int .i64 0, .bool false, .int .i64 0, .string ⟨#[]⟩, .bool false, .string ⟨#[]⟩, .string ⟨#[]⟩, .int .i64 0, .bool false, .bool false, .string ⟨#[]⟩, .bool false, .string ⟨#[]⟩, .bool false, .int .i64 0, .slice none 0 0, .slice none 0 0] cs 61)
  have R4 := Lib.hid (Blk.new w2 61 cs)
  clear hB hF hC
  replace hcs0 := Lib.hid hcs0
  go_wp2_with (refine wpList_store_row rfl 61 (.tmp 4) (.tmp 11) rfl w2.heap.size cs rfl rfl 61 #[.int .i64 0, .int .i64 0, .bool false, .string ⟨#[]⟩, .string ⟨#[]⟩, .int .i64 0, .bool false, .int .i64 0, .bool false, .int .i64 0, .string ⟨#[]⟩, .bool false, .string ⟨#[]⟩, .string ⟨#[]⟩, .int .i64 0, .bool false, .bool false, .string ⟨#[]⟩, .bool false, .string ⟨#[]⟩, .bool false, .int .i64 0, .slice none 0 0, .slice none 0 0] A2.out sz.out hz.out one.out ?_; rw [A3.out])
  have KS : Hid (∀ W, Below (w2.alloc (.cells cs 61)).heap.size (w2.alloc (.cells cs 61)) W → W.rangeAt w2.heap.size 0 cs.toList) := Lib.hid fun W hW j u hj => by
    have := (R4.out.ext hW).cell j
    rw [Nat.zero_add, this]
    simpa using hj
  have B4 := Lib.hid (((Below.refl _ w).alloc (Nat.le_refl _) (.cells xs 33)).trans (b2.mono (by simp)))
  have hT4 := Lib.hid ((ht.keep B4.out).keep ((Below.refl _ w2).alloc (Nat.le_refl _) (.cells cs 61)))
  have B5 := Lib.hid (B4.out.trans (((Below.refl _ w2).alloc (Nat.le_refl _) (.cells cs 61)).mono B4.out.size))
  have bq := ((Below.refl _ w2).alloc (Nat.le_refl _) (.cells cs 61))
  have F4 := Lib.hid (And.intro (hfs.keep bq (Nat.le_refl _)) (hcs.keep bq (Nat.le_refl _)))
  have hW' := Lib.hid (hW.out fs cs')
  rw [hcs0.out] at hW'
  clear ht b2 hfs hcs A2 A3 B4 bq hW
  generalize w2.alloc (.cells cs 61) = W4 at *
  generalize w2.heap.size = bt at *
  refine wp_region_held_drew (S := fun W => W.rangeAt bt 0 cs.toList) (by kernel_rfl) (KS.out _ (ext_drew _)) (fun hHeld => ?_)
  refine wpAnyH_take (i := 0) (oi := _) (v := .agg cs) rfl (by kernel_rfl) (by kernel_rfl) (by kernel_rfl) (fun _ _ _ h => h) (yieldsIf_load_mid (by rfl) 61 _ rfl bt 0 (by rfl) cs.toList _ (fun w hSw => hSw) Tryd.underlying61 rfl sz.out) (by assumption) ?zr0
  try simp only [Act.put, List.setIfInBounds_toArray, List.set_cons_zero, List.set_cons_succ]
  refine wpAnyH_take (i := 2) (oi := _) (v := .agg cs) rfl (by kernel_rfl) (by kernel_rfl) (by kernel_rfl) (fun _ _ _ h => h) (yieldsIf_load_mid (by rfl) 61 _ rfl bt 0 (by rfl) cs.toList _ (fun w hSw => hSw) Tryd.underlying61 rfl sz.out) (by assumption) ?zr2
  try simp only [Act.put, List.setIfInBounds_toArray, List.set_cons_zero, List.set_cons_succ]
  refine wpAnyH_ready (rs := [1]) (by kernel_rfl) (by simp) ?_
  refine AllReadyH.cons (o := _) rfl (fun K hK => ?_) AllReadyH.nil
  go_simp
  refine (hB'.out _).mono ?_
  rintro e w5 ⟨rfl, b5⟩
  go_wp2_with fail
  refine hK _ _ (KS.out _ (ext_trans (ext_drew _) b5)) (fun hHeld2 => ?_)
  have HB5 := Lib.hid (ext_trans (ext_drew _) b5)
  clear hK K b5
  try simp only [Act.put, List.setIfInBounds_toArray, List.set_cons_zero, List.set_cons_succ]
  refine wpAnyH_ready (rs := [3]) (by kernel_rfl) (by simp) ?_
  refine AllReadyH.cons (o := _) rfl (fun K hK => ?_) AllReadyH.nil
  go_simp
  refine (hF'.out _).mono ?_
  rintro e w6 ⟨rfl, b6⟩
  go_wp2_with fail
  refine hK _ _ (KS.out _ (ext_trans HB5.out b6)) (fun hHeld3 => ?_)
  have HB6 := Lib.hid (ext_trans HB5.out b6)
  clear hK K b6
  try simp only [Act.put, List.setIfInBounds_toArray, List.set_cons_zero, List.set_cons_succ]
  refine wpAnyH_take (i := 4) (oi := _) (v := ?zv4) rfl (by kernel_rfl) (by kernel_rfl) (by kernel_rfl) (fun _ _ _ h => h) (Or.inl ⟨by rfl, ?zy4⟩) (by assumption) ?zr4
  case zy4 => (intro w hSw; go_simp <;> with_reducible rfl)
  try simp only [Act.put, List.setIfInBounds_toArray, List.set_cons_zero, List.set_cons_succ]
  refine wpAnyH_take (i := 5) (oi := _) (v := ?zv5) rfl (by kernel_rfl) (by kernel_rfl) (by kernel_rfl) (fun _ _ _ h => h) (Or.inl ⟨by rfl, ?zy5⟩) (by assumption) ?zr5
  case zy5 => (intro w hSw; go_simp <;> with_reducible rfl)
  try simp only [Act.put, List.setIfInBounds_toArray, List.set_cons_zero, List.set_cons_succ]
  refine wpAnyH_done (by kernel_rfl) ?_ _
  clear hHeld hHeld2 hHeld3
  go_wp2_with fail
  refine (hW'.out _ (F4.out.1.keep HB6.out (Nat.le_refl _)) (F4.out.2.keep HB6.out (Nat.le_refl _))).mono ?_
  rintro e w7 ⟨v, rfl, hv, b7⟩
  have hm' : (m != 0) = true := by simpa using hm
  replace hm := Lib.hid hm
  have B7 := Lib.hid (B5.out.trans ((ext_trans HB6.out b7).mono B5.out.size))
  clear b7
  go_wp2_with fail
  refine bodyPost_ret (v := .tuple #[.slice none 0 0, .int .i64 m]) (by simp [results, Tryd.results13, go_sem]) rfl ⟨_, rfl, bytes_nil _, B7.out⟩
set_option maxRecDepth 100000 in
set_option maxHeartbeats 8000000 in
theorem put16_ok_47 (P Q : Pk) (f1 c1 : Value) (fl : Int) (w : World) (ht : Hea.Tab3 w)
    (hC : ∀ w, Calls Tryd.prog 14 #[.agg (P.v f1 c1)] w (ClP Q w))
    (hB : ∀ f c w, Calls Tryd.prog 22 #[.agg (Q.v f c)] w fun e w' => e = .returned (.func (.func 47) #[.agg (Q.v f c)] #[]) ∧ Below w.heap.size w w')
    (hF : ∀ f c w, Calls Tryd.prog 23 #[.agg (Q.v f c)] w fun e w' => e = .returned (.int .i64 fl) ∧ Below w.heap.size w w')
    (h0 : 0 ≤ fl) (l : List Nat) (m : Int) (hW : ∀ f c w, FisAt w f Q.fl → IntsAt w c Q.cl → Calls Tryd.prog 47 #[.agg (Q.v f c)] w (Pub.Numb l m w)) (hm : m = 0) (k f : Nat) (hk : Q.kind = k) (hf : fl = f) (h256 : ∀ x ∈ l, x < 256) (hR : Hea.RightF k f = 0) (hl : l.length ≤ 4096) :
    Calls Tryd.prog 13 #[.agg (P.v f1 c1)] w (Pub.Numb (Hea.putB k f l.length ++ l) 0 w) := by
  have NE : ∀ (cs : Array Value) (W : World), (binOp .eql 62 (.func (.func 47) #[.agg cs] #[]) .nilFunc).run Tryd.prog W = .ok (.bool false) W := fun _ _ => rfl
  have FL : decide (fl < 0) = false := by simp; omega
  replace h0 := Lib.hid h0
  replace hW := Lib.hid hW
  have K := Lib.hid (Blk.new w 33 (P.v f1 c1))
  have sz0 : Hid ((Tryd.prog.info? 33).map (·.size) = some (P.v f1 c1).size) := Lib.hid (pk_size _ _ _)
  replace hC := Lib.hid hC
  replace hB := Lib.hid hB
  replace hF := Lib.hid hF
  generalize P.v f1 c1 = xs at *
  go_enter Tryd.func13, Tryd.ntmps13
  go_wp2_with (refine wpList_load_row rfl 33 (.tmp 1) rfl w.heap.size rfl 33 xs (0, 0) _ K.out Tryd.underlying33 rfl sz0.out ?_)
  refine (hC.out _).mono ?_
  rintro e w2 ⟨fs, cs', rfl, ⟨hfs, -⟩, ⟨hcs, -⟩, b2⟩
  have hB' := Lib.hid (hB.out fs cs')
  have hF' := Lib.hid (hF.out fs cs')
  have one : Hid ((Q.v fs cs').all (·.oneCell') = true) := Lib.hid (pk_one _ _ _ (fis_one hfs) (ints_one hcs))
  have sz : Hid ((Tryd.prog.info? 61).map (·.size) = some (Q.v fs cs').size) := Lib.hid (by kernel_rfl)
  have hz : Hid ((#[.int .i64 0, .int .i64 0, .bool false, .string ⟨#[]⟩, .string ⟨#[]⟩, .int .i64 0, .bool false, .int .i64 0, .bool false, .int .i64 0, .string ⟨#[]⟩, .bool false, .string ⟨#[]⟩, .string ⟨#[]⟩, .int .i64 0, .bool false, .bool false, .string ⟨#[]⟩, .bool false, .string ⟨#[]⟩, .bool false, .int .i64 0, .slice none 0 0, .slice none 0 0] : Array Value).size = (Q.v fs cs').size) := Lib.hid rfl
  generalize hcs0 : Q.v fs cs' = cs at *
  have A2 := Lib.hid (heap_alloc_new w2 (.cells #[.int .i64 0, .int .i64 0, .bool false, .string ⟨#[]⟩, .string ⟨#[]⟩, .int .i64 0, .bool false, .int .i64 0, .bool false, .int .i64 0, .string ⟨#[]⟩, .bool false, .string ⟨#[]⟩, .string ⟨#[]⟩, .int .i64 0, .bool false, .bool false, .string ⟨#[]⟩, .bool false, .string ⟨#[]⟩, .bool false, .int .i64 0, .slice none 0 0, .slice none 0 0] 61))
  have A3 := Lib.hid (World.setRow_alloc_new w2 #[.int .i64 0, .int .i64 0, .bool false, .string ⟨#[]⟩, .string ⟨#[]⟩, .int .i64 0, .bool false, .int .i64 0, .bool false, .int .i64 0, .string ⟨#[]⟩, .bool false, .string ⟨#[]⟩, .string ⟨#[]⟩, .int .i64 0, .bool false, .bool false, .string ⟨#[]⟩, .bool false, .string ⟨#[]⟩, .bool false, .int .i64 0, .slice none 0 0, .slice none 0 0] cs 61)
  have R4 := Lib.hid (Blk.new w2 61 cs)
  clear hB hF hC
  replace hcs0 := Lib.hid hcs0
  go_wp2_with (refine wpList_store_row rfl 61 (.tmp 4) (.tmp 11) rfl w2.heap.size cs rfl rfl 61 #[.int .i64 0, .int .i64 0, .bool false, .string ⟨#[]⟩, .string ⟨#[]⟩, .int .i64 0, .bool false, .int .i64 0, .bool false, .int .i64 0, .string ⟨#[]⟩, .bool false, .string ⟨#[]⟩, .string ⟨#[]⟩, .int .i64 0, .bool false, .bool false, .string ⟨#[]⟩, .bool false, .string ⟨#[]⟩, .bool false, .int .i64 0, .slice none 0 0, .slice none 0 0] A2.out sz.out hz.out one.out ?_; rw [A3.out])
  have KS : Hid (∀ W, Below (w2.alloc (.cells cs 61)).heap.size (w2.alloc (.cells cs 61)) W → W.rangeAt w2.heap.size 0 cs.toList) := Lib.hid fun W hW j u hj => by
    have := (R4.out.ext hW).cell j
    rw [Nat.zero_add, this]
    simpa using hj
  have B4 := Lib.hid (((Below.refl _ w).alloc (Nat.le_refl _) (.cells xs 33)).trans (b2.mono (by simp)))
  have hT4 := Lib.hid ((ht.keep B4.out).keep ((Below.refl _ w2).alloc (Nat.le_refl _) (.cells cs 61)))
  have B5 := Lib.hid (B4.out.trans (((Below.refl _ w2).alloc (Nat.le_refl _) (.cells cs 61)).mono B4.out.size))
  have bq := ((Below.refl _ w2).alloc (Nat.le_refl _) (.cells cs 61))
  have F4 := Lib.hid (And.intro (hfs.keep bq (Nat.le_refl _)) (hcs.keep bq (Nat.le_refl _)))
  have hW' := Lib.hid (hW.out fs cs')
  rw [hcs0.out] at hW'
  clear ht b2 hfs hcs A2 A3 B4 bq hW
  generalize w2.alloc (.cells cs 61) = W4 at *
  generalize w2.heap.size = bt at *
  refine wp_region_held_drew (S := fun W => W.rangeAt bt 0 cs.toList) (by kernel_rfl) (KS.out _ (ext_drew _)) (fun hHeld => ?_)
  refine wpAnyH_take (i := 0) (oi := _) (v := .agg cs) rfl (by kernel_rfl) (by kernel_rfl) (by kernel_rfl) (fun _ _ _ h => h) (yieldsIf_load_mid (by rfl) 61 _ rfl bt 0 (by rfl) cs.toList _ (fun w hSw => hSw) Tryd.underlying61 rfl sz.out) (by assumption) ?zr0
  try simp only [Act.put, List.setIfInBounds_toArray, List.set_cons_zero, List.set_cons_succ]
  refine wpAnyH_take (i := 2) (oi := _) (v := .agg cs) rfl (by kernel_rfl) (by kernel_rfl) (by kernel_rfl) (fun _ _ _ h => h) (yieldsIf_load_mid (by rfl) 61 _ rfl bt 0 (by rfl) cs.toList _ (fun w hSw => hSw) Tryd.underlying61 rfl sz.out) (by assumption) ?zr2
  try simp only [Act.put, List.setIfInBounds_toArray, List.set_cons_zero, List.set_cons_succ]
  refine wpAnyH_ready (rs := [1]) (by kernel_rfl) (by simp) ?_
  refine AllReadyH.cons (o := _) rfl (fun K hK => ?_) AllReadyH.nil
  go_simp
  refine (hB'.out _).mono ?_
  rintro e w5 ⟨rfl, b5⟩
  go_wp2_with fail
  refine hK _ _ (KS.out _ (ext_trans (ext_drew _) b5)) (fun hHeld2 => ?_)
  have HB5 := Lib.hid (ext_trans (ext_drew _) b5)
  clear hK K b5
  try simp only [Act.put, List.setIfInBounds_toArray, List.set_cons_zero, List.set_cons_succ]
  refine wpAnyH_ready (rs := [3]) (by kernel_rfl) (by simp) ?_
  refine AllReadyH.cons (o := _) rfl (fun K hK => ?_) AllReadyH.nil
  go_simp
  refine (hF'.out _).mono ?_
  rintro e w6 ⟨rfl, b6⟩
  go_wp2_with fail
  refine hK _ _ (KS.out _ (ext_trans HB5.out b6)) (fun hHeld3 => ?_)
  have HB6 := Lib.hid (ext_trans HB5.out b6)
  clear hK K b6
  try simp only [Act.put, List.setIfInBounds_toArray, List.set_cons_zero, List.set_cons_succ]
  refine wpAnyH_take (i := 4) (oi := _) (v := ?zv4) rfl (by kernel_rfl) (by kernel_rfl) (by kernel_rfl) (fun _ _ _ h => h) (Or.inl ⟨by rfl, ?zy4⟩) (by assumption) ?zr4
  case zy4 => (intro w hSw; go_simp <;> with_reducible rfl)
  try simp only [Act.put, List.setIfInBounds_toArray, List.set_cons_zero, List.set_cons_succ]
  refine wpAnyH_take (i := 5) (oi := _) (v := ?zv5) rfl (by kernel_rfl) (by kernel_rfl) (by kernel_rfl) (fun _ _ _ h => h) (Or.inl ⟨by rfl, ?zy5⟩) (by assumption) ?zr5
  case zy5 => (intro w hSw; go_simp <;> with_reducible rfl)
  try simp only [Act.put, List.setIfInBounds_toArray, List.set_cons_zero, List.set_cons_succ]
  refine wpAnyH_done (by kernel_rfl) ?_ _
  clear hHeld hHeld2 hHeld3
  go_wp2_with fail
  refine (hW'.out _ (F4.out.1.keep HB6.out (Nat.le_refl _)) (F4.out.2.keep HB6.out (Nat.le_refl _))).mono ?_
  rintro e w7 ⟨v, rfl, hv, b7⟩
  subst hm hf
  have H := Lib.hid (fun W hT => head_ok k f l.length W hT hR hl)
  have C0 : w7.cell? ⟨bt, 0, none⟩ = some (.int .i64 k) := by
    have := (R4.out.ext (ext_trans HB6.out b7)).cell 0
    rw [this, ← hcs0.out, ← hk]
    rfl
  have T7 := Lib.hid (hT4.out.keep (ext_trans HB6.out b7))
  have B7 := Lib.hid (B5.out.trans ((ext_trans HB6.out b7).mono B5.out.size))
  have HV := Lib.hid hv
  obtain ⟨i0, hi, hz0, hz1, hz2⟩ := info_parts Hea.info5
  have hl' : (l.length : Int) ≤ 4096 := by omega
  have hpl := putB_len k f l.length
  replace hl := Lib.hid hl
  replace hk := Lib.hid hk
  obtain ⟨va, vc, rfl, -, -⟩ := hv
  replace b7 := Lib.hid b7
  generalize hp0 : Hea.putB k f l.length = hp at *
  clear hR h256
  go_wp2_with fail
  refine (H.out _ T7.out).mono ?_
  rintro e w8 ⟨v8, rfl, o8, b8⟩
  have HV8 := Lib.hid (HV.out.keep b8 (Nat.le_refl _))
  replace o8 := Lib.hid o8
  replace b8 := Lib.hid b8
  have hlN := hl.out
  go_wp2_with (at_builtin; refine wpList_append_bytes _ rfl (.tmp 41) (.tmp 42) 48 rfl w7.heap.size 5 i0 Tryd.underlying48 hi hz0 hz1 hz2 v8 hp l rfl o8.out HV8.out (by omega) b8.out.size ?_; intro v9 w9 o9 g9 n9; have b9 := Lib.hid (grown_ext o8.out g9 b8.out.size); replace o9 := Lib.hid o9; clear g9 n9)
  refine bodyPost_ret (v := .tuple #[v9, .int .i64 0]) (by simp [results, Tryd.results13, go_sem]) rfl ⟨_, rfl, BytesAt.of_own o9.out, B7.out.trans ((b8.out.trans b9.out).mono B7.out.size)⟩
set_option maxRecDepth 100000 in
set_option maxHeartbeats 8000000 in
theorem put16_err_49 (P Q : Pk) (f1 c1 : Value) (fl : Int) (w : World) (ht : Hea.Tab3 w)
    (hC : ∀ w', Below w.heap.size w w' → Calls Tryd.prog 14 #[.agg (P.v f1 c1)] w' (ClP Q w'))
    (hB : ∀ f c w, Calls Tryd.prog 22 #[.agg (Q.v f c)] w fun e w' => e = .returned (.func (.func 49) #[.agg (Q.v f c)] #[]) ∧ Below w.heap.size w w')
    (hF : ∀ f c w, Calls Tryd.prog 23 #[.agg (Q.v f c)] w fun e w' => e = .returned (.int .i64 fl) ∧ Below w.heap.size w w')
    (h0 : 0 ≤ fl) (l : List Nat) (m : Int) (hW : ∀ f c w, FisAt w f Q.fl → IntsAt w c Q.cl → Calls Tryd.prog 49 #[.agg (Q.v f c)] w (Pub.Numb l m w)) (hm : m ≠ 0) :
    Calls Tryd.prog 13 #[.agg (P.v f1 c1)] w (Pub.Numb [] m w) := by
  have NE : ∀ (cs : Array Value) (W : World), (binOp .eql 62 (.func (.func 49) #[.agg cs] #[]) .nilFunc).run Tryd.prog W = .ok (.bool false) W := fun _ _ => rfl
  have FL : decide (fl < 0) = false := by simp; omega
  replace h0 := Lib.hid h0
  replace hW := Lib.hid hW
  have K := Lib.hid (Blk.new w 33 (P.v f1 c1))
  have sz0 : Hid ((Tryd.prog.info? 33).map (·.size) = some (P.v f1 c1).size) := Lib.hid (pk_size _ _ _)
  replace hC := Lib.hid hC
  replace hB := Lib.hid hB
  replace hF := Lib.hid hF
  generalize P.v f1 c1 = xs at *
  go_enter Tryd.func13, Tryd.ntmps13
  go_wp2_with (refine wpList_load_row rfl 33 (.tmp 1) rfl w.heap.size rfl 33 xs (0, 0) _ K.out Tryd.underlying33 rfl sz0.out ?_)
  refine (hC.out _ (ext_alloc _ _)).mono ?_
  rintro e w2 ⟨fs, cs', rfl, ⟨hfs, -⟩, ⟨hcs, -⟩, b2⟩
  have hB' := Lib.hid (hB.out fs cs')
  have hF' := Lib.hid (hF.out fs cs')
  have one : Hid ((Q.v fs cs').all (·.oneCell') = true) := Lib.hid (pk_one _ _ _ (fis_one hfs) (ints_one hcs))
  have sz : Hid ((Tryd.prog.info? 61).map (·.size) = some (Q.v fs cs').size) := Lib.hid (by kernel_rfl)
  have hz : Hid ((#[.int .i64 0, .int .i64 0, .bool false, .string ⟨#[]⟩, .string ⟨#[]⟩, .int .i64 0, .bool false, .int .i64 0, .bool false, .int .i64 0, .string ⟨#[]⟩, .bool false, .string ⟨#[]⟩, .string ⟨#[]⟩, .int .i64 0, .bool false, .bool false, .string ⟨#[]⟩, .bool false, .string ⟨#[]⟩, .bool false, .int .i64 0, .slice none 0 0, .slice none 0 0] : Array Value).size = (Q.v fs cs').size) := Lib.hid rfl
  generalize hcs0 : Q.v fs cs' = cs at *
  have A2 := Lib.hid (heap_alloc_new w2 (.cells #[.int .i64 0, .int .i64 0, .bool false, .string ⟨#[]⟩, .string ⟨#[]⟩, .int .i64 0, .bool false, .int .i64 0, .bool false, .int .i64 0, .string ⟨#[]⟩, .bool false, .string ⟨#[]⟩, .string ⟨#[]⟩, .int .i64 0, .bool false, .bool false, .string ⟨#[]⟩, .bool false, .string ⟨#[]⟩, .bool false, .int .i64 0, .slice none 0 0, .slice none 0 0] 61))
  have A3 := Lib.hid (World.setRow_alloc_new w2 #[.int .i64 0, .int .i64 0, .bool false, .string ⟨#[]⟩, .string ⟨#[]⟩, .int .i64 0, .bool false, .int .i64 0, .bool false, .int .i64 0, .string ⟨#[]⟩, .bool false, .string ⟨#[]⟩, .string ⟨#[]⟩, .int .i64 0, .bool false, .bool false, .string ⟨#[]⟩, .bool false, .string ⟨#[]⟩, .bool false, .int .i64 0, .slice none 0 0, .slice none 0 0] cs 61)
  have R4 := Lib.hid (Blk.new w2 61 cs)
  clear hB hF hC
  replace hcs0 := Lib.hid hcs0
  go_wp2_with (refine wpList_store_row rfl 61 (.tmp 4) (.tmp 11) rfl w2.heap.size cs rfl rfl 61 #[.int .i64 0, .int .i64 0, .bool false, .string ⟨#[]⟩, .string ⟨#[]⟩, .int .i64 0, .bool false, .int .i64 0, .bool false, .int .i64 0, .string ⟨#[]⟩, .bool false, .string ⟨#[]⟩, .string ⟨#[]⟩, .int .i64 0, .bool false, .bool false, .string ⟨#[]⟩, .bool false, .string ⟨#[]⟩, .bool false, .int .i64 0, .slice none 0 0, .slice none 0 0] A2.out sz.out hz.out one.out ?_; rw [A3.out])
  have KS : Hid (∀ W, Below (w2.alloc (.cells cs 61)).heap.size (w2.alloc (.cells cs 61)) W → W.rangeAt w2.heap.size 0 cs.toList) := Lib.hid fun W hW j u hj => by
    have := (R4.out.ext hW).cell j
    rw [Nat.zero_add, this]
    simpa using hj
  have B4 := Lib.hid (((Below.refl _ w).alloc (Nat.le_refl _) (.cells xs 33)).trans (b2.mono (by simp)))
  have hT4 := Lib.hid ((ht.keep B4.out).keep ((Below.refl _ w2).alloc (Nat.le_refl _) (.cells cs 61)))
  have B5 := Lib.hid (B4.out.trans (((Below.refl _ w2).alloc (Nat.le_refl _) (.cells cs 61)).mono B4.out.size))
  have bq := ((Below.refl _ w2).alloc (Nat.le_refl _) (.cells cs 61))
  have F4 := Lib.hid (And.intro (hfs.keep bq (Nat.le_refl _)) (hcs.keep bq (Nat.le_refl _)))
  have hW' := Lib.hid (hW.out fs cs')
  rw [hcs0.out] at hW'
  clear ht b2 hfs hcs A2 A3 B4 bq hW
  generalize w2.alloc (.cells cs 61) = W4 at *
  generalize w2.heap.size = bt at *
  refine wp_region_held_drew (S := fun W => W.rangeAt bt 0 cs.toList) (by kernel_rfl) (KS.out _ (ext_drew _)) (fun hHeld => ?_)
  refine wpAnyH_take (i := 0) (oi := _) (v := .agg cs) rfl (by kernel_rfl) (by kernel_rfl) (by kernel_rfl) (fun _ _ _ h => h) (yieldsIf_load_mid (by rfl) 61 _ rfl bt 0 (by rfl) cs.toList _ (fun w hSw => hSw) Tryd.underlying61 rfl sz.out) (by assumption) ?zr0
  try simp only [Act.put, List.setIfInBounds_toArray, List.set_cons_zero, List.set_cons_succ]
  refine wpAnyH_take (i := 2) (oi := _) (v := .agg cs) rfl (by kernel_rfl) (by kernel_rfl) (by kernel_rfl) (fun _ _ _ h => h) (yieldsIf_load_mid (by rfl) 61 _ rfl bt 0 (by rfl) cs.toList _ (fun w hSw => hSw) Tryd.underlying61 rfl sz.out) (by assumption) ?zr2
  try simp only [Act.put, List.setIfInBounds_toArray, List.set_cons_zero, List.set_cons_succ]
  refine wpAnyH_ready (rs := [1]) (by kernel_rfl) (by simp) ?_
  refine AllReadyH.cons (o := _) rfl (fun K hK => ?_) AllReadyH.nil
  go_simp
  refine (hB'.out _).mono ?_
  rintro e w5 ⟨rfl, b5⟩
  go_wp2_with fail
  refine hK _ _ (KS.out _ (ext_trans (ext_drew _) b5)) (fun hHeld2 => ?_)
  have HB5 := Lib.hid (ext_trans (ext_drew _) b5)
  clear hK K b5
  try simp only [Act.put, List.setIfInBounds_toArray, List.set_cons_zero, List.set_cons_succ]
  refine wpAnyH_ready (rs := [3]) (by kernel_rfl) (by simp) ?_
  refine AllReadyH.cons (o := _) rfl (fun K hK => ?_) AllReadyH.nil
  go_simp
  refine (hF'.out _).mono ?_
  rintro e w6 ⟨rfl, b6⟩
  go_wp2_with fail
  refine hK _ _ (KS.out _ (ext_trans HB5.out b6)) (fun hHeld3 => ?_)
  have HB6 := Lib.hid (ext_trans HB5.out b6)
  clear hK K b6
  try simp only [Act.put, List.setIfInBounds_toArray, List.set_cons_zero, List.set_cons_succ]
  refine wpAnyH_take (i := 4) (oi := _) (v := ?zv4) rfl (by kernel_rfl) (by kernel_rfl) (by kernel_rfl) (fun _ _ _ h => h) (Or.inl ⟨by rfl, ?zy4⟩) (by assumption) ?zr4
  case zy4 => (intro w hSw; go_simp <;> with_reducible rfl)
  try simp only [Act.put, List.setIfInBounds_toArray, List.set_cons_zero, List.set_cons_succ]
  refine wpAnyH_take (i := 5) (oi := _) (v := ?zv5) rfl (by kernel_rfl) (by kernel_rfl) (by kernel_rfl) (fun _ _ _ h => h) (Or.inl ⟨by rfl, ?zy5⟩) (by assumption) ?zr5
  case zy5 => (intro w hSw; go_simp <;> with_reducible rfl)
  try simp only [Act.put, List.setIfInBounds_toArray, List.set_cons_zero, List.set_cons_succ]
  refine wpAnyH_done (by kernel_rfl) ?_ _
  clear hHeld hHeld2 hHeld3
  go_wp2_with fail
  refine (hW'.out _ (F4.out.1.keep HB6.out (Nat.le_refl _)) (F4.out.2.keep HB6.out (Nat.le_refl _))).mono ?_
  rintro e w7 ⟨v, rfl, hv, b7⟩
  have hm' : (m != 0) = true := by simpa using hm
  replace hm := Lib.hid hm
  have B7 := Lib.hid (B5.out.trans ((ext_trans HB6.out b7).mono B5.out.size))
  clear b7
  go_wp2_with fail
  refine bodyPost_ret (v := .tuple #[.slice none 0 0, .int .i64 m]) (by simp [results, Tryd.results13, go_sem]) rfl ⟨_, rfl, bytes_nil _, B7.out⟩
set_option maxRecDepth 100000 in
set_option maxHeartbeats 8000000 in
theorem put16_ok_49 (P Q : Pk) (f1 c1 : Value) (fl : Int) (w : World) (ht : Hea.Tab3 w)
    (hC : ∀ w', Below w.heap.size w w' → Calls Tryd.prog 14 #[.agg (P.v f1 c1)] w' (ClP Q w'))
    (hB : ∀ f c w, Calls Tryd.prog 22 #[.agg (Q.v f c)] w fun e w' => e = .returned (.func (.func 49) #[.agg (Q.v f c)] #[]) ∧ Below w.heap.size w w')
    (hF : ∀ f c w, Calls Tryd.prog 23 #[.agg (Q.v f c)] w fun e w' => e = .returned (.int .i64 fl) ∧ Below w.heap.size w w')
    (h0 : 0 ≤ fl) (l : List Nat) (m : Int) (hW : ∀ f c w, FisAt w f Q.fl → IntsAt w c Q.cl → Calls Tryd.prog 49 #[.agg (Q.v f c)] w (Pub.Numb l m w)) (hm : m = 0) (k f : Nat) (hk : Q.kind = k) (hf : fl = f) (h256 : ∀ x ∈ l, x < 256) (hR : Hea.RightF k f = 0) (hl : l.length ≤ 4096) :
    Calls Tryd.prog 13 #[.agg (P.v f1 c1)] w (Pub.Numb (Hea.putB k f l.length ++ l) 0 w) := by
  have NE : ∀ (cs : Array Value) (W : World), (binOp .eql 62 (.func (.func 49) #[.agg cs] #[]) .nilFunc).run Tryd.prog W = .ok (.bool false) W := fun _ _ => rfl
  have FL : decide (fl < 0) = false := by simp; omega
  replace h0 := Lib.hid h0
  replace hW := Lib.hid hW
  have K := Lib.hid (Blk.new w 33 (P.v f1 c1))
  have sz0 : Hid ((Tryd.prog.info? 33).map (·.size) = some (P.v f1 c1).size) := Lib.hid (pk_size _ _ _)
  replace hC := Lib.hid hC
  replace hB := Lib.hid hB
  replace hF := Lib.hid hF
  generalize P.v f1 c1 = xs at *
  go_enter Tryd.func13, Tryd.ntmps13
  go_wp2_with (refine wpList_load_row rfl 33 (.tmp 1) rfl w.heap.size rfl 33 xs (0, 0) _ K.out Tryd.underlying33 rfl sz0.out ?_)
  refine (hC.out _ (ext_alloc _ _)).mono ?_
  rintro e w2 ⟨fs, cs', rfl, ⟨hfs, -⟩, ⟨hcs, -⟩, b2⟩
  have hB' := Lib.hid (hB.out fs cs')
  have hF' := Lib.hid (hF.out fs cs')
  have one : Hid ((Q.v fs cs').all (·.oneCell') = true) := Lib.hid (pk_one _ _ _ (fis_one hfs) (ints_one hcs))
  have sz : Hid ((Tryd.prog.info? 61).map (·.size) = some (Q.v fs cs').size) := Lib.hid (by kernel_rfl)
  have hz : Hid ((#[.int .i64 0, .int .i64 0, .bool false, .string ⟨#[]⟩, .string ⟨#[]⟩, .int .i64 0, .bool false, .int .i64 0, .bool false, .int .i64 0, .string ⟨#[]⟩, .bool false, .string ⟨#[]⟩, .string ⟨#[]⟩, .int .i64 0, .bool false, .bool false, .string ⟨#[]⟩, .bool false, .string ⟨#[]⟩, .bool false, .int .i64 0, .slice none 0 0, .slice none 0 0] : Array Value).size = (Q.v fs cs').size) := Lib.hid rfl
  generalize hcs0 : Q.v fs cs' = cs at *
  have A2 := Lib.hid (heap_alloc_new w2 (.cells #[.int .i64 0, .int .i64 0, .bool false, .string ⟨#[]⟩, .string ⟨#[]⟩, .int .i64 0, .bool false, .int .i64 0, .bool false, .int .i64 0, .string ⟨#[]⟩, .bool false, .string ⟨#[]⟩, .string ⟨#[]⟩, .int .i64 0, .bool false, .bool false, .string ⟨#[]⟩, .bool false, .string ⟨#[]⟩, .bool false, .int .i64 0, .slice none 0 0, .slice none 0 0] 61))
  have A3 := Lib.hid (World.setRow_alloc_new w2 #[.int .i64 0, .int .i64 0, .bool false, .string ⟨#[]⟩, .string ⟨#[]⟩, .int .i64 0, .bool false, .int .i64 0, .bool false, .int .i64 0, .string ⟨#[]⟩, .bool false, .string ⟨#[]⟩, .string ⟨#[]⟩, .int .i64 0, .bool false, .bool false, .string ⟨#[]⟩, .bool false, .string ⟨#[]⟩, .bool false, .int .i64 0, .slice none 0 0, .slice none 0 0] cs 61)
  have R4 := Lib.hid (Blk.new w2 61 cs)
  clear hB hF hC
  replace hcs0 := Lib.hid hcs0
  go_wp2_with (refine wpList_store_row rfl 61 (.tmp 4) (.tmp 11) rfl w2.heap.size cs rfl rfl 61 #[.int .i64 0, .int .i64 0, .bool false, .string ⟨#[]⟩, .string ⟨#[]⟩, .int .i64 0, .bool false, .int .i64 0, .bool false, .int .i64 0, .string ⟨#[]⟩, .bool false, .string ⟨#[]⟩, .string ⟨#[]⟩, .int .i64 0, .bool false, .bool false, .string ⟨#[]⟩, .bool false, .string ⟨#[]⟩, .bool false, .int .i64 0, .slice none 0 0, .slice none 0 0] A2.out sz.out hz.out one.out ?_; rw [A3.out])
  have KS : Hid (∀ W, Below (w2.alloc (.cells cs 61)).heap.size (w2.alloc (.cells cs 61)) W → W.rangeAt w2.heap.size 0 cs.toList) := Lib.hid fun W hW j u hj => by
    have := (R4.out.ext hW).cell j
    rw [Nat.zero_add, this]
    simpa using hj
  have B4 := Lib.hid (((Below.refl _ w).alloc (Nat.le_refl _) (.cells xs 33)).trans (b2.mono (by simp)))
  have hT4 := Lib.hid ((ht.keep B4.out).keep ((Below.refl _ w2).alloc (Nat.le_refl _) (.cells cs 61)))
  have B5 := Lib.hid (B4.out.trans (((Below.refl _ w2).alloc (Nat.le_refl _) (.cells cs 61)).mono B4.out.size))
  have bq := ((Below.refl _ w2).alloc (Nat.le_refl _) (.cells cs 61))
  have F4 := Lib.hid (And.intro (hfs.keep bq (Nat.le_refl _)) (hcs.keep bq (Nat.le_refl _)))
  have hW' := Lib.hid (hW.out fs cs')
  rw [hcs0.out] at hW'
  clear ht b2 hfs hcs A2 A3 B4 bq hW
  generalize w2.alloc (.cells cs 61) = W4 at *
  generalize w2.heap.size = bt at *
  refine wp_region_held_drew (S := fun W => W.rangeAt bt 0 cs.toList) (by kernel_rfl) (KS.out _ (ext_drew _)) (fun hHeld => ?_)
  refine wpAnyH_take (i := 0) (oi := _) (v := .agg cs) rfl (by kernel_rfl) (by kernel_rfl) (by kernel_rfl) (fun _ _ _ h => h) (yieldsIf_load_mid (by rfl) 61 _ rfl bt 0 (by rfl) cs.toList _ (fun w hSw => hSw) Tryd.underlying61 rfl sz.out) (by assumption) ?zr0
  try simp only [Act.put, List.setIfInBounds_toArray, List.set_cons_zero, List.set_cons_succ]
  refine wpAnyH_take (i := 2) (oi := _) (v := .agg cs) rfl (by kernel_rfl) (by kernel_rfl) (by kernel_rfl) (fun _ _ _ h => h) (yieldsIf_load_mid (by rfl) 61 _ rfl bt 0 (by rfl) cs.toList _ (fun w hSw => hSw) Tryd.underlying61 rfl sz.out) (by assumption) ?zr2
  try simp only [Act.put, List.setIfInBounds_toArray, List.set_cons_zero, List.set_cons_succ]
  refine wpAnyH_ready (rs := [1]) (by kernel_rfl) (by simp) ?_
  refine AllReadyH.cons (o := _) rfl (fun K hK => ?_) AllReadyH.nil
  go_simp
  refine (hB'.out _).mono ?_
  rintro e w5 ⟨rfl, b5⟩
  go_wp2_with fail
  refine hK _ _ (KS.out _ (ext_trans (ext_drew _) b5)) (fun hHeld2 => ?_)
  have HB5 := Lib.hid (ext_trans (ext_drew _) b5)
  clear hK K b5
  try simp only [Act.put, List.setIfInBounds_toArray, List.set_cons_zero, List.set_cons_succ]
  refine wpAnyH_ready (rs := [3]) (by kernel_rfl) (by simp) ?_
  refine AllReadyH.cons (o := _) rfl (fun K hK => ?_) AllReadyH.nil
  go_simp
  refine (hF'.out _).mono ?_
  rintro e w6 ⟨rfl, b6⟩
  go_wp2_with fail
  refine hK _ _ (KS.out _ (ext_trans HB5.out b6)) (fun hHeld3 => ?_)
  have HB6 := Lib.hid (ext_trans HB5.out b6)
  clear hK K b6
  try simp only [Act.put, List.setIfInBounds_toArray, List.set_cons_zero, List.set_cons_succ]
  refine wpAnyH_take (i := 4) (oi := _) (v := ?zv4) rfl (by kernel_rfl) (by kernel_rfl) (by kernel_rfl) (fun _ _ _ h => h) (Or.inl ⟨by rfl, ?zy4⟩) (by assumption) ?zr4
  case zy4 => (intro w hSw; go_simp <;> with_reducible rfl)
  try simp only [Act.put, List.setIfInBounds_toArray, List.set_cons_zero, List.set_cons_succ]
  refine wpAnyH_take (i := 5) (oi := _) (v := ?zv5) rfl (by kernel_rfl) (by kernel_rfl) (by kernel_rfl) (fun _ _ _ h => h) (Or.inl ⟨by rfl, ?zy5⟩) (by assumption) ?zr5
  case zy5 => (intro w hSw; go_simp <;> with_reducible rfl)
  try simp only [Act.put, List.setIfInBounds_toArray, List.set_cons_zero, List.set_cons_succ]
  refine wpAnyH_done (by kernel_rfl) ?_ _
  clear hHeld hHeld2 hHeld3
  go_wp2_with fail
  refine (hW'.out _ (F4.out.1.keep HB6.out (Nat.le_refl _)) (F4.out.2.keep HB6.out (Nat.le_refl _))).mono ?_
  rintro e w7 ⟨v, rfl, hv, b7⟩
  subst hm hf
  have H := Lib.hid (fun W hT => head_ok k f l.length W hT hR hl)
  have C0 : w7.cell? ⟨bt, 0, none⟩ = some (.int .i64 k) := by
    have := (R4.out.ext (ext_trans HB6.out b7)).cell 0
    rw [this, ← hcs0.out, ← hk]
    rfl
  have T7 := Lib.hid (hT4.out.keep (ext_trans HB6.out b7))
  have B7 := Lib.hid (B5.out.trans ((ext_trans HB6.out b7).mono B5.out.size))
  have HV := Lib.hid hv
  obtain ⟨i0, hi, hz0, hz1, hz2⟩ := info_parts Hea.info5
  have hl' : (l.length : Int) ≤ 4096 := by omega
  have hpl := putB_len k f l.length
  replace hl := Lib.hid hl
  replace hk := Lib.hid hk
  obtain ⟨va, vc, rfl, -, -⟩ := hv
  replace b7 := Lib.hid b7
  generalize hp0 : Hea.putB k f l.length = hp at *
  clear hR h256
  go_wp2_with fail
  refine (H.out _ T7.out).mono ?_
  rintro e w8 ⟨v8, rfl, o8, b8⟩
  have HV8 := Lib.hid (HV.out.keep b8 (Nat.le_refl _))
  replace o8 := Lib.hid o8
  replace b8 := Lib.hid b8
  have hlN := hl.out
  go_wp2_with (at_builtin; refine wpList_append_bytes _ rfl (.tmp 41) (.tmp 42) 48 rfl w7.heap.size 5 i0 Tryd.underlying48 hi hz0 hz1 hz2 v8 hp l rfl o8.out HV8.out (by omega) b8.out.size ?_; intro v9 w9 o9 g9 n9; have b9 := Lib.hid (grown_ext o8.out g9 b8.out.size); replace o9 := Lib.hid o9; clear g9 n9)
  refine bodyPost_ret (v := .tuple #[v9, .int .i64 0]) (by simp [results, Tryd.results13, go_sem]) rfl ⟨_, rfl, BytesAt.of_own o9.out, B7.out.trans ((b8.out.trans b9.out).mono B7.out.size)⟩
set_option maxRecDepth 100000 in
set_option maxHeartbeats 8000000 in
theorem put16_err_50 (P Q : Pk) (f1 c1 : Value) (fl : Int) (w : World) (ht : Hea.Tab3 w)
    (hC : ∀ w', Below w.heap.size w w' → Calls Tryd.prog 14 #[.agg (P.v f1 c1)] w' (ClP Q w'))
    (hB : ∀ f c w, Calls Tryd.prog 22 #[.agg (Q.v f c)] w fun e w' => e = .returned (.func (.func 50) #[.agg (Q.v f c)] #[]) ∧ Below w.heap.size w w')
    (hF : ∀ f c w, Calls Tryd.prog 23 #[.agg (Q.v f c)] w fun e w' => e = .returned (.int .i64 fl) ∧ Below w.heap.size w w')
    (h0 : 0 ≤ fl) (l : List Nat) (m : Int) (hW : ∀ f c w, FisAt w f Q.fl → IntsAt w c Q.cl → Calls Tryd.prog 50 #[.agg (Q.v f c)] w (Pub.Numb l m w)) (hm : m ≠ 0) :
    Calls Tryd.prog 13 #[.agg (P.v f1 c1)] w (Pub.Numb [] m w) := by
  have NE : ∀ (cs : Array Value) (W : World), (binOp .eql 62 (.func (.func 50) #[.agg cs] #[]) .nilFunc).run Tryd.prog W = .ok (.bool false) W := fun _ _ => rfl
  have FL : decide (fl < 0) = false := by simp; omega
  replace h0 := Lib.hid h0
  replace hW := Lib.hid hW
  have K := Lib.hid (Blk.new w 33 (P.v f1 c1))
  have sz0 : Hid ((Tryd.prog.info? 33).map (·.size) = some (P.v f1 c1).size) := Lib.hid (pk_size _ _ _)
  replace hC := Lib.hid hC
  replace hB := Lib.hid hB
  replace hF := Lib.hid hF
  generalize P.v f1 c1 = xs at *
  go_enter Tryd.func13, Tryd.ntmps13
  go_wp2_with (refine wpList_load_row rfl 33 (.tmp 1) rfl w.heap.size rfl 33 xs (0, 0) _ K.out Tryd.underlying33 rfl sz0.out ?_)
  refine (hC.out _ (ext_alloc _ _)).mono ?_
  rintro e w2 ⟨fs, cs', rfl, ⟨hfs, -⟩, ⟨hcs, -⟩, b2⟩
  have hB' := Lib.hid (hB.out fs cs')
  have hF' := Lib.hid (hF.out fs cs')
  have one : Hid ((Q.v fs cs').all (·.oneCell') = true) := Lib.hid (pk_one _ _ _ (fis_one hfs) (ints_one hcs))
  have sz : Hid ((Tryd.prog.info? 61).map (·.size) = some (Q.v fs cs').size) := Lib.hid (by kernel_rfl)
  have hz : Hid ((#[.int .i64 0, .int .i64 0, .bool false, .string ⟨#[]⟩, .string ⟨#[]⟩, .int .i64 0, .bool false, .int .i64 0, .bool false, .int .i64 0, .string ⟨#[]⟩, .bool false, .string ⟨#[]⟩, .string ⟨#[]⟩, .int .i64 0, .bool false, .bool false, .string ⟨#[]⟩, .bool false, .string ⟨#[]⟩, .bool false, .int .i64 0, .slice none 0 0, .slice none 0 0] : Array Value).size = (Q.v fs cs').size) := Lib.hid rfl
  generalize hcs0 : Q.v fs cs' = cs at *
  have A2 := Lib.hid (heap_alloc_new w2 (.cells #[.int .i64 0, .int .i64 0, .bool false, .string ⟨#[]⟩, .string ⟨#[]⟩, .int .i64 0, .bool false, .int .i64 0, .bool false, .int .i64 0, .string ⟨#[]⟩, .bool false, .string ⟨#[]⟩, .string ⟨#[]⟩, .int .i64 0, .bool false, .bool false, .string ⟨#[]⟩, .bool false, .string ⟨#[]⟩, .bool false, .int .i64 0, .slice none 0 0, .slice none 0 0] 61))
  have A3 := Lib.hid (World.setRow_alloc_new w2 #[.int .i64 0, .int .i64 0, .bool false, .string ⟨#[]⟩, .string ⟨#[]⟩, .int .i64 0, .bool false, .int .i64 0, .bool false, .int .i64 0, .string ⟨#[]⟩, .bool false, .string ⟨#[]⟩, .string ⟨#[]⟩, .int .i64 0, .bool false, .bool false, .string ⟨#[]⟩, .bool false, .string ⟨#[]⟩, .bool false, .int .i64 0, .slice none 0 0, .slice none 0 0] cs 61)
  have R4 := Lib.hid (Blk.new w2 61 cs)
  clear hB hF hC
  replace hcs0 := Lib.hid hcs0
  go_wp2_with (refine wpList_store_row rfl 61 (.tmp 4) (.tmp 11) rfl w2.heap.size cs rfl rfl 61 #[.int .i64 0, .int .i64 0, .bool false, .string ⟨#[]⟩, .string ⟨#[]⟩, .int .i64 0, .bool false, .int .i64 0, .bool false, .int .i64 0, .string ⟨#[]⟩, .bool false, .string ⟨#[]⟩, .string ⟨#[]⟩, .int .i64 0, .bool false, .bool false, .string ⟨#[]⟩, .bool false, .string ⟨#[]⟩, .bool false, .int .i64 0, .slice none 0 0, .slice none 0 0] A2.out sz.out hz.out one.out ?_; rw [A3.out])
  have KS : Hid (∀ W, Below (w2.alloc (.cells cs 61)).heap.size (w2.alloc (.cells cs 61)) W → W.rangeAt w2.heap.size 0 cs.toList) := Lib.hid fun W hW j u hj => by
    have := (R4.out.ext hW).cell j
    rw [Nat.zero_add, this]
    simpa using hj
  have B4 := Lib.hid (((Below.refl _ w).alloc (Nat.le_refl _) (.cells xs 33)).trans (b2.mono (by simp)))
  have hT4 := Lib.hid ((ht.keep B4.out).keep ((Below.refl _ w2).alloc (Nat.le_refl _) (.cells cs 61)))
  have B5 := Lib.hid (B4.out.trans (((Below.refl _ w2).alloc (Nat.le_refl _) (.cells cs 61)).mono B4.out.size))
  have bq := ((Below.refl _ w2).alloc (Nat.le_refl _) (.cells cs 61))
  have F4 := Lib.hid (And.intro (hfs.keep bq (Nat.le_refl _)) (hcs.keep bq (Nat.le_refl _)))
  have hW' := Lib.hid (hW.out fs cs')
  rw [hcs0.out] at hW'
  clear ht b2 hfs hcs A2 A3 B4 bq hW
  generalize w2.alloc (.cells cs 61) = W4 at *
  generalize w2.heap.size = bt at *
  refine wp_region_held_drew (S := fun W => W.rangeAt bt 0 cs.toList) (by kernel_rfl) (KS.out _ (ext_drew _)) (fun hHeld => ?_)
  refine wpAnyH_take (i := 0) (oi := _) (v := .agg cs) rfl (by kernel_rfl) (by kernel_rfl) (by kernel_rfl) (fun _ _ _ h => h) (yieldsIf_load_mid (by rfl) 61 _ rfl bt 0 (by rfl) cs.toList _ (fun w hSw => hSw) Tryd.underlying61 rfl sz.out) (by assumption) ?zr0
  try simp only [Act.put, List.setIfInBounds_toArray, List.set_cons_zero, List.set_cons_succ]
  refine wpAnyH_take (i := 2) (oi := _) (v := .agg cs) rfl (by kernel_rfl) (by kernel_rfl) (by kernel_rfl) (fun _ _ _ h => h) (yieldsIf_load_mid (by rfl) 61 _ rfl bt 0 (by rfl) cs.toList _ (fun w hSw => hSw) Tryd.underlying61 rfl sz.out) (by assumption) ?zr2
  try simp only [Act.put, List.setIfInBounds_toArray, List.set_cons_zero, List.set_cons_succ]
  refine wpAnyH_ready (rs := [1]) (by kernel_rfl) (by simp) ?_
  refine AllReadyH.cons (o := _) rfl (fun K hK => ?_) AllReadyH.nil
  go_simp
  refine (hB'.out _).mono ?_
  rintro e w5 ⟨rfl, b5⟩
  go_wp2_with fail
  refine hK _ _ (KS.out _ (ext_trans (ext_drew _) b5)) (fun hHeld2 => ?_)
  have HB5 := Lib.hid (ext_trans (ext_drew _) b5)
  clear hK K b5
  try simp only [Act.put, List.setIfInBounds_toArray, List.set_cons_zero, List.set_cons_succ]
  refine wpAnyH_ready (rs := [3]) (by kernel_rfl) (by simp) ?_
  refine AllReadyH.cons (o := _) rfl (fun K hK => ?_) AllReadyH.nil
  go_simp
  refine (hF'.out _).mono ?_
  rintro e w6 ⟨rfl, b6⟩
  go_wp2_with fail
  refine hK _ _ (KS.out _ (ext_trans HB5.out b6)) (fun hHeld3 => ?_)
  have HB6 := Lib.hid (ext_trans HB5.out b6)
  clear hK K b6
  try simp only [Act.put, List.setIfInBounds_toArray, List.set_cons_zero, List.set_cons_succ]
  refine wpAnyH_take (i := 4) (oi := _) (v := ?zv4) rfl (by kernel_rfl) (by kernel_rfl) (by kernel_rfl) (fun _ _ _ h => h) (Or.inl ⟨by rfl, ?zy4⟩) (by assumption) ?zr4
  case zy4 => (intro w hSw; go_simp <;> with_reducible rfl)
  try simp only [Act.put, List.setIfInBounds_toArray, List.set_cons_zero, List.set_cons_succ]
  refine wpAnyH_take (i := 5) (oi := _) (v := ?zv5) rfl (by kernel_rfl) (by kernel_rfl) (by kernel_rfl) (fun _ _ _ h => h) (Or.inl ⟨by rfl, ?zy5⟩) (by assumption) ?zr5
  case zy5 => (intro w hSw; go_simp <;> with_reducible rfl)
  try simp only [Act.put, List.setIfInBounds_toArray, List.set_cons_zero, List.set_cons_succ]
  refine wpAnyH_done (by kernel_rfl) ?_ _
  clear hHeld hHeld2 hHeld3
  go_wp2_with fail
  refine (hW'.out _ (F4.out.1.keep HB6.out (Nat.le_refl _)) (F4.out.2.keep HB6.out (Nat.le_refl _))).mono ?_
  rintro e w7 ⟨v, rfl, hv, b7⟩
  have hm' : (m != 0) = true := by simpa using hm
  replace hm := Lib.hid hm
  have B7 := Lib.hid (B5.out.trans ((ext_trans HB6.out b7).mono B5.out.size))
  clear b7
  go_wp2_with fail
  refine bodyPost_ret (v := .tuple #[.slice none 0 0, .int .i64 m]) (by simp [results, Tryd.results13, go_sem]) rfl ⟨_, rfl, bytes_nil _, B7.out⟩
set_option maxRecDepth 100000 in
set_option maxHeartbeats 8000000 in
theorem put16_ok_50 (P Q : Pk) (f1 c1 : Value) (fl : Int) (w : World) (ht : Hea.Tab3 w)
    (hC : ∀ w', Below w.heap.size w w' → Calls Tryd.prog 14 #[.agg (P.v f1 c1)] w' (ClP Q w'))
    (hB : ∀ f c w, Calls Tryd.prog 22 #[.agg (Q.v f c)] w fun e w' => e = .returned (.func (.func 50) #[.agg (Q.v f c)] #[]) ∧ Below w.heap.size w w')
    (hF : ∀ f c w, Calls Tryd.prog 23 #[.agg (Q.v f c)] w fun e w' => e = .returned (.int .i64 fl) ∧ Below w.heap.size w w')
    (h0 : 0 ≤ fl) (l : List Nat) (m : Int) (hW : ∀ f c w, FisAt w f Q.fl → IntsAt w c Q.cl → Calls Tryd.prog 50 #[.agg (Q.v f c)] w (Pub.Numb l m w)) (hm : m = 0) (k f : Nat) (hk : Q.kind = k) (hf : fl = f) (h256 : ∀ x ∈ l, x < 256) (hR : Hea.RightF k f = 0) (hl : l.length ≤ 4096) :
    Calls Tryd.prog 13 #[.agg (P.v f1 c1)] w (Pub.Numb (Hea.putB k f l.length ++ l) 0 w) := by
  have NE : ∀ (cs : Array Value) (W : World), (binOp .eql 62 (.func (.func 50) #[.agg cs] #[]) .nilFunc).run Tryd.prog W = .ok (.bool false) W := fun _ _ => rfl
  have FL : decide (fl < 0) = false := by simp; omega
  replace h0 := Lib.hid h0
  replace hW := Lib.hid hW
  have K := Lib.hid (Blk.new w 33 (P.v f1 c1))
  have sz0 : Hid ((Tryd.prog.info? 33).map (·.size) = some (P.v f1 c1).size) := Lib.hid (pk_size _ _ _)
  replace hC := Lib.hid hC
  replace hB := Lib.hid hB
  replace hF := Lib.hid hF
  generalize P.v f1 c1 = xs at *
  go_enter Tryd.func13, Tryd.ntmps13
  go_wp2_with (refine wpList_load_row rfl 33 (.tmp 1) rfl w.heap.size rfl 33 xs (0, 0) _ K.out Tryd.underlying33 rfl sz0.out ?_)
  refine (hC.out _ (ext_alloc _ _)).mono ?_
  rintro e w2 ⟨fs, cs', rfl, ⟨hfs, -⟩, ⟨hcs, -⟩, b2⟩
  have hB' := Lib.hid (hB.out fs cs')
  have hF' := Lib.hid (hF.out fs cs')
  have one : Hid ((Q.v fs cs').all (·.oneCell') = true) := Lib.hid (pk_one _ _ _ (fis_one hfs) (ints_one hcs))
  have sz : Hid ((Tryd.prog.info? 61).map (·.size) = some (Q.v fs cs').size) := Lib.hid (by kernel_rfl)
  have hz : Hid ((#[.int .i64 0, .int .i64 0, .bool false, .string ⟨#[]⟩, .string ⟨#[]⟩, .int .i64 0, .bool false, .int .i64 0, .bool false, .int .i64 0, .string ⟨#[]⟩, .bool false, .string ⟨#[]⟩, .string ⟨#[]⟩, .int .i64 0, .bool false, .bool false, .string ⟨#[]⟩, .bool false, .string ⟨#[]⟩, .bool false, .int .i64 0, .slice none 0 0, .slice none 0 0] : Array Value).size = (Q.v fs cs').size) := Lib.hid rfl
  generalize hcs0 : Q.v fs cs' = cs at *
  have A2 := Lib.hid (heap_alloc_new w2 (.cells #[.int .i64 0, .int .i64 0, .bool false, .string ⟨#[]⟩, .string ⟨#[]⟩, .int .i64 0, .bool false, .int .i64 0, .bool false, .int .i64 0, .string ⟨#[]⟩, .bool false, .string ⟨#[]⟩, .string ⟨#[]⟩, .int .i64 0, .bool false, .bool false, .string ⟨#[]⟩, .bool false, .string ⟨#[]⟩, .bool false, .int .i64 0, .slice none 0 0, .slice none 0 0] 61))
  have A3 := Lib.hid (World.setRow_alloc_new w2 #[.int .i64 0, .int .i64 0, .bool false, .string ⟨#[]⟩, .string ⟨#[]⟩, .int .i64 0, .bool false, .int .i64 0, .bool false, .int .i64 0, .string ⟨#[]⟩, .bool false, .string ⟨#[]⟩, .string ⟨#[]⟩, .int .i64 0, .bool false, .bool false, .string ⟨#[]⟩, .bool false, .string ⟨#[]⟩, .bool false, .int .i64 0, .slice none 0 0, .slice none 0 0] cs 61)
  have R4 := Lib.hid (Blk.new w2 61 cs)
  clear hB hF hC
  replace hcs0 := Lib.hid hcs0
  go_wp2_with (refine wpList_store_row rfl 61 (.tmp 4) (.tmp 11) rfl w2.heap.size cs rfl rfl 61 #[.int .i64 0, .int .i64 0, .bool false, .string ⟨#[]⟩, .string ⟨#[]⟩, .int .i64 0, .bool false, .int .i64 0, .bool false, .int .i64 0, .string ⟨#[]⟩, .bool false, .string ⟨#[]⟩, .string ⟨#[]⟩, .int .i64 0, .bool false, .bool false, .string ⟨#[]⟩, .bool false, .string ⟨#[]⟩, .bool false, .int .i64 0, .slice none 0 0, .slice none 0 0] A2.out sz.out hz.out one.out ?_; rw [A3.out])
  have KS : Hid (∀ W, Below (w2.alloc (.cells cs 61)).heap.size (w2.alloc (.cells cs 61)) W → W.rangeAt w2.heap.size 0 cs.toList) := Lib.hid fun W hW j u hj => by
    have := (R4.out.ext hW).cell j
    rw [Nat.zero_add, this]
    simpa using hj
  have B4 := Lib.hid (((Below.refl _ w).alloc (Nat.le_refl _) (.cells xs 33)).trans (b2.mono (by simp)))
  have hT4 := Lib.hid ((ht.keep B4.out).keep ((Below.refl _ w2).alloc (Nat.le_refl _) (.cells cs 61)))
  have B5 := Lib.hid (B4.out.trans (((Below.refl _ w2).alloc (Nat.le_refl _) (.cells cs 61)).mono B4.out.size))
  have bq := ((Below.refl _ w2).alloc (Nat.le_refl _) (.cells cs 61))
  have F4 := Lib.hid (And.intro (hfs.keep bq (Nat.le_refl _)) (hcs.keep bq (Nat.le_refl _)))
  have hW' := Lib.hid (hW.out fs cs')
  rw [hcs0.out] at hW'
  clear ht b2 hfs hcs A2 A3 B4 bq hW
  generalize w2.alloc (.cells cs 61) = W4 at *
  generalize w2.heap.size = bt at *
  refine wp_region_held_drew (S := fun W => W.rangeAt bt 0 cs.toList) (by kernel_rfl) (KS.out _ (ext_drew _)) (fun hHeld => ?_)
  refine wpAnyH_take (i := 0) (oi := _) (v := .agg cs) rfl (by kernel_rfl) (by kernel_rfl) (by kernel_rfl) (fun _ _ _ h => h) (yieldsIf_load_mid (by rfl) 61 _ rfl bt 0 (by rfl) cs.toList _ (fun w hSw => hSw) Tryd.underlying61 rfl sz.out) (by assumption) ?zr0
  try simp only [Act.put, List.setIfInBounds_toArray, List.set_cons_zero, List.set_cons_succ]
  refine wpAnyH_take (i := 2) (oi := _) (v := .agg cs) rfl (by kernel_rfl) (by kernel_rfl) (by kernel_rfl) (fun _ _ _ h => h) (yieldsIf_load_mid (by rfl) 61 _ rfl bt 0 (by rfl) cs.toList _ (fun w hSw => hSw) Tryd.underlying61 rfl sz.out) (by assumption) ?zr2
  try simp only [Act.put, List.setIfInBounds_toArray, List.set_cons_zero, List.set_cons_succ]
  refine wpAnyH_ready (rs := [1]) (by kernel_rfl) (by simp) ?_
  refine AllReadyH.cons (o := _) rfl (fun K hK => ?_) AllReadyH.nil
  go_simp
  refine (hB'.out _).mono ?_
  rintro e w5 ⟨rfl, b5⟩
  go_wp2_with fail
  refine hK _ _ (KS.out _ (ext_trans (ext_drew _) b5)) (fun hHeld2 => ?_)
  have HB5 := Lib.hid (ext_trans (ext_drew _) b5)
  clear hK K b5
  try simp only [Act.put, List.setIfInBounds_toArray, List.set_cons_zero, List.set_cons_succ]
  refine wpAnyH_ready (rs := [3]) (by kernel_rfl) (by simp) ?_
  refine AllReadyH.cons (o := _) rfl (fun K hK => ?_) AllReadyH.nil
  go_simp
  refine (hF'.out _).mono ?_
  rintro e w6 ⟨rfl, b6⟩
  go_wp2_with fail
  refine hK _ _ (KS.out _ (ext_trans HB5.out b6)) (fun hHeld3 => ?_)
  have HB6 := Lib.hid (ext_trans HB5.out b6)
  clear hK K b6
  try simp only [Act.put, List.setIfInBounds_toArray, List.set_cons_zero, List.set_cons_succ]
  refine wpAnyH_take (i := 4) (oi := _) (v := ?zv4) rfl (by kernel_rfl) (by kernel_rfl) (by kernel_rfl) (fun _ _ _ h => h) (Or.inl ⟨by rfl, ?zy4⟩) (by assumption) ?zr4
  case zy4 => (intro w hSw; go_simp <;> with_reducible rfl)
  try simp only [Act.put, List.setIfInBounds_toArray, List.set_cons_zero, List.set_cons_succ]
  refine wpAnyH_take (i := 5) (oi := _) (v := ?zv5) rfl (by kernel_rfl) (by kernel_rfl) (by kernel_rfl) (fun _ _ _ h => h) (Or.inl ⟨by rfl, ?zy5⟩) (by assumption) ?zr5
  case zy5 => (intro w hSw; go_simp <;> with_reducible rfl)
  try simp only [Act.put, List.setIfInBounds_toArray, List.set_cons_zero, List.set_cons_succ]
  refine wpAnyH_done (by kernel_rfl) ?_ _
  clear hHeld hHeld2 hHeld3
  go_wp2_with fail
  refine (hW'.out _ (F4.out.1.keep HB6.out (Nat.le_refl _)) (F4.out.2.keep HB6.out (Nat.le_refl _))).mono ?_
  rintro e w7 ⟨v, rfl, hv, b7⟩
  subst hm hf
  have H := Lib.hid (fun W hT => head_ok k f l.length W hT hR hl)
  have C0 : w7.cell? ⟨bt, 0, none⟩ = some (.int .i64 k) := by
    have := (R4.out.ext (ext_trans HB6.out b7)).cell 0
    rw [this, ← hcs0.out, ← hk]
    rfl
  have T7 := Lib.hid (hT4.out.keep (ext_trans HB6.out b7))
  have B7 := Lib.hid (B5.out.trans ((ext_trans HB6.out b7).mono B5.out.size))
  have HV := Lib.hid hv
  obtain ⟨i0, hi, hz0, hz1, hz2⟩ := info_parts Hea.info5
  have hl' : (l.length : Int) ≤ 4096 := by omega
  have hpl := putB_len k f l.length
  replace hl := Lib.hid hl
  replace hk := Lib.hid hk
  obtain ⟨va, vc, rfl, -, -⟩ := hv
  replace b7 := Lib.hid b7
  generalize hp0 : Hea.putB k f l.length = hp at *
  clear hR h256
  go_wp2_with fail
  refine (H.out _ T7.out).mono ?_
  rintro e w8 ⟨v8, rfl, o8, b8⟩
  have HV8 := Lib.hid (HV.out.keep b8 (Nat.le_refl _))
  replace o8 := Lib.hid o8
  replace b8 := Lib.hid b8
  have hlN := hl.out
  go_wp2_with (at_builtin; refine wpList_append_bytes _ rfl (.tmp 41) (.tmp 42) 48 rfl w7.heap.size 5 i0 Tryd.underlying48 hi hz0 hz1 hz2 v8 hp l rfl o8.out HV8.out (by omega) b8.out.size ?_; intro v9 w9 o9 g9 n9; have b9 := Lib.hid (grown_ext o8.out g9 b8.out.size); replace o9 := Lib.hid o9; clear g9 n9)
  refine bodyPost_ret (v := .tuple #[v9, .int .i64 0]) (by simp [results, Tryd.results13, go_sem]) rfl ⟨_, rfl, BytesAt.of_own o9.out, B7.out.trans ((b8.out.trans b9.out).mono B7.out.size)⟩
set_option maxRecDepth 100000 in
set_option maxHeartbeats 8000000 in
theorem put16_err_51 (P Q : Pk) (f1 c1 : Value) (fl : Int) (w : World) (ht : Hea.Tab3 w)
    (hC : ∀ w, Calls Tryd.prog 14 #[.agg (P.v f1 c1)] w (ClP Q w))
    (hB : ∀ f c w, Calls Tryd.prog 22 #[.agg (Q.v f c)] w fun e w' => e = .returned (.func (.func 51) #[.agg (Q.v f c)] #[]) ∧ Below w.heap.size w w')
    (hF : ∀ f c w, Calls Tryd.prog 23 #[.agg (Q.v f c)] w fun e w' => e = .returned (.int .i64 fl) ∧ Below w.heap.size w w')
    (h0 : 0 ≤ fl) (l : List Nat) (m : Int) (hW : ∀ f c w, FisAt w f Q.fl → IntsAt w c Q.cl → Calls Tryd.prog 51 #[.agg (Q.v f c)] w (Pub.Numb l m w)) (hm : m ≠ 0) :
    Calls Tryd.prog 13 #[.agg (P.v f1 c1)] w (Pub.Numb [] m w) := by
  have NE : ∀ (cs : Array Value) (W : World), (binOp .eql 62 (.func (.func 51) #[.agg cs] #[]) .nilFunc).run Tryd.prog W = .ok (.bool false) W := fun _ _ => rfl
  have FL : decide (fl < 0) = false := by simp; omega
  replace h0 := Lib.hid h0
  replace hW := Lib.hid hW
  have K := Lib.hid (Blk.new w 33 (P.v f1 c1))
  have sz0 : Hid ((Tryd.prog.info? 33).map (·.size) = some (P.v f1 c1).size) := Lib.hid (pk_size _ _ _)
  replace hC := Lib.hid hC
  replace hB := Lib.hid hB
  replace hF := Lib.hid hF
  generalize P.v f1 c1 = xs at *
  go_enter Tryd.func13, Tryd.ntmps13
  go_wp2_with (refine wpList_load_row rfl 33 (.tmp 1) rfl w.heap.size rfl 33 xs (0, 0) _ K.out Tryd.underlying33 rfl sz0.out ?_)
  refine (hC.out _).mono ?_
  rintro e w2 ⟨fs, cs', rfl, ⟨hfs, -⟩, ⟨hcs, -⟩, b2⟩
  have hB' := Lib.hid (hB.out fs cs')
  have hF' := Lib.hid (hF.out fs cs')
  have one : Hid ((Q.v fs cs').all (·.oneCell') = true) := Lib.hid (pk_one _ _ _ (fis_one hfs) (ints_one hcs))
  have sz : Hid ((Tryd.prog.info? 61).map (·.size) = some (Q.v fs cs').size) := Lib.hid (by kernel_rfl)
  have hz : Hid ((#[.int .i64 0, .int .i64 0, .bool false, .string ⟨#[]⟩, .string ⟨#[]⟩, .int .i64 0, .bool false, .int .i64 0, .bool false, .int .i64 0, .string ⟨#[]⟩, .bool false, .string ⟨#[]⟩, .string ⟨#[]⟩, .int .i64 0, .bool false, .bool false, .string ⟨#[]⟩, .bool false, .string ⟨#[]⟩, .bool false, .int .i64 0, .slice none 0 0, .slice none 0 0] : Array Value).size = (Q.v fs cs').size) := Lib.hid rfl
  generalize hcs0 : Q.v fs cs' = cs at *
  have A2 := Lib.hid (heap_alloc_new w2 (.cells #[.int .i64 0, .int .i64 0, .bool false, .string ⟨#[]⟩, .string ⟨#[]⟩, .int .i64 0, .bool false, .int .i64 0, .bool false, .int .i64 0, .string ⟨#[]⟩, .bool false, .string ⟨#[]⟩, .string ⟨#[]⟩, .int .i64 0, .bool false, .bool false, .string ⟨#[]⟩, .bool false, .string ⟨#[]⟩, .bool false, .int .i64 0, .slice none 0 0, .slice none 0 0] 61))
  have A3 := Lib.hid (World.setRow_alloc_new w2 #[.int .i64 0, .int .i64 0, .bool false, .string ⟨#[]⟩, .string ⟨#[]⟩, .int .i64 0, .bool false, .int .i64 0, .bool false, .int .i64 0, .string ⟨#[]⟩, .bool false, .string ⟨#[]⟩, .string ⟨#[]⟩, .int .i64 0, .bool false, .bool false, .string ⟨#[]⟩, .bool false, .string ⟨#[]⟩, .bool false, .int .i64 0, .slice none 0 0, .slice none 0 0] cs 61)
  have R4 := Lib.hid (Blk.new w2 61 cs)
  clear hB hF hC
  replace hcs0 := Lib.hid hcs0
  go_wp2_with (refine wpList_store_row rfl 61 (.tmp 4) (.tmp 11) rfl w2.heap.size cs rfl rfl 61 #[.int .i64 0, .int .i64 0, .bool false, .string ⟨#[]⟩, .string ⟨#[]⟩, .int .i64 0, .bool false, .int .i64 0, .bool false, .int .i64 0, .string ⟨#[]⟩, .bool false, .string ⟨#[]⟩, .string ⟨#[]⟩, .int .i64 0, .bool false, .bool false, .string ⟨#[]⟩, .bool false, .string ⟨#[]⟩, .bool false, .int .i64 0, .slice none 0 0, .slice none 0 0] A2.out sz.out hz.out one.out ?_; rw [A3.out])
  have KS : Hid (∀ W, Below (w2.alloc (.cells cs 61)).heap.size (w2.alloc (.cells cs 61)) W → W.rangeAt w2.heap.size 0 cs.toList) := Lib.hid fun W hW j u hj => by
    have := (R4.out.ext hW).cell j
    rw [Nat.zero_add, this]
    simpa using hj
  have B4 := Lib.hid (((Below.refl _ w).alloc (Nat.le_refl _) (.cells xs 33)).trans (b2.mono (by simp)))
  have hT4 := Lib.hid ((ht.keep B4.out).keep ((Below.refl _ w2).alloc (Nat.le_refl _) (.cells cs 61)))
  have B5 := Lib.hid (B4.out.trans (((Below.refl _ w2).alloc (Nat.le_refl _) (.cells cs 61)).mono B4.out.size))
  have bq := ((Below.refl _ w2).alloc (Nat.le_refl _) (.cells cs 61))
  have F4 := Lib.hid (And.intro (hfs.keep bq (Nat.le_refl _)) (hcs.keep bq (Nat.le_refl _)))
  have hW' := Lib.hid (hW.out fs cs')
  rw [hcs0.out] at hW'
  clear ht b2 hfs hcs A2 A3 B4 bq hW
  generalize w2.alloc (.cells cs 61) = W4 at *
  generalize w2.heap.size = bt at *
  refine wp_region_held_drew (S := fun W => W.rangeAt bt 0 cs.toList) (by kernel_rfl) (KS.out _ (ext_drew _)) (fun hHeld => ?_)
  refine wpAnyH_take (i := 0) (oi := _) (v := .agg cs) rfl (by kernel_rfl) (by kernel_rfl) (by kernel_rfl) (fun _ _ _ h => h) (yieldsIf_load_mid (by rfl) 61 _ rfl bt 0 (by rfl) cs.toList _ (fun w hSw => hSw) Tryd.underlying61 rfl sz.out) (by assumption) ?zr0
  try simp only [Act.put, List.setIfInBounds_toArray, List.set_cons_zero, List.set_cons_succ]
  refine wpAnyH_take (i := 2) (oi := _) (v := .agg cs) rfl (by kernel_rfl) (by kernel_rfl) (by kernel_rfl) (fun _ _ _ h => h) (yieldsIf_load_mid (by rfl) 61 _ rfl bt 0 (by rfl) cs.toList _ (fun w hSw => hSw) Tryd.underlying61 rfl sz.out) (by assumption) ?zr2
  try simp only [Act.put, List.setIfInBounds_toArray, List.set_cons_zero, List.set_cons_succ]
  refine wpAnyH_ready (rs := [1]) (by kernel_rfl) (by simp) ?_
  refine AllReadyH.cons (o := _) rfl (fun K hK => ?_) AllReadyH.nil
  go_simp
  refine (hB'.out _).mono ?_
  rintro e w5 ⟨rfl, b5⟩
  go_wp2_with fail
  refine hK _ _ (KS.out _ (ext_trans (ext_drew _) b5)) (fun hHeld2 => ?_)
  have HB5 := Lib.hid (ext_trans (ext_drew _) b5)
  clear hK K b5
  try simp only [Act.put, List.setIfInBounds_toArray, List.set_cons_zero, List.set_cons_succ]
  refine wpAnyH_ready (rs := [3]) (by kernel_rfl) (by simp) ?_
  refine AllReadyH.cons (o := _) rfl (fun K hK => ?_) AllReadyH.nil
  go_simp
  refine (hF'.out _).mono ?_
  rintro e w6 ⟨rfl, b6⟩
  go_wp2_with fail
  refine hK _ _ (KS.out _ (ext_trans HB5.out b6)) (fun hHeld3 => ?_)
  have HB6 := Lib.hid (ext_trans HB5.out b6)
  clear hK K b6
  try simp only [Act.put, List.setIfInBounds_toArray, List.set_cons_zero, List.set_cons_succ]
  refine wpAnyH_take (i := 4) (oi := _) (v := ?zv4) rfl (by kernel_rfl) (by kernel_rfl) (by kernel_rfl) (fun _ _ _ h => h) (Or.inl ⟨by rfl, ?zy4⟩) (by assumption) ?zr4
  case zy4 => (intro w hSw; go_simp <;> with_reducible rfl)
  try simp only [Act.put, List.setIfInBounds_toArray, List.set_cons_zero, List.set_cons_succ]
  refine wpAnyH_take (i := 5) (oi := _) (v := ?zv5) rfl (by kernel_rfl) (by kernel_rfl) (by kernel_rfl) (fun _ _ _ h => h) (Or.inl ⟨by rfl, ?zy5⟩) (by assumption) ?zr5
  case zy5 => (intro w hSw; go_simp <;> with_reducible rfl)
  try simp only [Act.put, List.setIfInBounds_toArray, List.set_cons_zero, List.set_cons_succ]
  refine wpAnyH_done (by kernel_rfl) ?_ _
  clear hHeld hHeld2 hHeld3
  go_wp2_with fail
  refine (hW'.out _ (F4.out.1.keep HB6.out (Nat.le_refl _)) (F4.out.2.keep HB6.out (Nat.le_refl _))).mono ?_
  rintro e w7 ⟨v, rfl, hv, b7⟩
  have hm' : (m != 0) = true := by simpa using hm
  replace hm := Lib.hid hm
  have B7 := Lib.hid (B5.out.trans ((ext_trans HB6.out b7).mono B5.out.size))
  clear b7
  go_wp2_with fail
  refine bodyPost_ret (v := .tuple #[.slice none 0 0, .int .i64 m]) (by simp [results, Tryd.results13, go_sem]) rfl ⟨_, rfl, bytes_nil _, B7.out⟩
set_option maxRecDepth 100000 in
set_option maxHeartbeats 8000000 in
theorem put16_ok_51 (P Q : Pk) (f1 c1 : Value) (fl : Int) (w : World) (ht : Hea.Tab3 w)
    (hC : ∀ w, Calls Tryd.prog 14 #[.agg (P.v f1 c1)] w (ClP Q w))
    (hB : ∀ f c w, Calls Tryd.prog 22 #[.agg (Q.v f c)] w fun e w' => e = .returned (.func (.func 51) #[.agg (Q.v f c)] #[]) ∧ Below w.heap.size w w')
    (hF : ∀ f c w, Calls Tryd.prog 23 #[.agg (Q.v f c)] w fun e w' => e = .returned (.int .i64 fl) ∧ Below w.heap.size w w')
    (h0 : 0 ≤ fl) (l : List Nat) (m : Int) (hW : ∀ f c w, FisAt w f Q.fl → IntsAt w c Q.cl → Calls Tryd.prog 51 #[.agg (Q.v f c)] w (Pub.Numb l m w)) (hm : m = 0) (k f : Nat) (hk : Q.kind = k) (hf : fl = f) (h256 : ∀ x ∈ l, x < 256) (hR : Hea.RightF k f = 0) (hl : l.length ≤ 4096) :
    Calls Tryd.prog 13 #[.agg (P.v f1 c1)] w (Pub.Numb (Hea.putB k f l.length ++ l) 0 w) := by
  have NE : ∀ (cs : Array Value) (W : World), (binOp .eql 62 (.func (.func 51) #[.agg cs] #[]) .nilFunc).run Tryd.prog W = .ok (.bool false) W := fun _ _ => rfl
  have FL : decide (fl < 0) = false := by simp; omega
  replace h0 := Lib.hid h0
  replace hW := Lib.hid hW
  have K := Lib.hid (Blk.new w 33 (P.v f1 c1))
  have sz0 : Hid ((Tryd.prog.info? 33).map (·.size) = some (P.v f1 c1).size) := Lib.hid (pk_size _ _ _)
  replace hC := Lib.hid hC
  replace hB := Lib.hid hB
  replace hF := Lib.hid hF
  generalize P.v f1 c1 = xs at *
  go_enter Tryd.func13, Tryd.ntmps13
  go_wp2_with (refine wpList_load_row rfl 33 (.tmp 1) rfl w.heap.size rfl 33 xs (0, 0) _ K.out Tryd.underlying33 rfl sz0.out ?_)
  refine (hC.out _).mono ?_
  rintro e w2 ⟨fs, cs', rfl, ⟨hfs, -⟩, ⟨hcs, -⟩, b2⟩
  have hB' := Lib.hid (hB.out fs cs')
  have hF' := Lib.hid (hF.out fs cs')
  have one : Hid ((Q.v fs cs').all (·.oneCell') = true) := Lib.hid (pk_one _ _ _ (fis_one hfs) (ints_one hcs))
  have sz : Hid ((Tryd.prog.info? 61).map (·.size) = some (Q.v fs cs').size) := Lib.hid (by kernel_rfl)
  have hz : Hid ((#[.int .i64 0, .int .i64 0, .bool false, .string ⟨#[]⟩, .string ⟨#[]⟩, .int .i64 0, .bool false, .int .i64 0, .bool false, .int .i64 0, .string ⟨#[]⟩, .bool false, .string ⟨#[]⟩, .string ⟨#[]⟩, .int .i64 0, .bool false, .bool false, .string ⟨#[]⟩, .bool false, .string ⟨#[]⟩, .bool false, .int .i64 0, .slice none 0 0, .slice none 0 0] : Array Value).size = (Q.v fs cs').size) := Lib.hid rfl
  generalize hcs0 : Q.v fs cs' = cs at *
  have A2 := Lib.hid (heap_alloc_new w2 (.cells #[.int .i64 0, .int .i64 0, .bool false, .string ⟨#[]⟩, .string ⟨#[]⟩, .int .i64 0, .bool false, .int .i64 0, .bool false, .int .i64 0, .string ⟨#[]⟩, .bool false, .string ⟨#[]⟩, .string ⟨#[]⟩, .int .i64 0, .bool false, .bool false, .string ⟨#[]⟩, .bool false, .string ⟨#[]⟩, .bool false, .int .i64 0, .slice none 0 0, .slice none 0 0] 61))
  have A3 := Lib.hid (World.setRow_alloc_new w2 #[.int .i64 0, .int .i64 0, .bool false, .string ⟨#[]⟩, .string ⟨#[]⟩, .int .i64 0, .bool false, .int .i64 0, .bool false, .int .i64 0, .string ⟨#[]⟩, .bool false, .string ⟨#[]⟩, .string ⟨#[]⟩, .int .i64 0, .bool false, .bool false, .string ⟨#[]⟩, .bool false, .string ⟨#[]⟩, .bool false, .int .i64 0, .slice none 0 0, .slice none 0 0] cs 61)
  have R4 := Lib.hid (Blk.new w2 61 cs)
  clear hB hF hC
  replace hcs0 := Lib.hid hcs0
  go_wp2_with (refine wpList_store_row rfl 61 (.tmp 4) (.tmp 11) rfl w2.heap.size cs rfl rfl 61 #[.int .i64 0, .int .i64 0, .bool false, .string ⟨#[]⟩, .string ⟨#[]⟩, .int .i64 0, .bool false, .int .i64 0, .bool false, .int .i64 0, .string ⟨#[]⟩, .bool false, .string ⟨#[]⟩, .string ⟨#[]⟩, .int .i64 0, .bool false, .bool false, .string ⟨#[]⟩, .bool false, .string ⟨#[]⟩, .bool false, .int .i64 0, .slice none 0 0, .slice none 0 0] A2.out sz.out hz.out one.out ?_; rw [A3.out])
  have KS : Hid (∀ W, Below (w2.alloc (.cells cs 61)).heap.size (w2.alloc (.cells cs 61)) W → W.rangeAt w2.heap.size 0 cs.toList) := Lib.hid fun W hW j u hj => by
    have := (R4.out.ext hW).cell j
    rw [Nat.zero_add, this]
    simpa using hj
  have B4 := Lib.hid (((Below.refl _ w).alloc (Nat.le_refl _) (.cells xs 33)).trans (b2.mono (by simp)))
  have hT4 := Lib.hid ((ht.keep B4.out).keep ((Below.refl _ w2).alloc (Nat.le_refl _) (.cells cs 61)))
  have B5 := Lib.hid (B4.out.trans (((Below.refl _ w2).alloc (Nat.le_refl _) (.cells cs 61)).mono B4.out.size))
  have bq := ((Below.refl _ w2).alloc (Nat.le_refl _) (.cells cs 61))
  have F4 := Lib.hid (And.intro (hfs.keep bq (Nat.le_refl _)) (hcs.keep bq (Nat.le_refl _)))
  have hW' := Lib.hid (hW.out fs cs')
  rw [hcs0.out] at hW'
  clear ht b2 hfs hcs A2 A3 B4 bq hW
  generalize w2.alloc (.cells cs 61) = W4 at *
  generalize w2.heap.size = bt at *
  refine wp_region_held_drew (S := fun W => W.rangeAt bt 0 cs.toList) (by kernel_rfl) (KS.out _ (ext_drew _)) (fun hHeld => ?_)
  refine wpAnyH_take (i := 0) (oi := _) (v := .agg cs) rfl (by kernel_rfl) (by kernel_rfl) (by kernel_rfl) (fun _ _ _ h => h) (yieldsIf_load_mid (by rfl) 61 _ rfl bt 0 (by rfl) cs.toList _ (fun w hSw => hSw) Tryd.underlying61 rfl sz.out) (by assumption) ?zr0
  try simp only [Act.put, List.setIfInBounds_toArray, List.set_cons_zero, List.set_cons_succ]
  refine wpAnyH_take (i := 2) (oi := _) (v := .agg cs) rfl (by kernel_rfl) (by kernel_rfl) (by kernel_rfl) (fun _ _ _ h => h) (yieldsIf_load_mid (by rfl) 61 _ rfl bt 0 (by rfl) cs.toList _ (fun w hSw => hSw) Tryd.underlying61 rfl sz.out) (by assumption) ?zr2
  try simp only [Act.put, List.setIfInBounds_toArray, List.set_cons_zero, List.set_cons_succ]
  refine wpAnyH_ready (rs := [1]) (by kernel_rfl) (by simp) ?_
  refine AllReadyH.cons (o := _) rfl (fun K hK => ?_) AllReadyH.nil
  go_simp
  refine (hB'.out _).mono ?_
  rintro e w5 ⟨rfl, b5⟩
  go_wp2_with fail
  refine hK _ _ (KS.out _ (ext_trans (ext_drew _) b5)) (fun hHeld2 => ?_)
  have HB5 := Lib.hid (ext_trans (ext_drew _) b5)
  clear hK K b5
  try simp only [Act.put, List.setIfInBounds_toArray, List.set_cons_zero, List.set_cons_succ]
  refine wpAnyH_ready (rs := [3]) (by kernel_rfl) (by simp) ?_
  refine AllReadyH.cons (o := _) rfl (fun K hK => ?_) AllReadyH.nil
  go_simp
  refine (hF'.out _).mono ?_
  rintro e w6 ⟨rfl, b6⟩
  go_wp2_with fail
  refine hK _ _ (KS.out _ (ext_trans HB5.out b6)) (fun hHeld3 => ?_)
  have HB6 := Lib.hid (ext_trans HB5.out b6)
  clear hK K b6
  try simp only [Act.put, List.setIfInBounds_toArray, List.set_cons_zero, List.set_cons_succ]
  refine wpAnyH_take (i := 4) (oi := _) (v := ?zv4) rfl (by kernel_rfl) (by kernel_rfl) (by kernel_rfl) (fun _ _ _ h => h) (Or.inl ⟨by rfl, ?zy4⟩) (by assumption) ?zr4
  case zy4 => (intro w hSw; go_simp <;> with_reducible rfl)
  try simp only [Act.put, List.setIfInBounds_toArray, List.set_cons_zero, List.set_cons_succ]
  refine wpAnyH_take (i := 5) (oi := _) (v := ?zv5) rfl (by kernel_rfl) (by kernel_rfl) (by kernel_rfl) (fun _ _ _ h => h) (Or.inl ⟨by rfl, ?zy5⟩) (by assumption) ?zr5
  case zy5 => (intro w hSw; go_simp <;> with_reducible rfl)
  try simp only [Act.put, List.setIfInBounds_toArray, List.set_cons_zero, List.set_cons_succ]
  refine wpAnyH_done (by kernel_rfl) ?_ _
  clear hHeld hHeld2 hHeld3
  go_wp2_with fail
  refine (hW'.out _ (F4.out.1.keep HB6.out (Nat.le_refl _)) (F4.out.2.keep HB6.out (Nat.le_refl _))).mono ?_
  rintro e w7 ⟨v, rfl, hv, b7⟩
  subst hm hf
  have H := Lib.hid (fun W hT => head_ok k f l.length W hT hR hl)
  have C0 : w7.cell? ⟨bt, 0, none⟩ = some (.int .i64 k) := by
    have := (R4.out.ext (ext_trans HB6.out b7)).cell 0
    rw [this, ← hcs0.out, ← hk]
    rfl
  have T7 := Lib.hid (hT4.out.keep (ext_trans HB6.out b7))
  have B7 := Lib.hid (B5.out.trans ((ext_trans HB6.out b7).mono B5.out.size))
  have HV := Lib.hid hv
  obtain ⟨i0, hi, hz0, hz1, hz2⟩ := info_parts Hea.info5
  have hl' : (l.length : Int) ≤ 4096 := by omega
  have hpl := putB_len k f l.length
  replace hl := Lib.hid hl
  replace hk := Lib.hid hk
  obtain ⟨va, vc, rfl, -, -⟩ := hv
  replace b7 := Lib.hid b7
  generalize hp0 : Hea.putB k f l.length = hp at *
  clear hR h256
  go_wp2_with fail
  refine (H.out _ T7.out).mono ?_
  rintro e w8 ⟨v8, rfl, o8, b8⟩
  have HV8 := Lib.hid (HV.out.keep b8 (Nat.le_refl _))
  replace o8 := Lib.hid o8
  replace b8 := Lib.hid b8
  have hlN := hl.out
  go_wp2_with (at_builtin; refine wpList_append_bytes _ rfl (.tmp 41) (.tmp 42) 48 rfl w7.heap.size 5 i0 Tryd.underlying48 hi hz0 hz1 hz2 v8 hp l rfl o8.out HV8.out (by omega) b8.out.size ?_; intro v9 w9 o9 g9 n9; have b9 := Lib.hid (grown_ext o8.out g9 b8.out.size); replace o9 := Lib.hid o9; clear g9 n9)
  refine bodyPost_ret (v := .tuple #[v9, .int .i64 0]) (by simp [results, Tryd.results13, go_sem]) rfl ⟨_, rfl, BytesAt.of_own o9.out, B7.out.trans ((b8.out.trans b9.out).mono B7.out.size)⟩
end Go.Proofs.YtmpklaokgogigaaDoor.Pac

/-
  LAYER 16: what Put refuses at once.
-/
namespace Go.Proofs.YtmpklaokgogigaaDoor.Pac
set_option linter.unusedVariables false
set_option linter.unusedSimpArgs false
open Go.Proofs.YtmpklaokgogigaaDoor
open Go.RowKit
set_option maxRecDepth 100000 in
set_option maxHeartbeats 4000000 in
theorem body_x (P : Pk) (f c : Value) (w : World) (hk : P.kind < 1 ∨ 14 < P.kind) : Calls Tryd.prog 22 #[.agg (P.v f c)] w fun e w' => e = .returned .nilFunc ∧ Below w.heap.size w w' := by
  have K := Lib.hid (Blk.new w 61 (P.v f c))
  have c0 : (w.alloc (.cells (P.v f c) 61)).cell? ⟨w.heap.size, 0, none⟩ = some (.int .i64 P.kind) := by rw [K.out.cell]; rfl
  generalize P.v f c = cs at *
  generalize P.kind = k at *
  have e1 : (k == 1) = false := by rw [beq_eq_false_iff_ne]; omega
  have e2 : (k == 2) = false := by rw [beq_eq_false_iff_ne]; omega
  have e3 : (k == 3) = false := by rw [beq_eq_false_iff_ne]; omega
  have e4 : (k == 4) = false := by rw [beq_eq_false_iff_ne]; omega
  have e5 : (k == 5) = false := by rw [beq_eq_false_iff_ne]; omega
  have e6 : (k == 6) = false := by rw [beq_eq_false_iff_ne]; omega
  have e7 : (k == 7) = false := by rw [beq_eq_false_iff_ne]; omega
  have e8 : (k == 8) = false := by rw [beq_eq_false_iff_ne]; omega
  have e9 : (k == 9) = false := by rw [beq_eq_false_iff_ne]; omega
  have e10 : (k == 10) = false := by rw [beq_eq_false_iff_ne]; omega
  have e11 : (k == 11) = false := by rw [beq_eq_false_iff_ne]; omega
  have e12 : (k == 12) = false := by rw [beq_eq_false_iff_ne]; omega
  have e13 : (k == 13) = false := by rw [beq_eq_false_iff_ne]; omega
  have e14 : (k == 14) = false := by rw [beq_eq_false_iff_ne]; omega
  replace hk := Lib.hid hk
  go_enter Tryd.func22, Tryd.ntmps22
  go_wp2
  go_ret
  exact ⟨rfl, (Below.refl _ _).alloc (Nat.le_refl _) _⟩
set_option maxRecDepth 100000 in
set_option maxHeartbeats 4000000 in
theorem flags_x (P : Pk) (f c : Value) (w : World) (hk : P.kind < 1 ∨ 14 < P.kind) : Calls Tryd.prog 23 #[.agg (P.v f c)] w fun e w' => e = .returned (.int .i64 0) ∧ Below w.heap.size w w' := by
  have K := Lib.hid (Blk.new w 61 (P.v f c))
  have c0 : (w.alloc (.cells (P.v f c) 61)).cell? ⟨w.heap.size, 0, none⟩ = some (.int .i64 P.kind) := by rw [K.out.cell]; rfl
  generalize P.v f c = cs at *
  generalize P.kind = k at *
  have e3 : (k == 3) = false := by rw [beq_eq_false_iff_ne]; omega
  have e6 : (k == 6) = false := by rw [beq_eq_false_iff_ne]; omega
  have e8 : (k == 8) = false := by rw [beq_eq_false_iff_ne]; omega
  have e10 : (k == 10) = false := by rw [beq_eq_false_iff_ne]; omega
  replace hk := Lib.hid hk
  go_enter Tryd.func23, Tryd.ntmps23
  go_wp2
  go_ret
  exact ⟨rfl, (Below.refl _ _).alloc (Nat.le_refl _) _⟩
set_option maxRecDepth 100000 in
set_option maxHeartbeats 8000000 in
theorem put16_kind (P Q : Pk) (f1 c1 : Value) (fl : Int) (w : World) (ht : Hea.Tab3 w)
    (hC : ∀ w, Calls Tryd.prog 14 #[.agg (P.v f1 c1)] w (ClP Q w))
    (hB : ∀ f c w, Calls Tryd.prog 22 #[.agg (Q.v f c)] w fun e w' => e = .returned (.nilFunc) ∧ Below w.heap.size w w')
    (hF : ∀ f c w, Calls Tryd.prog 23 #[.agg (Q.v f c)] w fun e w' => e = .returned (.int .i64 fl) ∧ Below w.heap.size w w') :
    Calls Tryd.prog 13 #[.agg (P.v f1 c1)] w (Pub.Numb [] 11 w) := by
  have NE : ∀ (W : World), (binOp .eql 62 .nilFunc .nilFunc).run Tryd.prog W = .ok (.bool true) W := fun _ => rfl
  have K := Lib.hid (Blk.new w 33 (P.v f1 c1))
  have sz0 : Hid ((Tryd.prog.info? 33).map (·.size) = some (P.v f1 c1).size) := Lib.hid (pk_size _ _ _)
  replace hC := Lib.hid hC
  replace hB := Lib.hid hB
  replace hF := Lib.hid hF
  generalize P.v f1 c1 = xs at *
  go_enter Tryd.func13, Tryd.ntmps13
  go_wp2_with (refine wpList_load_row rfl 33 (.tmp 1) rfl w.heap.size rfl 33 xs (0, 0) _ K.out Tryd.underlying33 rfl sz0.out ?_)
  refine (hC.out _).mono ?_
  rintro e w2 ⟨fs, cs', rfl, ⟨hfs, -⟩, ⟨hcs, -⟩, b2⟩
  have hB' := Lib.hid (hB.out fs cs')
  have hF' := Lib.hid (hF.out fs cs')
  have one : Hid ((Q.v fs cs').all (·.oneCell') = true) := Lib.hid (pk_one _ _ _ (fis_one hfs) (ints_one hcs))
  have sz : Hid ((Tryd.prog.info? 61).map (·.size) = some (Q.v fs cs').size) := Lib.hid (by kernel_rfl)
  have hz : Hid ((#[.int .i64 0, .int .i64 0, .bool false, .string ⟨#[]⟩, .string ⟨#[]⟩, .int .i64 0, .bool false, .int .i64 0, .bool false, .int .i64 0, .string ⟨#[]⟩, .bool false, .string ⟨#[]⟩, .string ⟨#[]⟩, .int .i64 0, .bool false, .bool false, .string ⟨#[]⟩, .bool false, .string ⟨#[]⟩, .bool false, .int .i64 0, .slice none 0 0, .slice none 0 0] : Array Value).size = (Q.v fs cs').size) := Lib.hid rfl
  generalize hcs0 : Q.v fs cs' = cs at *
  have A2 := Lib.hid (heap_alloc_new w2 (.cells #[.int .i64 0, .int .i64 0, .bool false, .string ⟨#[]⟩, .string ⟨#[]⟩, .int .i64 0, .bool false, .int .i64 0, .bool false, .int .i64 0, .string ⟨#[]⟩, .bool false, .string ⟨#[]⟩, .string ⟨#[]⟩, .int .i64 0, .bool false, .bool false, .string ⟨#[]⟩, .bool false, .string ⟨#[]⟩, .bool false, .int .i64 0, .slice none 0 0, .slice none 0 0] 61))
  have A3 := Lib.hid (World.setRow_alloc_new w2 #[.int .i64 0, .int .i64 0, .bool false, .string ⟨#[]⟩, .string ⟨#[]⟩, .int .i64 0, .bool false, .int .i64 0, .bool false, .int .i64 0, .string ⟨#[]⟩, .bool false, .string ⟨#[]⟩, .string ⟨#[]⟩, .int .i64 0, .bool false, .bool false, .string ⟨#[]⟩, .bool false, .string ⟨#[]⟩, .bool false, .int .i64 0, .slice none 0 0, .slice none 0 0] cs 61)
  have R4 := Lib.hid (Blk.new w2 61 cs)
  clear hB hF hC
  replace hcs0 := Lib.hid hcs0
  go_wp2_with (refine wpList_store_row rfl 61 (.tmp 4) (.tmp 11) rfl w2.heap.size cs rfl rfl 61 #[.int .i64 0, .int .i64 0, .bool false, .string ⟨#[]⟩, .string ⟨#[]⟩, .int .i64 0, .bool false, .int .i64 0, .bool false, .int .i64 0, .string ⟨#[]⟩, .bool false, .string ⟨#[]⟩, .string ⟨#[]⟩, .int .i64 0, .bool false, .bool false, .string ⟨#[]⟩, .bool false, .string ⟨#[]⟩, .bool false, .int .i64 0, .slice none 0 0, .slice none 0 0] A2.out sz.out hz.out one.out ?_; rw [A3.out])
  have KS : Hid (∀ W, Below (w2.alloc (.cells cs 61)).heap.size (w2.alloc (.cells cs 61)) W → W.rangeAt w2.heap.size 0 cs.toList) := Lib.hid fun W hW j u hj => by
    have := (R4.out.ext hW).cell j
    rw [Nat.zero_add, this]
    simpa using hj
  have B4 := Lib.hid (((Below.refl _ w).alloc (Nat.le_refl _) (.cells xs 33)).trans (b2.mono (by simp)))
  have hT4 := Lib.hid ((ht.keep B4.out).keep ((Below.refl _ w2).alloc (Nat.le_refl _) (.cells cs 61)))
  have B5 := Lib.hid (B4.out.trans (((Below.refl _ w2).alloc (Nat.le_refl _) (.cells cs 61)).mono B4.out.size))
  have bq := ((Below.refl _ w2).alloc (Nat.le_refl _) (.cells cs 61))
  have F4 := Lib.hid (And.intro (hfs.keep bq (Nat.le_refl _)) (hcs.keep bq (Nat.le_refl _)))
  clear ht b2 hfs hcs A2 A3 B4 bq
  generalize w2.alloc (.cells cs 61) = W4 at *
  generalize w2.heap.size = bt at *
  refine wp_region_held_drew (S := fun W => W.rangeAt bt 0 cs.toList) (by kernel_rfl) (KS.out _ (ext_drew _)) (fun hHeld => ?_)
  refine wpAnyH_take (i := 0) (oi := _) (v := .agg cs) rfl (by kernel_rfl) (by kernel_rfl) (by kernel_rfl) (fun _ _ _ h => h) (yieldsIf_load_mid (by rfl) 61 _ rfl bt 0 (by rfl) cs.toList _ (fun w hSw => hSw) Tryd.underlying61 rfl sz.out) (by assumption) ?zr0
  try simp only [Act.put, List.setIfInBounds_toArray, List.set_cons_zero, List.set_cons_succ]
  refine wpAnyH_take (i := 2) (oi := _) (v := .agg cs) rfl (by kernel_rfl) (by kernel_rfl) (by kernel_rfl) (fun _ _ _ h => h) (yieldsIf_load_mid (by rfl) 61 _ rfl bt 0 (by rfl) cs.toList _ (fun w hSw => hSw) Tryd.underlying61 rfl sz.out) (by assumption) ?zr2
  try simp only [Act.put, List.setIfInBounds_toArray, List.set_cons_zero, List.set_cons_succ]
  refine wpAnyH_ready (rs := [1]) (by kernel_rfl) (by simp) ?_
  refine AllReadyH.cons (o := _) rfl (fun K hK => ?_) AllReadyH.nil
  go_simp
  refine (hB'.out _).mono ?_
  rintro e w5 ⟨rfl, b5⟩
  go_wp2_with fail
  refine hK _ _ (KS.out _ (ext_trans (ext_drew _) b5)) (fun hHeld2 => ?_)
  have HB5 := Lib.hid (ext_trans (ext_drew _) b5)
  clear hK K b5
  try simp only [Act.put, List.setIfInBounds_toArray, List.set_cons_zero, List.set_cons_succ]
  refine wpAnyH_ready (rs := [3]) (by kernel_rfl) (by simp) ?_
  refine AllReadyH.cons (o := _) rfl (fun K hK => ?_) AllReadyH.nil
  go_simp
  refine (hF'.out _).mono ?_
  rintro e w6 ⟨rfl, b6⟩
  go_wp2_with fail
  refine hK _ _ (KS.out _ (ext_trans HB5.out b6)) (fun hHeld3 => ?_)
  have HB6 := Lib.hid (ext_trans HB5.out b6)
  clear hK K b6
  try simp only [Act.put, List.setIfInBounds_toArray, List.set_cons_zero, List.set_cons_succ]
  refine wpAnyH_take (i := 4) (oi := _) (v := ?zv4) rfl (by kernel_rfl) (by kernel_rfl) (by kernel_rfl) (fun _ _ _ h => h) (Or.inl ⟨by rfl, ?zy4⟩) (by assumption) ?zr4
  case zy4 => (intro w hSw; go_simp <;> with_reducible rfl)
  try simp only [Act.put, List.setIfInBounds_toArray, List.set_cons_zero, List.set_cons_succ]
  refine wpAnyH_take (i := 5) (oi := _) (v := ?zv5) rfl (by kernel_rfl) (by kernel_rfl) (by kernel_rfl) (fun _ _ _ h => h) (Or.inl ⟨by rfl, ?zy5⟩) (by assumption) ?zr5
  case zy5 => (intro w hSw; go_simp <;> with_reducible rfl)
  try simp only [Act.put, List.setIfInBounds_toArray, List.set_cons_zero, List.set_cons_succ]
  refine wpAnyH_done (by kernel_rfl) ?_ _
  clear hHeld hHeld2 hHeld3
  go_wp2_with fail
  have B7 := Lib.hid (B5.out.trans (HB6.out.mono B5.out.size))
  refine bodyPost_ret (v := .tuple #[.slice none 0 0, .int .i64 11]) (by simp [results, Tryd.results13, go_sem]) rfl ⟨_, rfl, bytes_nil _, B7.out⟩
set_option maxRecDepth 100000 in
set_option maxHeartbeats 8000000 in
theorem put16_flags (P Q : Pk) (f1 c1 : Value) (fl : Int) (w : World) (ht : Hea.Tab3 w)
    (hC : ∀ w, Calls Tryd.prog 14 #[.agg (P.v f1 c1)] w (ClP Q w))
    (hB : ∀ f c w, Calls Tryd.prog 22 #[.agg (Q.v f c)] w fun e w' => e = .returned (.func (.func 47) #[.agg (Q.v f c)] #[]) ∧ Below w.heap.size w w')
    (hF : ∀ f c w, Calls Tryd.prog 23 #[.agg (Q.v f c)] w fun e w' => e = .returned (.int .i64 fl) ∧ Below w.heap.size w w') (h0 : fl < 0) :
    Calls Tryd.prog 13 #[.agg (P.v f1 c1)] w (Pub.Numb [] 10 w) := by
  have NE : ∀ (cs : Array Value) (W : World), (binOp .eql 62 (.func (.func 47) #[.agg cs] #[]) .nilFunc).run Tryd.prog W = .ok (.bool false) W := fun _ _ => rfl
  have FL : decide (fl < 0) = true := by simpa using h0
  replace h0 := Lib.hid h0
  have K := Lib.hid (Blk.new w 33 (P.v f1 c1))
  have sz0 : Hid ((Tryd.prog.info? 33).map (·.size) = some (P.v f1 c1).size) := Lib.hid (pk_size _ _ _)
  replace hC := Lib.hid hC
  replace hB := Lib.hid hB
  replace hF := Lib.hid hF
  generalize P.v f1 c1 = xs at *
  go_enter Tryd.func13, Tryd.ntmps13
  go_wp2_with (refine wpList_load_row rfl 33 (.tmp 1) rfl w.heap.size rfl 33 xs (0, 0) _ K.out Tryd.underlying33 rfl sz0.out ?_)
  refine (hC.out _).mono ?_
  rintro e w2 ⟨fs, cs', rfl, ⟨hfs, -⟩, ⟨hcs, -⟩, b2⟩
  have hB' := Lib.hid (hB.out fs cs')
  have hF' := Lib.hid (hF.out fs cs')
  have one : Hid ((Q.v fs cs').all (·.oneCell') = true) := Lib.hid (pk_one _ _ _ (fis_one hfs) (ints_one hcs))
  have sz : Hid ((Tryd.prog.info? 61).map (·.size) = some (Q.v fs cs').size) := Lib.hid (by kernel_rfl)
  have hz : Hid ((#[.int .i64 0, .int .i64 0, .bool false, .string ⟨#[]⟩, .string ⟨#[]⟩, .int .i64 0, .bool false, .int .i64 0, .bool false, .int .i64 0, .string ⟨#[]⟩, .bool false, .string ⟨#[]⟩, .string ⟨#[]⟩, .int .i64 0, .bool false, .bool false, .string ⟨#[]⟩, .bool false, .string ⟨#[]⟩, .bool false, .int .i64 0, .slice none 0 0, .slice none 0 0] : Array Value).size = (Q.v fs cs').size) := Lib.hid rfl
  generalize hcs0 : Q.v fs cs' = cs at *
  have A2 := Lib.hid (heap_alloc_new w2 (.cells #[.int .i64 0, .int .i64 0, .bool false, .string ⟨#[]⟩, .string ⟨#[]⟩, .int .i64 0, .bool false, .int .i64 0, .bool false, .int .i64 0, .string ⟨#[]⟩, .bool false, .string ⟨#[]⟩, .string ⟨#[]⟩, .int .i64 0, .bool false, .bool false, .string ⟨#[]⟩, .bool false, .string ⟨#[]⟩, .bool false, .int .i64 0, .slice none 0 0, .slice none 0 0] 61))
  have A3 := Lib.hid (World.setRow_alloc_new w2 #[.int .i64 0, .int .i64 0, .bool false, .string ⟨#[]⟩, .string ⟨#[]⟩, .int .i64 0, .bool false, .int .i64 0, .bool false, .int .i64 0, .string ⟨#[]⟩, .bool false, .string ⟨#[]⟩, .string ⟨#[]⟩, .int .i64 0, .bool false, .bool false, .string ⟨#[]⟩, .bool false, .string ⟨#[]⟩, .bool false, .int .i64 0, .slice none 0 0, .slice none 0 0] cs 61)
  have R4 := Lib.hid (Blk.new w2 61 cs)
  clear hB hF hC
  replace hcs0 := Lib.hid hcs0
  go_wp2_with (refine wpList_store_row rfl 61 (.tmp 4) (.tmp 11) rfl w2.heap.size cs rfl rfl 61 #[.int .i64 0, .int .i64 0, .bool false, .string ⟨#[]⟩, .string ⟨#[]⟩, .int .i64 0, .bool false, .int .i64 0, .bool false, .int .i64 0, .string ⟨#[]⟩, .bool false, .string ⟨#[]⟩, .string ⟨#[]⟩, .int .i64 0, .bool false, .bool false, .string ⟨#[]⟩, .bool false, .string ⟨#[]⟩, .bool false, .int .i64 0, .slice none 0 0, .slice none 0 0] A2.out sz.out hz.out one.out ?_; rw [A3.out])
  have KS : Hid (∀ W, Below (w2.alloc (.cells cs 61)).heap.size (w2.alloc (.cells cs 61)) W → W.rangeAt w2.heap.size 0 cs.toList) := Lib.hid fun W hW j u hj => by
    have := (R4.out.ext hW).cell j
    rw [Nat.zero_add, this]
    simpa using hj
  have B4 := Lib.hid (((Below.refl _ w).alloc (Nat.le_refl _) (.cells xs 33)).trans (b2.mono (by simp)))
  have hT4 := Lib.hid ((ht.keep B4.out).keep ((Below.refl _ w2).alloc (Nat.le_refl _) (.cells cs 61)))
  have B5 := Lib.hid (B4.out.trans (((Below.refl _ w2).alloc (Nat.le_refl _) (.cells cs 61)).mono B4.out.size))
  have bq := ((Below.refl _ w2).alloc (Nat.le_refl _) (.cells cs 61))
  have F4 := Lib.hid (And.intro (hfs.keep bq (Nat.le_refl _)) (hcs.keep bq (Nat.le_refl _)))
  clear ht b2 hfs hcs A2 A3 B4 bq
  generalize w2.alloc (.cells cs 61) = W4 at *
  generalize w2.heap.size = bt at *
  refine wp_region_held_drew (S := fun W => W.rangeAt bt 0 cs.toList) (by kernel_rfl) (KS.out _ (ext_drew _)) (fun hHeld => ?_)
  refine wpAnyH_take (i := 0) (oi := _) (v := .agg cs) rfl (by kernel_rfl) (by kernel_rfl) (by kernel_rfl) (fun _ _ _ h => h) (yieldsIf_load_mid (by rfl) 61 _ rfl bt 0 (by rfl) cs.toList _ (fun w hSw => hSw) Tryd.underlying61 rfl sz.out) (by assumption) ?zr0
  try simp only [Act.put, List.setIfInBounds_toArray, List.set_cons_zero, List.set_cons_succ]
  refine wpAnyH_take (i := 2) (oi := _) (v := .agg cs) rfl (by kernel_rfl) (by kernel_rfl) (by kernel_rfl) (fun _ _ _ h => h) (yieldsIf_load_mid (by rfl) 61 _ rfl bt 0 (by rfl) cs.toList _ (fun w hSw => hSw) Tryd.underlying61 rfl sz.out) (by assumption) ?zr2
  try simp only [Act.put, List.setIfInBounds_toArray, List.set_cons_zero, List.set_cons_succ]
  refine wpAnyH_ready (rs := [1]) (by kernel_rfl) (by simp) ?_
  refine AllReadyH.cons (o := _) rfl (fun K hK => ?_) AllReadyH.nil
  go_simp
  refine (hB'.out _).mono ?_
  rintro e w5 ⟨rfl, b5⟩
  go_wp2_with fail
  refine hK _ _ (KS.out _ (ext_trans (ext_drew _) b5)) (fun hHeld2 => ?_)
  have HB5 := Lib.hid (ext_trans (ext_drew _) b5)
  clear hK K b5
  try simp only [Act.put, List.setIfInBounds_toArray, List.set_cons_zero, List.set_cons_succ]
  refine wpAnyH_ready (rs := [3]) (by kernel_rfl) (by simp) ?_
  refine AllReadyH.cons (o := _) rfl (fun K hK => ?_) AllReadyH.nil
  go_simp
  refine (hF'.out _).mono ?_
  rintro e w6 ⟨rfl, b6⟩
  go_wp2_with fail
  refine hK _ _ (KS.out _ (ext_trans HB5.out b6)) (fun hHeld3 => ?_)
  have HB6 := Lib.hid (ext_trans HB5.out b6)
  clear hK K b6
  try simp only [Act.put, List.setIfInBounds_toArray, List.set_cons_zero, List.set_cons_succ]
  refine wpAnyH_take (i := 4) (oi := _) (v := ?zv4) rfl (by kernel_rfl) (by kernel_rfl) (by kernel_rfl) (fun _ _ _ h => h) (Or.inl ⟨by rfl, ?zy4⟩) (by assumption) ?zr4
  case zy4 => (intro w hSw; go_simp <;> with_reducible rfl)
  try simp only [Act.put, List.setIfInBounds_toArray, List.set_cons_zero, List.set_cons_succ]
  refine wpAnyH_take (i := 5) (oi := _) (v := ?zv5) rfl (by kernel_rfl) (by kernel_rfl) (by kernel_rfl) (fun _ _ _ h => h) (Or.inl ⟨by rfl, ?zy5⟩) (by assumption) ?zr5
  case zy5 => (intro w hSw; go_simp <;> with_reducible rfl)
  try simp only [Act.put, List.setIfInBounds_toArray, List.set_cons_zero, List.set_cons_succ]
  refine wpAnyH_done (by kernel_rfl) ?_ _
  clear hHeld hHeld2 hHeld3
  go_wp2_with fail
  have B7 := Lib.hid (B5.out.trans (HB6.out.mono B5.out.size))
  refine bodyPost_ret (v := .tuple #[.slice none 0 0, .int .i64 10]) (by simp [results, Tryd.results13, go_sem]) rfl ⟨_, rfl, bytes_nil _, B7.out⟩
end Go.Proofs.YtmpklaokgogigaaDoor.Pac
