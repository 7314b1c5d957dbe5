/-
  PacketSame: FOR EVERY INPUT the law returns true and leaves its arguments as they were; the package's tables are laid (a card).
-/
import Derived.Test.YtmpklaokgogigaaDoorNd
import Derived.Test.YtmpklaokgogigaaDoorLj
import Derived.Test.YtmpklaokgogigaaDoorLi
import Derived.Test.YtmpklaokgogigaaDoorNo
import Derived.Test.YtmpklaokgogigaaDoorTb
import Derived.Test.YtmpklaokgogigaaDoorCards
import Derived.Test.YtmpklaokgogigaaDoorTie
import Derived.WalkKit
import Derived.ProofKit
import Derived.OpenShut
import Derived.ChangeOld
import Derived.Below
import Derived.SizedLaws
import Derived.Lib.SmallJoins
import Derived.Deep.DeepHandedRow
import Derived.Lib.LaidTab
namespace Go.Proofs.YtmpklaokgogigaaDoor.packetSame
set_option linter.unusedSimpArgs false
open Go.ChangeShapes Go.WideShapes Go.ChangeAt Go.RowKit
open Go.ChangeMaps (open_string shut_string)
set_option linter.unusedVariables false

theorem own : ownKnob Tryd.prog.godebug = none := by kernel_rfl
theorem laidOut : laidOutB Tryd.prog = true := by kernel_rfl

theorem Pac.cln_fl (P : Pac.Pk) : (Pac.cln P).fl.length ≤ P.fl.length ∧ (Pac.cln P).cl.length ≤ P.cl.length := by
  unfold Pac.cln
  repeat' split
  all_goals simp [Pac.pkC, Pac.pkA, Pac.pkM, Pac.pkI, Pac.pkF, Pac.pkS, Pac.pk0]
set_option maxHeartbeats 16000000 in
set_option maxRecDepth 100000 in
theorem walk (P : Pac.Pk) (f1 c1 : Value) (Q : Pac.Pk) (f2 c2 : Value) (w : World) (ht : Tabs w) (hf1 : FisAt w f1 P.fl) (hc1 : IntsAt w c1 P.cl) (bf1 : P.fl.length * 24 ≤ 140737488351232) (bc1 : P.cl.length * 8 ≤ 140737488351232)
    (hf2 : FisAt w f2 Q.fl) (hc2 : IntsAt w c2 Q.cl) (bf2 : Q.fl.length * 24 ≤ 140737488351232) (bc2 : Q.cl.length * 8 ≤ 140737488351232) :
    Calls Tryd.prog 6 #[.agg (P.v f1 c1), .agg (Q.v f2 c2)] w (Pac.YesW w) := by
  have SAB := Lib.hid (fun W (hW : Below w.heap.size w W) => Pac.same_p P Q f1 c1 f2 c2 W (hf1.keep hW (Nat.le_refl _)) (hc1.keep hW (Nat.le_refl _)) (hf2.keep hW (Nat.le_refl _)) (hc2.keep hW (Nat.le_refl _)))
  have DAB := Lib.hid (fun W (hW : Below w.heap.size w W) => Pac.same_d P Q f1 c1 f2 c2 W (hf1.keep hW (Nat.le_refl _)) (hc1.keep hW (Nat.le_refl _)) (hf2.keep hW (Nat.le_refl _)) (hc2.keep hW (Nat.le_refl _)))
  have SBA := Lib.hid (fun W (hW : Below w.heap.size w W) => Pac.same_p Q P f2 c2 f1 c1 W (hf2.keep hW (Nat.le_refl _)) (hc2.keep hW (Nat.le_refl _)) (hf1.keep hW (Nat.le_refl _)) (hc1.keep hW (Nat.le_refl _)))
  have SAA := Lib.hid (fun W (hW : Below w.heap.size w W) => Pac.same_p P P f1 c1 f1 c1 W (hf1.keep hW (Nat.le_refl _)) (hc1.keep hW (Nat.le_refl _)) (hf1.keep hW (Nat.le_refl _)) (hc1.keep hW (Nat.le_refl _)))
  have CA := Lib.hid (fun W (hW : Below w.heap.size w W) => Pac.clean_any P f1 c1 W (hf1.keep hW (Nat.le_refl _)) (hc1.keep hW (Nat.le_refl _)) (by omega) (by omega))
  have CL := Pac.cln_fl P
  have CC := Lib.hid (fun f c W (hf : FisAt W f (Pac.cln P).fl) (hc : IntsAt W c (Pac.cln P).cl) => (Pac.cln_twice P) ▸ Pac.clean_any (Pac.cln P) f c W hf hc (by omega) (by omega))
  have SZ := Lib.hid (fun f c f' c' W (hf : FisAt W f (Pac.cln P).fl) (hc : IntsAt W c (Pac.cln P).cl) (hf' : FisAt W f' (Pac.cln P).fl) (hc' : IntsAt W c' (Pac.cln P).cl) => Pac.same_p (Pac.cln P) (Pac.cln P) f c f' c' W hf hc hf' hc')
  have sz1 : Hid ((Tryd.prog.info? 33).map (·.size) = some (P.v f1 c1).toList.length) := Lib.hid (by kernel_rfl)
  have sz2 : Hid ((Tryd.prog.info? 33).map (·.size) = some (Q.v f2 c2).toList.length) := Lib.hid (by kernel_rfl)
  have HT := Lib.hid ht
  clear hf1 hc1 bf1 bc1 hf2 hc2 bf2 bc2 CL ht
  generalize P.v f1 c1 = csA at *
  generalize Q.v f2 c2 = csB at *
  have K1 := Lib.hid ((Blk.new w 33 csA).alloc (.cells csB 33))
  have K2' := Blk.new (w.alloc (.cells csA 33)) 33 csB
  have K2 : Hid (Blk ((w.alloc (.cells csA 33)).alloc (.cells csB 33)) (w.heap.size + 1) 33 csB) := Lib.hid (by simpa using K2')
  have BA := Lib.hid (((Below.refl _ w).alloc (Nat.le_refl _) (.cells csA 33)).alloc (by simp) (.cells csB 33))
  clear K2'
  have zA : ((w.alloc (.cells csA 33)).alloc (.cells csB 33)).heap.size = w.heap.size + 1 + 1 := by simp
  go_enter Tryd.func6, Tryd.ntmps6
  go_wp2_with fail
  have KS : Hid (∀ W, Below (w.heap.size + 1 + 1) ((w.alloc (.cells csA 33)).alloc (.cells csB 33)) W → W.rangeAt w.heap.size 0 csA.toList ∧ W.rangeAt (w.heap.size + 1) 0 csB.toList) := Lib.hid fun W hW => by
    refine ⟨fun j u hj => ?_, fun j u hj => ?_⟩
    · have := (K1.out.below hW (by omega)).cell j
      rw [Nat.zero_add, this]; simpa using hj
    · have := (K2.out.below hW (by omega)).cell j
      rw [Nat.zero_add, this]; simpa using hj
  have BW : Hid (∀ W, Below (w.heap.size + 1 + 1) ((w.alloc (.cells csA 33)).alloc (.cells csB 33)) W → Below w.heap.size w W) := Lib.hid fun W hW => BA.out.trans (hW.mono (by omega))
  have B0 : Hid (Below (w.heap.size + 1 + 1) ((w.alloc (.cells csA 33)).alloc (.cells csB 33)) ((w.alloc (.cells csA 33)).alloc (.cells csB 33)).drew) := Lib.hid (by rw [← zA]; exact ext_drew _)
  replace zA := Lib.hid zA
  clear BA K1 K2
  refine wp_region_held_drew (S := fun W => W.rangeAt w.heap.size 0 csA.toList ∧ W.rangeAt (w.heap.size + 1) 0 csB.toList) (by kernel_rfl) (KS.out _ B0.out) (fun hHeld => ?_)
  refine wpAnyH_take (i := 0) (oi := _) (v := .agg csA) rfl (by kernel_rfl) (by kernel_rfl) (by kernel_rfl) (fun _ _ _ h => h) (yieldsIf_load_mid (by rfl) 33 _ rfl w.heap.size 0 (by rfl) csA.toList _ (fun w hSw => hSw.1) Tryd.underlying33 rfl sz1.out) (by assumption) ?zr0
  try simp only [Act.put, List.setIfInBounds_toArray, List.set_cons_zero, List.set_cons_succ]
  refine wpAnyH_take (i := 1) (oi := _) (v := .agg csB) rfl (by kernel_rfl) (by kernel_rfl) (by kernel_rfl) (fun _ _ _ h => h) (yieldsIf_load_mid (by rfl) 33 _ rfl (w.heap.size + 1) 0 (by rfl) csB.toList _ (fun w hSw => hSw.2) Tryd.underlying33 rfl sz2.out) (by assumption) ?zr1
  try simp only [Act.put, List.setIfInBounds_toArray, List.set_cons_zero, List.set_cons_succ]
  refine wpAnyH_take (i := 3) (oi := _) (v := .agg csA) rfl (by kernel_rfl) (by kernel_rfl) (by kernel_rfl) (fun _ _ _ h => h) (yieldsIf_load_mid (by rfl) 33 _ rfl w.heap.size 0 (by rfl) csA.toList _ (fun w hSw => hSw.1) Tryd.underlying33 rfl sz1.out) (by assumption) ?zr3
  try simp only [Act.put, List.setIfInBounds_toArray, List.set_cons_zero, List.set_cons_succ]
  refine wpAnyH_take (i := 4) (oi := _) (v := .agg csB) rfl (by kernel_rfl) (by kernel_rfl) (by kernel_rfl) (fun _ _ _ h => h) (yieldsIf_load_mid (by rfl) 33 _ rfl (w.heap.size + 1) 0 (by rfl) csB.toList _ (fun w hSw => hSw.2) Tryd.underlying33 rfl sz2.out) (by assumption) ?zr4
  try simp only [Act.put, List.setIfInBounds_toArray, List.set_cons_zero, List.set_cons_succ]
  refine wpAnyH_ready (rs := [2]) (by kernel_rfl) (by simp) ?_
  refine AllReadyH.cons (o := _) rfl (fun K hK => ?_) AllReadyH.nil
  go_simp
  refine (SAB.out _ (BW.out _ B0.out)).mono ?_
  rintro e W1 ⟨v1, rfl, hv1, b1⟩
  go_wp2_with fail
  have B1 := Lib.hid (B0.out.trans (b1.mono (by have hz := B0.out.size; rw [zA.out] at hz; exact hz)))
  have R1 := Lib.hid b1
  refine hK _ _ (KS.out _ B1.out) (fun hHeld1 => ?_)
  clear hK K b1
  try simp only [Act.put, List.setIfInBounds_toArray, List.set_cons_zero, List.set_cons_succ]
  refine wpAnyH_ready (rs := [5]) (by kernel_rfl) (by simp) ?_
  refine AllReadyH.cons (o := _) rfl (fun K hK => ?_) AllReadyH.nil
  go_simp
  refine (DAB.out _ (BW.out _ B1.out)).mono ?_
  rintro e W2 ⟨v2, rfl, hv2, b2⟩
  go_wp2_with fail
  have B2 := Lib.hid (B1.out.trans (b2.mono (by have hz := B1.out.size; rw [zA.out] at hz; exact hz)))
  have R2 := Lib.hid b2
  refine hK _ _ (KS.out _ B2.out) (fun hHeld2 => ?_)
  clear hK K b2
  obtain rfl : v2 = v1 := by
    have h := hv2.trans hv1.symm
    cases v1 <;> cases v2 <;> simp_all
  replace hv1 := Lib.hid hv1
  clear hv2
  try simp only [Act.put, List.setIfInBounds_toArray, List.set_cons_zero, List.set_cons_succ]
  refine wpAnyH_take (i := 6) (oi := _) (v := ?zv6) rfl (by kernel_rfl) (by kernel_rfl) (by kernel_rfl) (fun _ _ _ h => h) (Or.inl ⟨by rfl, ?zy6⟩) (by assumption) ?zr6
  case zy6 => (intro w hSw; go_simp <;> with_reducible rfl)
  try simp only [Act.put, List.setIfInBounds_toArray, List.set_cons_zero, List.set_cons_succ]
  refine wpAnyH_take (i := 7) (oi := _) (v := ?zv7) rfl (by kernel_rfl) (by kernel_rfl) (by kernel_rfl) (fun _ _ _ h => h) (Or.inl ⟨by rfl, ?zy7⟩) (by assumption) ?zr7
  case zy7 => (intro w hSw; go_simp <;> with_reducible rfl)
  try simp only [Act.put, List.setIfInBounds_toArray, List.set_cons_zero, List.set_cons_succ]
  refine wpAnyH_take (i := 8) (oi := _) (v := .agg csB) rfl (by kernel_rfl) (by kernel_rfl) (by kernel_rfl) (fun _ _ _ h => h) (yieldsIf_load_mid (by rfl) 33 _ rfl (w.heap.size + 1) 0 (by rfl) csB.toList _ (fun w hSw => hSw.2) Tryd.underlying33 rfl sz2.out) (by assumption) ?zr8
  try simp only [Act.put, List.setIfInBounds_toArray, List.set_cons_zero, List.set_cons_succ]
  refine wpAnyH_take (i := 9) (oi := _) (v := .agg csA) rfl (by kernel_rfl) (by kernel_rfl) (by kernel_rfl) (fun _ _ _ h => h) (yieldsIf_load_mid (by rfl) 33 _ rfl w.heap.size 0 (by rfl) csA.toList _ (fun w hSw => hSw.1) Tryd.underlying33 rfl sz1.out) (by assumption) ?zr9
  try simp only [Act.put, List.setIfInBounds_toArray, List.set_cons_zero, List.set_cons_succ]
  refine wpAnyH_take (i := 11) (oi := _) (v := .agg csA) rfl (by kernel_rfl) (by kernel_rfl) (by kernel_rfl) (fun _ _ _ h => h) (yieldsIf_load_mid (by rfl) 33 _ rfl w.heap.size 0 (by rfl) csA.toList _ (fun w hSw => hSw.1) Tryd.underlying33 rfl sz1.out) (by assumption) ?zr11
  try simp only [Act.put, List.setIfInBounds_toArray, List.set_cons_zero, List.set_cons_succ]
  refine wpAnyH_take (i := 12) (oi := _) (v := .agg csB) rfl (by kernel_rfl) (by kernel_rfl) (by kernel_rfl) (fun _ _ _ h => h) (yieldsIf_load_mid (by rfl) 33 _ rfl (w.heap.size + 1) 0 (by rfl) csB.toList _ (fun w hSw => hSw.2) Tryd.underlying33 rfl sz2.out) (by assumption) ?zr12
  try simp only [Act.put, List.setIfInBounds_toArray, List.set_cons_zero, List.set_cons_succ]
  refine wpAnyH_ready (rs := [10]) (by kernel_rfl) (by simp) ?_
  refine AllReadyH.cons (o := _) rfl (fun K hK => ?_) AllReadyH.nil
  go_simp
  refine (SBA.out _ (BW.out _ B2.out)).mono ?_
  rintro e W3 ⟨v3, rfl, hv3, b3⟩
  go_wp2_with fail
  have B3 := Lib.hid (B2.out.trans (b3.mono (by have hz := B2.out.size; rw [zA.out] at hz; exact hz)))
  have R3 := Lib.hid b3
  refine hK _ _ (KS.out _ B3.out) (fun hHeld3 => ?_)
  clear hK K b3
  try simp only [Act.put, List.setIfInBounds_toArray, List.set_cons_zero, List.set_cons_succ]
  refine wpAnyH_ready (rs := [13]) (by kernel_rfl) (by simp) ?_
  refine AllReadyH.cons (o := _) rfl (fun K hK => ?_) AllReadyH.nil
  go_simp
  refine (SAB.out _ (BW.out _ B3.out)).mono ?_
  rintro e W4 ⟨v4, rfl, hv4, b4⟩
  go_wp2_with fail
  have B4 := Lib.hid (B3.out.trans (b4.mono (by have hz := B3.out.size; rw [zA.out] at hz; exact hz)))
  have R4 := Lib.hid b4
  refine hK _ _ (KS.out _ B4.out) (fun hHeld4 => ?_)
  clear hK K b4
  obtain rfl : v4 = v3 := by
    have h : v4 = true ↔ v3 = true := hv4.trans (Iff.trans ⟨Eq.symm, Eq.symm⟩ hv3.symm)
    cases v3 <;> cases v4 <;> simp_all
  replace hv3 := Lib.hid hv3
  clear hv4
  try simp only [Act.put, List.setIfInBounds_toArray, List.set_cons_zero, List.set_cons_succ]
  refine wpAnyH_take (i := 14) (oi := _) (v := ?zv14) rfl (by kernel_rfl) (by kernel_rfl) (by kernel_rfl) (fun _ _ _ h => h) (Or.inl ⟨by rfl, ?zy14⟩) (by assumption) ?zr14
  case zy14 => (intro w hSw; go_simp <;> with_reducible rfl)
  try simp only [Act.put, List.setIfInBounds_toArray, List.set_cons_zero, List.set_cons_succ]
  refine wpAnyH_take (i := 15) (oi := _) (v := ?zv15) rfl (by kernel_rfl) (by kernel_rfl) (by kernel_rfl) (fun _ _ _ h => h) (Or.inl ⟨by rfl, ?zy15⟩) (by assumption) ?zr15
  case zy15 => (intro w hSw; go_simp <;> with_reducible rfl)
  try simp only [Act.put, List.setIfInBounds_toArray, List.set_cons_zero, List.set_cons_succ]
  refine wpAnyH_take (i := 16) (oi := _) (v := ?zv16) rfl (by kernel_rfl) (by kernel_rfl) (by kernel_rfl) (fun _ _ _ h => h) (Or.inl ⟨by rfl, ?zy16⟩) (by assumption) ?zr16
  case zy16 => (intro w hSw; go_simp <;> with_reducible rfl)
  try simp only [Act.put, List.setIfInBounds_toArray, List.set_cons_zero, List.set_cons_succ]
  refine wpAnyH_take (i := 17) (oi := _) (v := .agg csA) rfl (by kernel_rfl) (by kernel_rfl) (by kernel_rfl) (fun _ _ _ h => h) (yieldsIf_load_mid (by rfl) 33 _ rfl w.heap.size 0 (by rfl) csA.toList _ (fun w hSw => hSw.1) Tryd.underlying33 rfl sz1.out) (by assumption) ?zr17
  try simp only [Act.put, List.setIfInBounds_toArray, List.set_cons_zero, List.set_cons_succ]
  refine wpAnyH_take (i := 18) (oi := _) (v := .agg csA) rfl (by kernel_rfl) (by kernel_rfl) (by kernel_rfl) (fun _ _ _ h => h) (yieldsIf_load_mid (by rfl) 33 _ rfl w.heap.size 0 (by rfl) csA.toList _ (fun w hSw => hSw.1) Tryd.underlying33 rfl sz1.out) (by assumption) ?zr18
  try simp only [Act.put, List.setIfInBounds_toArray, List.set_cons_zero, List.set_cons_succ]
  refine wpAnyH_ready (rs := [19]) (by kernel_rfl) (by simp) ?_
  refine AllReadyH.cons (o := _) rfl (fun K hK => ?_) AllReadyH.nil
  go_simp
  refine (SAA.out _ (BW.out _ B4.out)).mono ?_
  rintro e W5 ⟨v5, rfl, hv5, b5⟩
  go_wp2_with fail
  have B5 := Lib.hid (B4.out.trans (b5.mono (by have hz := B4.out.size; rw [zA.out] at hz; exact hz)))
  have R5 := Lib.hid b5
  refine hK _ _ (KS.out _ B5.out) (fun hHeld5 => ?_)
  clear hK K b5
  obtain rfl : v5 = true := by simpa using hv5
  clear hv5
  try simp only [Act.put, List.setIfInBounds_toArray, List.set_cons_zero, List.set_cons_succ]
  refine wpAnyH_take (i := 20) (oi := _) (v := ?zv20) rfl (by kernel_rfl) (by kernel_rfl) (by kernel_rfl) (fun _ _ _ h => h) (Or.inl ⟨by rfl, ?zy20⟩) (by assumption) ?zr20
  case zy20 => (intro w hSw; go_simp <;> with_reducible rfl)
  try simp only [Act.put, List.setIfInBounds_toArray, List.set_cons_zero, List.set_cons_succ]
  refine wpAnyH_take (i := 21) (oi := _) (v := ?zv21) rfl (by kernel_rfl) (by kernel_rfl) (by kernel_rfl) (fun _ _ _ h => h) (Or.inl ⟨by rfl, ?zy21⟩) (by assumption) ?zr21
  case zy21 => (intro w hSw; go_simp <;> with_reducible rfl)
  try simp only [Act.put, List.setIfInBounds_toArray, List.set_cons_zero, List.set_cons_succ]
  refine wpAnyH_take (i := 22) (oi := _) (v := .agg csA) rfl (by kernel_rfl) (by kernel_rfl) (by kernel_rfl) (fun _ _ _ h => h) (yieldsIf_load_mid (by rfl) 33 _ rfl w.heap.size 0 (by rfl) csA.toList _ (fun w hSw => hSw.1) Tryd.underlying33 rfl sz1.out) (by assumption) ?zr22
  try simp only [Act.put, List.setIfInBounds_toArray, List.set_cons_zero, List.set_cons_succ]
  refine wpAnyH_take (i := 25) (oi := _) (v := .agg csA) rfl (by kernel_rfl) (by kernel_rfl) (by kernel_rfl) (fun _ _ _ h => h) (yieldsIf_load_mid (by rfl) 33 _ rfl w.heap.size 0 (by rfl) csA.toList _ (fun w hSw => hSw.1) Tryd.underlying33 rfl sz1.out) (by assumption) ?zr25
  try simp only [Act.put, List.setIfInBounds_toArray, List.set_cons_zero, List.set_cons_succ]
  refine wpAnyH_ready (rs := [23]) (by kernel_rfl) (by simp) ?_
  refine AllReadyH.cons (o := _) rfl (fun K hK => ?_) AllReadyH.nil
  go_simp
  refine (CA.out _ (BW.out _ B5.out)).mono ?_
  rintro e W6 ⟨fa, ca, rfl, hfa, hca, b6⟩
  go_wp2_with fail
  have B6 := Lib.hid (B5.out.trans (b6.mono (by have hz := B5.out.size; rw [zA.out] at hz; exact hz)))
  have R6 := Lib.hid b6
  refine hK _ _ (KS.out _ B6.out) (fun hHeld6 => ?_)
  clear hK K b6
  try simp only [Act.put, List.setIfInBounds_toArray, List.set_cons_zero, List.set_cons_succ]
  refine wpAnyH_ready (rs := [24]) (by kernel_rfl) (by simp) ?_
  refine AllReadyH.cons (o := _) rfl (fun K hK => ?_) AllReadyH.nil
  go_simp
  refine (CC.out fa ca _ hfa hca).mono ?_
  rintro e W7 ⟨fb, cb, rfl, hfb, hcb, b7⟩
  go_wp2_with fail
  have B7 := Lib.hid (B6.out.trans (b7.mono (by have hz := B6.out.size; rw [zA.out] at hz; exact hz)))
  have R7 := Lib.hid b7
  refine hK _ _ (KS.out _ B7.out) (fun hHeld7 => ?_)
  clear hK K b7
  try simp only [Act.put, List.setIfInBounds_toArray, List.set_cons_zero, List.set_cons_succ]
  refine wpAnyH_ready (rs := [26]) (by kernel_rfl) (by simp) ?_
  refine AllReadyH.cons (o := _) rfl (fun K hK => ?_) AllReadyH.nil
  go_simp
  refine (CA.out _ (BW.out _ B7.out)).mono ?_
  rintro e W8 ⟨fc, cc, rfl, hfc, hcc, b8⟩
  go_wp2_with fail
  have B8 := Lib.hid (B7.out.trans (b8.mono (by have hz := B7.out.size; rw [zA.out] at hz; exact hz)))
  have R8 := Lib.hid b8
  refine hK _ _ (KS.out _ B8.out) (fun hHeld8 => ?_)
  clear hK K b8
  try simp only [Act.put, List.setIfInBounds_toArray, List.set_cons_zero, List.set_cons_succ]
  refine wpAnyH_ready (rs := [27]) (by kernel_rfl) (by simp) ?_
  refine AllReadyH.cons (o := _) rfl (fun K hK => ?_) AllReadyH.nil
  go_simp
  refine (SZ.out fb cb fc cc _ (hfb.keep R8.out (Nat.le_refl _)) (hcb.keep R8.out (Nat.le_refl _)) hfc hcc).mono ?_
  rintro e W9 ⟨v6, rfl, hv6, b9⟩
  go_wp2_with fail
  have B9 := Lib.hid (B8.out.trans (b9.mono (by have hz := B8.out.size; rw [zA.out] at hz; exact hz)))
  have R9 := Lib.hid b9
  refine hK _ _ (KS.out _ B9.out) (fun hHeld9 => ?_)
  clear hK K b9
  obtain rfl : v6 = true := by simpa using hv6
  clear hv6
  try simp only [Act.put, List.setIfInBounds_toArray, List.set_cons_zero, List.set_cons_succ]
  refine wpAnyH_take (i := 28) (oi := _) (v := ?zv28) rfl (by kernel_rfl) (by kernel_rfl) (by kernel_rfl) (fun _ _ _ h => h) (Or.inl ⟨by rfl, ?zy28⟩) (by assumption) ?zr28
  case zy28 => (intro w hSw; go_simp <;> with_reducible rfl)
  try simp only [Act.put, List.setIfInBounds_toArray, List.set_cons_zero, List.set_cons_succ]
  refine wpAnyH_take (i := 29) (oi := _) (v := ?zv29) rfl (by kernel_rfl) (by kernel_rfl) (by kernel_rfl) (fun _ _ _ h => h) (Or.inl ⟨by rfl, ?zy29⟩) (by assumption) ?zr29
  case zy29 => (intro w hSw; go_simp <;> with_reducible rfl)
  try simp only [Act.put, List.setIfInBounds_toArray, List.set_cons_zero, List.set_cons_succ]
  refine wpAnyH_ready (rs := [30]) (by kernel_rfl) (by simp) ?_
  refine AllReadyH.cons (o := _) rfl (fun K hK => ?_) AllReadyH.nil
  go_simp
  refine (Pac.awake16_any _ (HT.out.keep (BW.out _ B9.out))).mono ?_
  rintro e W10 ⟨rfl, b10⟩
  go_wp2_with fail
  have B10 := Lib.hid (B9.out.trans (b10.mono (by have hz := B9.out.size; rw [zA.out] at hz; exact hz)))
  have R10 := Lib.hid b10
  refine hK _ _ (KS.out _ B10.out) (fun hHeld10 => ?_)
  clear hK K b10
  try simp only [Act.put, List.setIfInBounds_toArray, List.set_cons_zero, List.set_cons_succ]
  refine wpAnyH_take (i := 31) (oi := _) (v := ?zv31) rfl (by kernel_rfl) (by kernel_rfl) (by kernel_rfl) (fun _ _ _ h => h) (Or.inl ⟨by rfl, ?zy31⟩) (by assumption) ?zr31
  case zy31 => (intro w hSw; go_simp <;> with_reducible rfl)
  try simp only [Act.put, List.setIfInBounds_toArray, List.set_cons_zero, List.set_cons_succ]
  refine wpAnyH_take (i := 32) (oi := _) (v := ?zv32) rfl (by kernel_rfl) (by kernel_rfl) (by kernel_rfl) (fun _ _ _ h => h) (Or.inl ⟨by rfl, ?zy32⟩) (by assumption) ?zr32
  case zy32 => (intro w hSw; go_simp <;> with_reducible rfl)
  try simp only [Act.put, List.setIfInBounds_toArray, List.set_cons_zero, List.set_cons_succ]
  refine wpAnyH_done (by kernel_rfl) ?_ _
  have BZ := Lib.hid (BW.out _ B10.out)
  clear KS SAB DAB SBA SAA CA CC SZ
  go_wp2_with fail
  rename_i d1 q1 x2 d2 q2
  have e1 : d1 = 4 := Option.some.inj (q1.symm.trans (by kernel_rfl))
  have e2 : d2 = 36 := Option.some.inj (q2.symm.trans (by kernel_rfl))
  clear q1 q2
  subst e1 e2
  go_ret
  exact ⟨rfl, BZ.out⟩

set_option maxRecDepth 100000 in
theorem contract (F : Stop.Interp) (H : Type) (enc : TypeId × Value → H) (W : World) (base : Nat) (args : Array Value) (ds gs : List (DataW H)) (before : List MemPlace)
    (hval : ∀ (j : Nat) t v, Tryd.f6.params[j]? = some t → args[j]? = some v → Value.okWide Tryd.prog W .any base t v)
    (hW : DataW.Whole enc Tryd.prog Tryd.f6.params.toList Rows.packetSameSpec.vars false W args.toList ds gs before)
    
    (hsz : (DataW.weightsEach Tryd.prog (Tryd.f6.params.toList ++ (OpenSpec.ofChange Rows.packetSameSpec).bare.plain.varTypes Tryd.prog) (ds ++ gs)).all (· ≤ reachBytes) = true) (hL : laidMetH Tryd.prog Rows.packetSameRow.laid W) :
    Calls Tryd.prog 6 args W fun e W' => ∃ v, e = .returned v ∧ ((OpenSpec.ofChange Rows.packetSameSpec).at F).post enc Tryd.prog Tryd.f6 false true false false W args v W' := by
  have hW' := hW
  obtain ⟨p, q, hA0, hV, rfl, hfz, hnd⟩ := hW
  have hA : DataW.TrodAll enc Tryd.prog W 0 (fun _ => true) true Tryd.f6.params.toList args.toList ds p := hA0
  rw [Tryd.params6] at hA hval hsz
  obtain ⟨v0, vs0, d0, ds0, p0, q0, hargs, rfl, rfl, h0, r0⟩ := trodAll_cons hA
  obtain ⟨v1, vs1, d1, ds1, p1, q1, rfl, rfl, rfl, h1, r1⟩ := trodAll_cons r0
  obtain ⟨rfl, rfl, rfl⟩ := trodAll_nil r1
  obtain rfl : args = #[v0, v1] := by cases args; simp_all
  obtain ⟨rfl, rfl⟩ := trodVars_none hV
  have k0 := h0
  have lt0 : ∀ x ∈ p0, x.block < W.heap.size := by obtain ⟨m, hm⟩ := k0; exact DataW.trod_lt m _ _ _ hm
  have k1 := h1
  have lt1 : ∀ x ∈ p1, x.block < W.heap.size := by obtain ⟨m, hm⟩ := k1; exact DataW.trod_lt m _ _ _ hm
  obtain ⟨cs0, rfl, sz0⟩ := okWide_struct Tryd.underlying33 (hval 0 33 _ rfl rfl)
  obtain ⟨fu0, hf0⟩ := h0
  obtain ⟨P0, ff0, cc0, qq0, w0, x0, y0, z0⟩ := Pac.open_pk hf0 (fun n hn => by
    have hm := List.all_eq_true.1 hsz n (DataW.weights_mem_each (j := 0) (t := 33) rfl rfl _ hn)
    simpa [reachBytes] using of_decide_eq_true hm)
  obtain rfl : cs0 = P0.v ff0 cc0 := by
    have := congrArg List.toArray qq0
    simpa [Value.cells] using this
  obtain ⟨cs1, rfl, sz1⟩ := okWide_struct Tryd.underlying33 (hval 1 33 _ rfl rfl)
  obtain ⟨fu1, hf1⟩ := h1
  obtain ⟨P1, ff1, cc1, qq1, w1, x1, y1, z1⟩ := Pac.open_pk hf1 (fun n hn => by
    have hm := List.all_eq_true.1 hsz n (DataW.weights_mem_each (j := 1) (t := 33) rfl rfl _ hn)
    simpa [reachBytes] using of_decide_eq_true hm)
  obtain rfl : cs1 = P1.v ff1 cc1 := by
    have := congrArg List.toArray qq1
    simpa [Value.cells] using this
  clear hA0
  refine (walk P0 ff0 cc0 P1 ff1 cc1 W (tabs_of hL) w0 x0 y0 z0 w1 x1 y1 z1).mono fun e W' ⟨he, bel⟩ => ?_
  subst he
  exact ⟨_, rfl, _, _, _, [], _, [], hW', trodAll_mk1 (shut_bool Tryd.underlying4 _), (trodAll_cons_mk (Below.trod laidOut (by kernel_rfl) (of_decide_eq_true (by kernel_rfl)) k0 bel lt0) (trodAll_cons_mk (Below.trod laidOut (by kernel_rfl) (of_decide_eq_true (by kernel_rfl)) k1 bel lt1) trodAll_mk0)), rfl, bel.frame _, fun h => by cases h⟩

/-- A world for the witness: the settled one, the tables holding what their initialisers lay. -/
noncomputable def laidWorld (os : Os) : World :=
  { World.holding Tryd.prog os ⟨#[], #[], []⟩ with heap := ((World.holding Tryd.prog os ⟨#[], #[], []⟩).heap.modify 0 (fun
      | .cells _ t frozen => .cells #[.int .u16 1, .int .u16 4, .int .u16 15423] t frozen
      | o => o)) }
theorem laid_met (os : Os) : laidMet Tryd.prog Rows.packetSameRow.laid ((laidWorld os).forCall (fun _ _ => 0) ⟨#[], #[.agg #[.int .i64 0, .int .i64 0, .bool false, .string ByteArray.empty, .string ByteArray.empty, .int .i64 0, .bool false, .int .i64 0, .bool false, .int .i64 0, .string ByteArray.empty, .bool false, .string ByteArray.empty, .string ByteArray.empty, .int .i64 0, .bool false, .bool false, .string ByteArray.empty, .bool false, .string ByteArray.empty, .bool false, .int .i64 0, .slice none 0 0, .slice none 0 0], .agg #[.int .i64 0, .int .i64 0, .bool false, .string ByteArray.empty, .string ByteArray.empty, .int .i64 0, .bool false, .int .i64 0, .bool false, .int .i64 0, .string ByteArray.empty, .bool false, .string ByteArray.empty, .string ByteArray.empty, .int .i64 0, .bool false, .bool false, .string ByteArray.empty, .bool false, .string ByteArray.empty, .bool false, .int .i64 0, .slice none 0 0, .slice none 0 0]], []⟩).memory :=
  laidMet_of_run' 8 (by kernel_rfl) (by kernel_rfl)
theorem reads (os : Os) {H : Type} (enc : TypeId × Value → H) : ∃ places, DataW.whole enc Tryd.prog ((laidWorld os).forCall (fun _ _ => 0) ⟨#[], #[.agg #[.int .i64 0, .int .i64 0, .bool false, .string ByteArray.empty, .string ByteArray.empty, .int .i64 0, .bool false, .int .i64 0, .bool false, .int .i64 0, .string ByteArray.empty, .bool false, .string ByteArray.empty, .string ByteArray.empty, .int .i64 0, .bool false, .bool false, .string ByteArray.empty, .bool false, .string ByteArray.empty, .bool false, .int .i64 0, .slice none 0 0, .slice none 0 0], .agg #[.int .i64 0, .int .i64 0, .bool false, .string ByteArray.empty, .string ByteArray.empty, .int .i64 0, .bool false, .int .i64 0, .bool false, .int .i64 0, .string ByteArray.empty, .bool false, .string ByteArray.empty, .string ByteArray.empty, .int .i64 0, .bool false, .bool false, .string ByteArray.empty, .bool false, .string ByteArray.empty, .bool false, .int .i64 0, .slice none 0 0, .slice none 0 0]], []⟩).memory Tryd.f6.params.toList Rows.packetSameSpec.vars false #[Value.agg #[.int .i64 0, .int .i64 0, .bool false, .string ByteArray.empty, .string ByteArray.empty, .int .i64 0, .bool false, .int .i64 0, .bool false, .int .i64 0, .string ByteArray.empty, .bool false, .string ByteArray.empty, .string ByteArray.empty, .int .i64 0, .bool false, .bool false, .string ByteArray.empty, .bool false, .string ByteArray.empty, .bool false, .int .i64 0, .slice none 0 0, .slice none 0 0], .agg #[.int .i64 0, .int .i64 0, .bool false, .string ByteArray.empty, .string ByteArray.empty, .int .i64 0, .bool false, .int .i64 0, .bool false, .int .i64 0, .string ByteArray.empty, .bool false, .string ByteArray.empty, .string ByteArray.empty, .int .i64 0, .bool false, .bool false, .string ByteArray.empty, .bool false, .string ByteArray.empty, .bool false, .int .i64 0, .slice none 0 0, .slice none 0 0]].toList 8 = some ([.agg [.lit (.int .i64 0), .lit (.int .i64 0), .lit (.bool false), .agg [.lit (.string []), .lit (.string []), .lit (.int .i64 0), .lit (.bool false)], .agg [.lit (.int .i64 0), .lit (.bool false), .lit (.int .i64 0), .lit (.string []), .lit (.bool false), .agg [.lit (.string []), .lit (.string []), .lit (.int .i64 0), .lit (.bool false)], .lit (.bool false), .lit (.string []), .lit (.bool false), .lit (.string [])], .lit (.bool false), .lit (.int .i64 0), .nil, .nil], .agg [.lit (.int .i64 0), .lit (.int .i64 0), .lit (.bool false), .agg [.lit (.string []), .lit (.string []), .lit (.int .i64 0), .lit (.bool false)], .agg [.lit (.int .i64 0), .lit (.bool false), .lit (.int .i64 0), .lit (.string []), .lit (.bool false), .agg [.lit (.string []), .lit (.string []), .lit (.int .i64 0), .lit (.bool false)], .lit (.bool false), .lit (.string []), .lit (.bool false), .lit (.string [])], .lit (.bool false), .lit (.int .i64 0), .nil, .nil]], [], places) :=
  ⟨[], by kernel_rfl⟩

set_option maxRecDepth 100000 in
theorem lifted (os : Os) (started : os.Started) (H : Type) (enc : TypeId × Value → H) (F : Stop.Interp) :
    ReturnsInHanded {} Tryd.checked os 6 .any ((OpenSpec.ofChange Rows.packetSameSpec).preRow enc Tryd.prog Tryd.f6 Rows.packetSameRow.domain false Rows.packetSameRow.laid) (((OpenSpec.ofChange Rows.packetSameSpec).at F).post enc Tryd.prog Tryd.f6 false true false false) := by
  obtain ⟨places, hx⟩ := reads os enc
  refine returnsInHanded_of_row (C := Tryd.checked) (s := (OpenSpec.ofChange Rows.packetSameSpec)) own started (by kernel_rfl) Tryd.func6
    (witness_row_at (enc := enc) (C := Tryd.checked) false (laidWorld os) #[.agg #[.int .i64 0, .int .i64 0, .bool false, .string ByteArray.empty, .string ByteArray.empty, .int .i64 0, .bool false, .int .i64 0, .bool false, .int .i64 0, .string ByteArray.empty, .bool false, .string ByteArray.empty, .string ByteArray.empty, .int .i64 0, .bool false, .bool false, .string ByteArray.empty, .bool false, .string ByteArray.empty, .bool false, .int .i64 0, .slice none 0 0, .slice none 0 0], .agg #[.int .i64 0, .int .i64 0, .bool false, .string ByteArray.empty, .string ByteArray.empty, .int .i64 0, .bool false, .int .i64 0, .bool false, .int .i64 0, .string ByteArray.empty, .bool false, .string ByteArray.empty, .string ByteArray.empty, .int .i64 0, .bool false, .bool false, .string ByteArray.empty, .bool false, .string ByteArray.empty, .bool false, .int .i64 0, .slice none 0 0, .slice none 0 0]] rfl (by kernel_rfl) (by kernel_rfl) (by kernel_rfl)
      (OpenSpec.preRow_of_cond 8 hx (by kernel_rfl) (fun k hk => by cases hk) (by kernel_rfl) (laid_met os))) ?_
  intro W base args ds gs before hval hW _ hcnd hsz hL _ _
  exact contract F H enc W base args ds gs before hval hW  hsz hL

theorem said : Rows.PacketSameSaid :=
  OpenClaim.holds_of_cond 6 Tryd.f6 rfl rfl rfl rfl rfl rfl rfl ⟨rfl, rfl, rfl, rfl, rfl⟩ rfl rfl rfl rfl rfl (by kernel_rfl) Tryd.func6 (by kernel_rfl)
    (of_decide_eq_true (by kernel_rfl)) (by unfold Func.isWrapper; first | (rw [if_pos (by decide +kernel)]; kernel_rfl) | (rw [if_neg (by decide +kernel)]; exact ⟨rfl, rfl⟩))
    (fun os started H enc _ F => by rw [OpenClaim.pre_eq_preRow]; exact lifted os started H enc F)

theorem plain (f : FuncId) (fn : Func) (hf : Tryd.pinned.checked.prog.funcNamed "crier/crierlaw16.PacketSame" = some f) (hfn : Tryd.pinned.checked.prog.funcs[f]? = some fn) :
    false = Tryd.pinned.checked.prog.looks [] ∧ ∀ (j : Nat) t, fn.params[j]? = some t → Tryd.pinned.checked.prog.wantsStandIn t = false := by
  obtain rfl : f = 6 := Option.some.inj ((show Tryd.prog.funcNamed "crier/crierlaw16.PacketSame" = some 6 by kernel_rfl).symm.trans hf) |>.symm
  obtain rfl : fn = Tryd.f6 := (Option.some.inj (Tryd.func6.symm.trans hfn)).symm
  refine ⟨by kernel_rfl, fun j t ht => ?_⟩
  rw [Tryd.params6] at ht
  obtain rfl : t = 33 := by have := Array.mem_of_getElem? ht; simpa using this
  exact (show Tryd.prog.wantsStandIn 33 = false by kernel_rfl)

/-- THE CARD. -/
theorem proved : Rows.PacketSameCardSaid :=
  Claim7.holds_tied_plain_at .later [] _ _ _ _ said (fun _ h => by cases h) (by kernel_rfl) (fun _ h => by cases h) packetSame_row_tie rfl ⟨rfl, rfl⟩ (by kernel_rfl) rfl plain (by kernel_rfl)
end Go.Proofs.YtmpklaokgogigaaDoor.packetSame
