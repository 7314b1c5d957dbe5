/-
  ItemsBorn: FOR EVERY INPUT the law returns true and leaves its arguments as they were; the package's tables are laid (a card).
-/
import Derived.Test.YtihblangceblhaaDoorTb
import Derived.Test.YtihblangceblhaaDoorCards
import Derived.Test.YtihblangceblhaaDoorTie
import Derived.WalkKit
import Derived.ProofKit
import Derived.OpenShut
import Derived.ChangeOld
import Derived.Below
import Derived.SizedLaws
import Derived.Lib.SmallJoins
import Derived.Deep.DeepHandedRow
import Derived.Lib.LaidTab
namespace Go.Proofs.YtihblangceblhaaDoor.itemsBorn
set_option linter.unusedSimpArgs false
open Go.ChangeShapes Go.WideShapes Go.ChangeAt Go.RowKit
open Go.ChangeMaps (open_string shut_string)
set_option linter.unusedVariables false

theorem own : ownKnob Tryd.prog.godebug = none := by kernel_rfl
theorem laidOut : laidOutB Tryd.prog = true := by kernel_rfl

theorem eq_it (x : It) (W : World) : (binOp .eql 37 (.agg x.v) (.agg x.v)).run Tryd.prog W = .ok (.bool true) W := by
  unfold It.v
  go_simp
set_option maxHeartbeats 16000000 in
set_option maxRecDepth 100000 in
theorem walk (a0 : Option Addr) (len0 cap0 : Nat) (l : List Mt) (f1 : Mt) (nm : ByteArray) (w : World) (ht : Tabs w) (h0 : MtsAt w (.slice a0 len0 cap0) l) (ok0 : ∀ f ∈ l, f.ok) (ok1 : f1.ok) (s2 : nm.size ≤ 140737488351232) : Calls Tryd.prog 3 #[.slice a0 len0 cap0, .agg f1.v, .string nm] w (YesW w) := by
  have A0 := Lib.hid (ext_alloc w (.cells f1.v 32))
  have PB := Lib.hid (fun W (hW : Below w.heap.size w W) => pborn_any _ l W (ht.keep hW) (h0.keep hW (Nat.le_refl _)) ok0)
  have RB := Lib.hid (fun W (hW : Below w.heap.size w W) => rborn_any _ l W (h0.keep hW (Nat.le_refl _)) ok0)
  have OA := Lib.hid (fun W => of_any f1 W)
  have OR := Lib.hid (fun W => rof_any f1 W)
  have HT := Lib.hid ht
  have KM := Lib.hid (Blk.new w 32 f1.v)
  have sz1 : Hid ((Tryd.prog.info? 32).map (·.size) = some f1.v.toList.length) := Lib.hid (by kernel_rfl)
  unfold OfP at OA OR
  generalize bornR l = R at *
  obtain ⟨L, n⟩ := R
  have hNI := fun W => eq_it (itm f1) W
  generalize (itm f1).v = iv at *
  generalize f1.v = mv at *
  clear ht h0 ok0 ok1 s2
  go_enter Tryd.func3, Tryd.ntmps3
  go_wp2_with fail
  refine (PB.out _ A0.out).mono ?_
  rintro e w1 ⟨v1, rfl, h1, b1⟩
  have Q1 := Lib.hid (A0.out.trans (b1.mono A0.out.size))
  have KM1 := Lib.hid (KM.out.ext b1)
  have F1 := Lib.hid (fun W (hW : Below w1.heap.size w1 W) => pfind_any v1 L nm W (h1.keep hW (Nat.le_refl _)))
  have H1 := Lib.hid h1
  obtain ⟨a1, c1, rfl, -, -⟩ := h1
  clear b1 PB KM A0
  go_wp2_with fail
  refine (RB.out _ Q1.out).mono ?_
  rintro e w2 ⟨v2, rfl, h2, b2⟩
  have Q2 := Lib.hid (Q1.out.trans (b2.mono Q1.out.size))
  have KM2 := Lib.hid (KM1.out.ext b2)
  have F1' := Lib.hid (F1.out w2 b2)
  have F2 := Lib.hid (fun W (hW : Below w2.heap.size w2 W) => rfind_any v2 L nm W (h2.keep hW (Nat.le_refl _)))
  have SM := Lib.hid (fun W (hW : Below w2.heap.size w2 W) => rsame_eq _ v2 L W (H1.out.keep (b2.trans (hW.mono b2.size)) (Nat.le_refl _)) (h2.keep hW (Nat.le_refl _)))
  obtain ⟨a2, c2, rfl, -, -⟩ := h2
  unfold FindP at F1' F2
  generalize fnd L nm = y at *
  generalize (plc L nm).isSome = bb at *
  obtain ⟨y0, y1, y2, y3, y4, y5, y6, y7⟩ := y
  unfold It.v at F1' F2
  clear b2 RB KM1 F1 Q1
  go_wp2_with fail
  refine (F1'.out).mono ?_
  rintro e w3 ⟨rfl, b3⟩
  have A3 := Lib.hid (ext_alloc w3 (.cells #[.string y0, .bool y1, .int .u64 y2, .int .u32 y3, .bool y4, .int .i64 y5, .int .u64 y6, .string y7] 37))
  have E3 := Lib.hid (b3.trans (A3.out.mono b3.size))
  have KM3 := Lib.hid (KM2.out.ext E3.out)
  have KX := Lib.hid (Blk.new w3 37 #[.string y0, .bool y1, .int .u64 y2, .int .u32 y3, .bool y4, .int .i64 y5, .int .u64 y6, .string y7])
  clear b3 F1'
  go_wp2_with fail
  refine (F2.out _ E3.out).mono ?_
  rintro e w4 ⟨rfl, b4⟩
  have A4 := Lib.hid (ext_alloc w4 (.cells #[.string y0, .bool y1, .int .u64 y2, .int .u32 y3, .bool y4, .int .i64 y5, .int .u64 y6, .string y7] 37))
  have KX4 := Lib.hid ((KX.out.ext b4).alloc (.cells #[.string y0, .bool y1, .int .u64 y2, .int .u32 y3, .bool y4, .int .i64 y5, .int .u64 y6, .string y7] 37))
  have KM4 := Lib.hid ((KM3.out.ext b4).alloc (.cells #[.string y0, .bool y1, .int .u64 y2, .int .u32 y3, .bool y4, .int .i64 y5, .int .u64 y6, .string y7] 37))
  have KY4 := Lib.hid (Blk.new w4 37 #[.string y0, .bool y1, .int .u64 y2, .int .u32 y3, .bool y4, .int .i64 y5, .int .u64 y6, .string y7])
  have E4 := Lib.hid ((E3.out.trans (b4.mono E3.out.size)).trans (A4.out.mono (Nat.le_trans E3.out.size b4.size)))
  have Q4 := Lib.hid (Q2.out.trans (E4.out.mono Q2.out.size))
  clear b4 F2 KX KM3 KM2 A3 E3
  go_wp2_with fail
  generalize hW4 : w4.alloc (.cells #[.string y0, .bool y1, .int .u64 y2, .int .u32 y3, .bool y4, .int .i64 y5, .int .u64 y6, .string y7] 37) = W0 at *
  clear hW4 A4
  generalize w4.heap.size = g4 at *
  generalize w3.heap.size = g3 at *
  generalize hiv : (#[.string y0, .bool y1, .int .u64 y2, .int .u32 y3, .bool y4, .int .i64 y5, .int .u64 y6, .string y7] : Array Value) = cy at *
  have sy : Hid ((Tryd.prog.info? 37).map (·.size) = some cy.toList.length) := Lib.hid (by rw [← hiv]; kernel_rfl)
  have KS : Hid (∀ W, Below W0.heap.size W0 W → W.rangeAt g3 0 cy.toList ∧ W.rangeAt g4 0 cy.toList ∧ W.rangeAt w.heap.size 0 mv.toList) := Lib.hid fun W hW => by
    refine ⟨fun j u hj => ?_, fun j u hj => ?_, fun j u hj => ?_⟩
    · have := (KX4.out.ext hW).cell j
      rw [Nat.zero_add, this]; simpa using hj
    · have := (KY4.out.ext hW).cell j
      rw [Nat.zero_add, this]; simpa using hj
    · have := (KM4.out.ext hW).cell j
      rw [Nat.zero_add, this]; simpa using hj
  have B0 := Lib.hid (ext_drew W0)
  have SM' : Hid (∀ W, Below W0.heap.size W0 W → Calls Tryd.prog 11 #[.slice a1 L.length c1, .slice a2 L.length c2] W (YesW W)) := Lib.hid fun W hW => SM.out W (E4.out.trans (hW.mono E4.out.size))
  have TW : Hid (∀ W, Below W0.heap.size W0 W → Tabs W) := Lib.hid fun W hW => HT.out.keep (Q4.out.trans (hW.mono Q4.out.size))
  have NI : ∀ W : World, (binOp .eql 37 (.agg iv) (.agg iv)).run Tryd.prog W = .ok (.bool true) W := hNI
  have NY : ∀ W : World, (binOp .eql 37 (.agg cy) (.agg cy)).run Tryd.prog W = .ok (.bool true) W := by rw [← hiv]; exact fun W => eq_it ⟨y0, y1, y2, y3, y4, y5, y6, y7⟩ W
  clear hiv SM
  refine wp_region_held_drew (S := fun W => W.rangeAt g3 0 cy.toList ∧ W.rangeAt g4 0 cy.toList ∧ W.rangeAt w.heap.size 0 mv.toList) (by kernel_rfl) (KS.out _ B0.out) (fun hHeld => ?_)
  refine wpAnyH_take (i := 0) (oi := _) (v := ?zv0) rfl (by kernel_rfl) (by kernel_rfl) (by kernel_rfl) (fun _ _ _ h => h) (Or.inl ⟨by rfl, ?zy0⟩) (by assumption) ?zr0
  case zy0 => (intro w hSw; go_simp <;> with_reducible rfl)
  try simp only [Act.put, List.getElem_toArray, List.getElem_cons_zero, List.getElem_cons_succ, List.setIfInBounds_toArray, List.set_cons_zero, List.set_cons_succ]
  refine wpAnyH_take (i := 1) (oi := _) (v := ?zv1) rfl (by kernel_rfl) (by kernel_rfl) (by kernel_rfl) (fun _ _ _ h => h) (Or.inl ⟨by rfl, ?zy1⟩) (by assumption) ?zr1
  case zy1 => (intro w hSw; go_simp <;> with_reducible rfl)
  try simp only [Act.put, List.getElem_toArray, List.getElem_cons_zero, List.getElem_cons_succ, List.setIfInBounds_toArray, List.set_cons_zero, List.set_cons_succ]
  refine wpAnyH_ready (rs := [2]) (by kernel_rfl) (by simp) ?_
  refine AllReadyH.cons (o := _) rfl (fun K hK => ?_) AllReadyH.nil
  go_simp
  refine (SM'.out _ B0.out).mono ?_
  rintro e W1 ⟨rfl, b1⟩
  go_wp2_with fail
  have B1 := Lib.hid (ext_trans B0.out b1)
  refine hK _ _ (KS.out _ B1.out) (fun hHeld1 => ?_)
  clear hK K b1
  try simp only [Act.put, List.getElem_toArray, List.getElem_cons_zero, List.getElem_cons_succ, List.setIfInBounds_toArray, List.set_cons_zero, List.set_cons_succ]
  refine wpAnyH_take (i := 3) (oi := _) (v := ?zv3) rfl (by kernel_rfl) (by kernel_rfl) (by kernel_rfl) (fun _ _ _ h => h) (Or.inl ⟨by rfl, ?zy3⟩) (by assumption) ?zr3
  case zy3 => (intro w hSw; go_simp <;> with_reducible rfl)
  try simp only [Act.put, List.getElem_toArray, List.getElem_cons_zero, List.getElem_cons_succ, List.setIfInBounds_toArray, List.set_cons_zero, List.set_cons_succ]
  refine wpAnyH_take (i := 4) (oi := _) (v := ?zv4) rfl (by kernel_rfl) (by kernel_rfl) (by kernel_rfl) (fun _ _ _ h => h) (Or.inl ⟨by rfl, ?zy4⟩) (by assumption) ?zr4
  case zy4 => (intro w hSw; go_simp <;> with_reducible rfl)
  try simp only [Act.put, List.getElem_toArray, List.getElem_cons_zero, List.getElem_cons_succ, List.setIfInBounds_toArray, List.set_cons_zero, List.set_cons_succ]
  refine wpAnyH_take (i := 5) (oi := _) (v := ?zv5) rfl (by kernel_rfl) (by kernel_rfl) (by kernel_rfl) (fun _ _ _ h => h) (Or.inl ⟨by rfl, ?zy5⟩) (by assumption) ?zr5
  case zy5 => (intro w hSw; go_simp <;> with_reducible rfl)
  try simp only [Act.put, List.getElem_toArray, List.getElem_cons_zero, List.getElem_cons_succ, List.setIfInBounds_toArray, List.set_cons_zero, List.set_cons_succ]
  refine wpAnyH_take (i := 6) (oi := _) (v := ?zv6) rfl (by kernel_rfl) (by kernel_rfl) (by kernel_rfl) (fun _ _ _ h => h) (Or.inl ⟨by rfl, ?zy6⟩) (by assumption) ?zr6
  case zy6 => (intro w hSw; go_simp <;> with_reducible rfl)
  try simp only [Act.put, List.getElem_toArray, List.getElem_cons_zero, List.getElem_cons_succ, List.setIfInBounds_toArray, List.set_cons_zero, List.set_cons_succ]
  refine wpAnyH_take (i := 7) (oi := _) (v := ?zv7) rfl (by kernel_rfl) (by kernel_rfl) (by kernel_rfl) (fun _ _ _ h => h) (Or.inl ⟨by rfl, ?zy7⟩) (by assumption) ?zr7
  case zy7 => (intro w hSw; go_simp <;> with_reducible rfl)
  try simp only [Act.put, List.getElem_toArray, List.getElem_cons_zero, List.getElem_cons_succ, List.setIfInBounds_toArray, List.set_cons_zero, List.set_cons_succ]
  refine wpAnyH_take (i := 8) (oi := _) (v := ?zv8) rfl (by kernel_rfl) (by kernel_rfl) (by kernel_rfl) (fun _ _ _ h => h) (Or.inl ⟨by rfl, ?zy8⟩) (by assumption) ?zr8
  case zy8 => (intro w hSw; go_simp <;> with_reducible rfl)
  try simp only [Act.put, List.getElem_toArray, List.getElem_cons_zero, List.getElem_cons_succ, List.setIfInBounds_toArray, List.set_cons_zero, List.set_cons_succ]
  refine wpAnyH_take (i := 9) (oi := _) (v := .agg cy) rfl (by kernel_rfl) (by kernel_rfl) (by kernel_rfl) (fun _ _ _ h => h) (yieldsIf_load_mid (by rfl) 37 _ rfl g3 0 (by rfl) (cy : Array Value).toList _ (fun w hSw => hSw.1) Tryd.underlying37 rfl sy.out) (by assumption) ?zr9
  try simp only [Act.put, List.getElem_toArray, List.getElem_cons_zero, List.getElem_cons_succ, List.setIfInBounds_toArray, List.set_cons_zero, List.set_cons_succ]
  refine wpAnyH_take (i := 10) (oi := _) (v := .agg cy) rfl (by kernel_rfl) (by kernel_rfl) (by kernel_rfl) (fun _ _ _ h => h) (yieldsIf_load_mid (by rfl) 37 _ rfl g4 0 (by rfl) (cy : Array Value).toList _ (fun w hSw => hSw.2.1) Tryd.underlying37 rfl sy.out) (by assumption) ?zr10
  try simp only [Act.put, List.getElem_toArray, List.getElem_cons_zero, List.getElem_cons_succ, List.setIfInBounds_toArray, List.set_cons_zero, List.set_cons_succ]
  refine wpAnyH_take (i := 11) (oi := _) (v := ?zv11) rfl (by kernel_rfl) (by kernel_rfl) (by kernel_rfl) (fun _ _ _ h => h) (Or.inl ⟨by rfl, ?zy11⟩) (by assumption) ?zr11
  case zy11 => (intro w hSw; go_simp <;> with_reducible rfl)
  try simp only [Act.put, List.getElem_toArray, List.getElem_cons_zero, List.getElem_cons_succ, List.setIfInBounds_toArray, List.set_cons_zero, List.set_cons_succ]
  refine wpAnyH_take (i := 12) (oi := _) (v := ?zv12) rfl (by kernel_rfl) (by kernel_rfl) (by kernel_rfl) (fun _ _ _ h => h) (Or.inl ⟨by rfl, ?zy12⟩) (by assumption) ?zr12
  case zy12 => (intro w hSw; go_simp <;> with_reducible rfl)
  try simp only [Act.put, List.getElem_toArray, List.getElem_cons_zero, List.getElem_cons_succ, List.setIfInBounds_toArray, List.set_cons_zero, List.set_cons_succ]
  refine wpAnyH_take (i := 13) (oi := _) (v := ?zv13) rfl (by kernel_rfl) (by kernel_rfl) (by kernel_rfl) (fun _ _ _ h => h) (Or.inl ⟨by rfl, ?zy13⟩) (by assumption) ?zr13
  case zy13 => (intro w hSw; go_simp <;> with_reducible rfl)
  try simp only [Act.put, List.getElem_toArray, List.getElem_cons_zero, List.getElem_cons_succ, List.setIfInBounds_toArray, List.set_cons_zero, List.set_cons_succ]
  refine wpAnyH_take (i := 14) (oi := _) (v := ?zv14) rfl (by kernel_rfl) (by kernel_rfl) (by kernel_rfl) (fun _ _ _ h => h) (Or.inl ⟨by rfl, ?zy14⟩) (by assumption) ?zr14
  case zy14 => (intro w hSw; go_simp <;> with_reducible rfl)
  try simp only [Act.put, List.getElem_toArray, List.getElem_cons_zero, List.getElem_cons_succ, List.setIfInBounds_toArray, List.set_cons_zero, List.set_cons_succ]
  refine wpAnyH_take (i := 15) (oi := _) (v := ?zv15) rfl (by kernel_rfl) (by kernel_rfl) (by kernel_rfl) (fun _ _ _ h => h) (Or.inl ⟨by rfl, ?zy15⟩) (by assumption) ?zr15
  case zy15 => (intro w hSw; go_simp <;> with_reducible rfl)
  try simp only [Act.put, List.getElem_toArray, List.getElem_cons_zero, List.getElem_cons_succ, List.setIfInBounds_toArray, List.set_cons_zero, List.set_cons_succ]
  refine wpAnyH_take (i := 16) (oi := _) (v := ?zv16) rfl (by kernel_rfl) (by kernel_rfl) (by kernel_rfl) (fun _ _ _ h => h) (Or.inl ⟨by rfl, ?zy16⟩) (by assumption) ?zr16
  case zy16 => (intro w hSw; go_simp <;> with_reducible rfl)
  try simp only [Act.put, List.getElem_toArray, List.getElem_cons_zero, List.getElem_cons_succ, List.setIfInBounds_toArray, List.set_cons_zero, List.set_cons_succ]
  refine wpAnyH_take (i := 17) (oi := _) (v := ?zv17) rfl (by kernel_rfl) (by kernel_rfl) (by kernel_rfl) (fun _ _ _ h => h) (Or.inl ⟨by rfl, ?zy17⟩) (by assumption) ?zr17
  case zy17 => (intro w hSw; go_simp <;> with_reducible rfl)
  try simp only [Act.put, List.getElem_toArray, List.getElem_cons_zero, List.getElem_cons_succ, List.setIfInBounds_toArray, List.set_cons_zero, List.set_cons_succ]
  refine wpAnyH_take (i := 18) (oi := _) (v := ?zv18) rfl (by kernel_rfl) (by kernel_rfl) (by kernel_rfl) (fun _ _ _ h => h) (Or.inl ⟨by rfl, ?zy18⟩) (by assumption) ?zr18
  case zy18 => (intro w hSw; go_simp <;> with_reducible rfl)
  try simp only [Act.put, List.getElem_toArray, List.getElem_cons_zero, List.getElem_cons_succ, List.setIfInBounds_toArray, List.set_cons_zero, List.set_cons_succ]
  refine wpAnyH_take (i := 19) (oi := _) (v := .agg mv) rfl (by kernel_rfl) (by kernel_rfl) (by kernel_rfl) (fun _ _ _ h => h) (yieldsIf_load_mid (by rfl) 32 _ rfl w.heap.size 0 (by rfl) (mv : Array Value).toList _ (fun w hSw => hSw.2.2) Tryd.underlying32 rfl sz1.out) (by assumption) ?zr19
  try simp only [Act.put, List.getElem_toArray, List.getElem_cons_zero, List.getElem_cons_succ, List.setIfInBounds_toArray, List.set_cons_zero, List.set_cons_succ]
  refine wpAnyH_take (i := 21) (oi := _) (v := .agg mv) rfl (by kernel_rfl) (by kernel_rfl) (by kernel_rfl) (fun _ _ _ h => h) (yieldsIf_load_mid (by rfl) 32 _ rfl w.heap.size 0 (by rfl) (mv : Array Value).toList _ (fun w hSw => hSw.2.2) Tryd.underlying32 rfl sz1.out) (by assumption) ?zr21
  try simp only [Act.put, List.getElem_toArray, List.getElem_cons_zero, List.getElem_cons_succ, List.setIfInBounds_toArray, List.set_cons_zero, List.set_cons_succ]
  refine wpAnyH_ready (rs := [20]) (by kernel_rfl) (by simp) ?_
  refine AllReadyH.cons (o := _) rfl (fun K hK => ?_) AllReadyH.nil
  go_simp
  refine (OA.out _).mono ?_
  rintro e W2 ⟨rfl, b2⟩
  go_wp2_with fail
  have B2 := Lib.hid (ext_trans B1.out b2)
  refine hK _ _ (KS.out _ B2.out) (fun hHeld2 => ?_)
  clear hK K b2
  try simp only [Act.put, List.getElem_toArray, List.getElem_cons_zero, List.getElem_cons_succ, List.setIfInBounds_toArray, List.set_cons_zero, List.set_cons_succ]
  refine wpAnyH_ready (rs := [22]) (by kernel_rfl) (by simp) ?_
  refine AllReadyH.cons (o := _) rfl (fun K hK => ?_) AllReadyH.nil
  go_simp
  refine (OR.out _).mono ?_
  rintro e W3 ⟨rfl, b3⟩
  go_wp2_with fail
  have B3 := Lib.hid (ext_trans B2.out b3)
  refine hK _ _ (KS.out _ B3.out) (fun hHeld3 => ?_)
  clear hK K b3
  try simp only [Act.put, List.getElem_toArray, List.getElem_cons_zero, List.getElem_cons_succ, List.setIfInBounds_toArray, List.set_cons_zero, List.set_cons_succ]
  refine wpAnyH_take (i := 23) (oi := _) (v := ?zv23) rfl (by kernel_rfl) (by kernel_rfl) (by kernel_rfl) (fun _ _ _ h => h) (Or.inl ⟨by rfl, ?zy23⟩) (by assumption) ?zr23
  case zy23 => (intro w hSw; go_simp <;> with_reducible rfl)
  try simp only [Act.put, List.getElem_toArray, List.getElem_cons_zero, List.getElem_cons_succ, List.setIfInBounds_toArray, List.set_cons_zero, List.set_cons_succ]
  refine wpAnyH_take (i := 24) (oi := _) (v := ?zv24) rfl (by kernel_rfl) (by kernel_rfl) (by kernel_rfl) (fun _ _ _ h => h) (Or.inl ⟨by rfl, ?zy24⟩) (by assumption) ?zr24
  case zy24 => (intro w hSw; go_simp <;> with_reducible rfl)
  try simp only [Act.put, List.getElem_toArray, List.getElem_cons_zero, List.getElem_cons_succ, List.setIfInBounds_toArray, List.set_cons_zero, List.set_cons_succ]
  refine wpAnyH_take (i := 25) (oi := _) (v := ?zv25) rfl (by kernel_rfl) (by kernel_rfl) (by kernel_rfl) (fun _ _ _ h => h) (Or.inl ⟨by rfl, ?zy25⟩) (by assumption) ?zr25
  case zy25 => (intro w hSw; go_simp <;> with_reducible rfl)
  try simp only [Act.put, List.getElem_toArray, List.getElem_cons_zero, List.getElem_cons_succ, List.setIfInBounds_toArray, List.set_cons_zero, List.set_cons_succ]
  refine wpAnyH_ready (rs := [26]) (by kernel_rfl) (by simp) ?_
  refine AllReadyH.cons (o := _) rfl (fun K hK => ?_) AllReadyH.nil
  go_simp
  refine (awake31 _ (TW.out _ B3.out)).mono ?_
  rintro e W4 ⟨rfl, b4⟩
  go_wp2_with fail
  have B4 := Lib.hid (ext_trans B3.out b4)
  refine hK _ _ (KS.out _ B4.out) (fun hHeld4 => ?_)
  clear hK K b4
  try simp only [Act.put, List.getElem_toArray, List.getElem_cons_zero, List.getElem_cons_succ, List.setIfInBounds_toArray, List.set_cons_zero, List.set_cons_succ]
  refine wpAnyH_take (i := 27) (oi := _) (v := ?zv27) rfl (by kernel_rfl) (by kernel_rfl) (by kernel_rfl) (fun _ _ _ h => h) (Or.inl ⟨by rfl, ?zy27⟩) (by assumption) ?zr27
  case zy27 => (intro w hSw; go_simp <;> with_reducible rfl)
  try simp only [Act.put, List.getElem_toArray, List.getElem_cons_zero, List.getElem_cons_succ, List.setIfInBounds_toArray, List.set_cons_zero, List.set_cons_succ]
  refine wpAnyH_take (i := 28) (oi := _) (v := ?zv28) rfl (by kernel_rfl) (by kernel_rfl) (by kernel_rfl) (fun _ _ _ h => h) (Or.inl ⟨by rfl, ?zy28⟩) (by assumption) ?zr28
  case zy28 => (intro w hSw; go_simp <;> with_reducible rfl)
  try simp only [Act.put, List.getElem_toArray, List.getElem_cons_zero, List.getElem_cons_succ, List.setIfInBounds_toArray, List.set_cons_zero, List.set_cons_succ]
  refine wpAnyH_done (by kernel_rfl) ?_ _
  have BZ := Lib.hid (Q4.out.trans (B4.out.mono Q4.out.size))
  clear KS SM' TW OA OR
  go_wp2_with fail
  go_ret
  exact ⟨rfl, BZ.out⟩

set_option maxRecDepth 100000 in
theorem contract (F : Stop.Interp) (H : Type) (enc : TypeId × Value → H) (W : World) (base : Nat) (args : Array Value) (ds gs : List (DataW H)) (before : List MemPlace)
    (hval : ∀ (j : Nat) t v, Tryd.f3.params[j]? = some t → args[j]? = some v → Value.okWide Tryd.prog W .any base t v)
    (hW : DataW.Whole enc Tryd.prog Tryd.f3.params.toList Rows.itemsBornSpec.vars false W args.toList ds gs before)
    
    (hsz : (DataW.weightsEach Tryd.prog (Tryd.f3.params.toList ++ (OpenSpec.ofChange Rows.itemsBornSpec).bare.plain.varTypes Tryd.prog) (ds ++ gs)).all (· ≤ reachBytes) = true) (hL : laidMetH Tryd.prog Rows.itemsBornRow.laid W) :
    Calls Tryd.prog 3 args W fun e W' => ∃ v, e = .returned v ∧ ((OpenSpec.ofChange Rows.itemsBornSpec).at F).post enc Tryd.prog Tryd.f3 false true false false W args v W' := by
  have hW' := hW
  obtain ⟨p, q, hA0, hV, rfl, hfz, hnd⟩ := hW
  have hA : DataW.TrodAll enc Tryd.prog W 0 (fun _ => true) true Tryd.f3.params.toList args.toList ds p := hA0
  rw [Tryd.params3] at hA hval hsz
  obtain ⟨v0, vs0, d0, ds0, p0, q0, hargs, rfl, rfl, h0, r0⟩ := trodAll_cons hA
  obtain ⟨v1, vs1, d1, ds1, p1, q1, rfl, rfl, rfl, h1, r1⟩ := trodAll_cons r0
  obtain ⟨v2, vs2, d2, ds2, p2, q2, rfl, rfl, rfl, h2, r2⟩ := trodAll_cons r1
  obtain ⟨rfl, rfl, rfl⟩ := trodAll_nil r2
  obtain rfl : args = #[v0, v1, v2] := by cases args; simp_all
  obtain ⟨rfl, rfl⟩ := trodVars_none hV
  have k0 := h0
  have lt0 : ∀ x ∈ p0, x.block < W.heap.size := by obtain ⟨m, hm⟩ := k0; exact DataW.trod_lt m _ _ _ hm
  have k1 := h1
  have lt1 : ∀ x ∈ p1, x.block < W.heap.size := by obtain ⟨m, hm⟩ := k1; exact DataW.trod_lt m _ _ _ hm
  have k2 := h2
  have lt2 : ∀ x ∈ p2, x.block < W.heap.size := by obtain ⟨m, hm⟩ := k2; exact DataW.trod_lt m _ _ _ hm
  obtain ⟨a0, len0, cap0, rfl⟩ := okWide_slice Tryd.underlying22 (hval 0 22 v0 rfl rfl)
  obtain ⟨z0, w0, s0⟩ : ∃ l : List Mt, MtsAt W (.slice a0 len0 cap0) l ∧ ∀ f ∈ l, f.ok := by
    obtain ⟨fuel, hf⟩ := h0
    exact open_mts hf (fun n hn => by
      have hm := List.all_eq_true.1 hsz n (DataW.weights_mem_each (j := 0) (t := 22) rfl rfl _ hn)
      simpa [reachBytes] using of_decide_eq_true hm)
  obtain ⟨cs1, rfl, sz1⟩ := okWide_struct Tryd.underlying32 (hval 1 32 _ rfl rfl)
  obtain ⟨fu1, hf1⟩ := h1
  obtain ⟨f1, qq1, w1⟩ := mtsAt_open1 hf1 (fun n hn => by
    have hm := List.all_eq_true.1 hsz n (DataW.weights_mem_each (j := 1) (t := 32) rfl rfl _ hn)
    simpa [reachBytes] using of_decide_eq_true hm)
  obtain rfl : cs1 = f1.v := by
    have := congrArg List.toArray qq1
    rw [← Mt.v_cells] at this
    simpa [Value.cells] using this
  obtain ⟨a2, rfl, rfl, rfl, w2⟩ := open_string Tryd.underlying9 (hval 2 9 v2 rfl rfl) h2
  have s2 : a2.size ≤ 140737488351232 := by
    have := sized_string hsz (j := 2) (t := 9) rfl rfl
    simp only [Array.length_toList, reachBytes] at this
    exact this
  clear hA0
  refine (walk a0 len0 cap0 z0 f1 a2 W (tabs_of hL) w0 s0 w1 s2).mono fun e W' ⟨he, bel⟩ => ?_
  subst he
  exact ⟨_, rfl, _, _, _, [], _, [], hW', trodAll_mk1 (shut_bool Tryd.underlying4 _), (trodAll_cons_mk (Below.trod laidOut (by kernel_rfl) (of_decide_eq_true (by kernel_rfl)) k0 bel lt0) (trodAll_cons_mk (Below.trod laidOut (by kernel_rfl) (of_decide_eq_true (by kernel_rfl)) k1 bel lt1) (trodAll_cons_mk (Below.trod laidOut (by kernel_rfl) (of_decide_eq_true (by kernel_rfl)) k2 bel lt2) trodAll_mk0))), rfl, bel.frame _, fun h => by cases h⟩

/-- A world for the witness. -/
noncomputable def laidWorld (os : Os) : World := laidW os
theorem laid_met (os : Os) : laidMetH Tryd.prog Rows.itemsBornRow.laid ((laidWorld os).forCall (fun _ _ => 0) ⟨#[], #[.slice none 0 0, .agg #[.string ByteArray.empty, .bool false, .int .u64 0, .int .u64 0, .int .u32 0, .bool false, .bool false, .bool false, .slice none 0 0, .slice none 0 0, .int .i64 0, .int .u64 0, .string ByteArray.empty, .slice none 0 0, .slice none 0 0], .string ByteArray.empty], []⟩).memory := laidW_met os _
theorem reads (os : Os) {H : Type} (enc : TypeId × Value → H) : ∃ places, DataW.whole enc Tryd.prog ((laidWorld os).forCall (fun _ _ => 0) ⟨#[], #[.slice none 0 0, .agg #[.string ByteArray.empty, .bool false, .int .u64 0, .int .u64 0, .int .u32 0, .bool false, .bool false, .bool false, .slice none 0 0, .slice none 0 0, .int .i64 0, .int .u64 0, .string ByteArray.empty, .slice none 0 0, .slice none 0 0], .string ByteArray.empty], []⟩).memory Tryd.f3.params.toList Rows.itemsBornSpec.vars false #[Value.slice none 0 0, .agg #[.string ByteArray.empty, .bool false, .int .u64 0, .int .u64 0, .int .u32 0, .bool false, .bool false, .bool false, .slice none 0 0, .slice none 0 0, .int .i64 0, .int .u64 0, .string ByteArray.empty, .slice none 0 0, .slice none 0 0], .string ByteArray.empty].toList 8 = some ([.nil, .agg [.lit (.string []), .lit (.bool false), .lit (.int .u64 0), .lit (.int .u64 0), .lit (.int .u32 0), .lit (.bool false), .lit (.bool false), .lit (.bool false), .nil, .nil, .agg [.lit (.int .i64 0), .lit (.int .u64 0), .lit (.string [])], .nil, .nil], .lit (.string [])], [], places) :=
  ⟨[], by kernel_rfl⟩

set_option maxRecDepth 100000 in
theorem lifted (os : Os) (started : os.Started) (H : Type) (enc : TypeId × Value → H) (F : Stop.Interp) :
    ReturnsInHanded {} Tryd.checked os 3 .any ((OpenSpec.ofChange Rows.itemsBornSpec).preRow enc Tryd.prog Tryd.f3 Rows.itemsBornRow.domain false Rows.itemsBornRow.laid) (((OpenSpec.ofChange Rows.itemsBornSpec).at F).post enc Tryd.prog Tryd.f3 false true false false) := by
  obtain ⟨places, hx⟩ := reads os enc
  refine returnsInHanded_of_row (C := Tryd.checked) (s := (OpenSpec.ofChange Rows.itemsBornSpec)) own started (by kernel_rfl) Tryd.func3
    (witness_row_at (enc := enc) (C := Tryd.checked) false (laidWorld os) #[.slice none 0 0, .agg #[.string ByteArray.empty, .bool false, .int .u64 0, .int .u64 0, .int .u32 0, .bool false, .bool false, .bool false, .slice none 0 0, .slice none 0 0, .int .i64 0, .int .u64 0, .string ByteArray.empty, .slice none 0 0, .slice none 0 0], .string ByteArray.empty] rfl (by kernel_rfl) (by kernel_rfl) (by kernel_rfl)
      (OpenSpec.preRow_of_cond 8 hx (by kernel_rfl) (fun k hk => by cases hk) (by kernel_rfl) (laid_met os))) ?_
  intro W base args ds gs before hval hW _ hcnd hsz hL _ _
  exact contract F H enc W base args ds gs before hval hW  hsz hL

theorem said : Rows.ItemsBornSaid :=
  OpenClaim.holds_of_cond 3 Tryd.f3 rfl rfl rfl rfl rfl rfl rfl ⟨rfl, rfl, rfl, rfl, rfl⟩ rfl rfl rfl rfl rfl (by kernel_rfl) Tryd.func3 (by kernel_rfl)
    (of_decide_eq_true (by kernel_rfl)) (by unfold Func.isWrapper; first | (rw [if_pos (by decide +kernel)]; kernel_rfl) | (rw [if_neg (by decide +kernel)]; exact ⟨rfl, rfl⟩))
    (fun os started H enc _ F => by rw [OpenClaim.pre_eq_preRow]; exact lifted os started H enc F)

theorem plain (f : FuncId) (fn : Func) (hf : Tryd.pinned.checked.prog.funcNamed "crier/crierlaw31.ItemsBorn" = some f) (hfn : Tryd.pinned.checked.prog.funcs[f]? = some fn) :
    true = Tryd.pinned.checked.prog.looks [] ∧ ∀ (j : Nat) t, fn.params[j]? = some t → Tryd.pinned.checked.prog.wantsStandIn t = false := by
  obtain rfl : f = 3 := Option.some.inj ((show Tryd.prog.funcNamed "crier/crierlaw31.ItemsBorn" = some 3 by kernel_rfl).symm.trans hf) |>.symm
  obtain rfl : fn = Tryd.f3 := (Option.some.inj (Tryd.func3.symm.trans hfn)).symm
  refine ⟨by kernel_rfl, fun j t ht => ?_⟩
  rw [Tryd.params3] at ht
  have : t = 9 ∨ t = 22 ∨ t = 32 := by have := Array.mem_of_getElem? ht; simp at this; first | exact this | omega | grind
  rcases this with rfl | rfl | rfl
  · exact (show Tryd.prog.wantsStandIn 9 = false by kernel_rfl)
  · exact (show Tryd.prog.wantsStandIn 22 = false by kernel_rfl)
  · exact (show Tryd.prog.wantsStandIn 32 = false by kernel_rfl)

/-- THE CARD. -/
theorem proved : Rows.ItemsBornCardSaid :=
  Claim7.holds_tied_plain_at .later [] _ _ _ _ said (fun _ h => by cases h) (by kernel_rfl) (fun _ h => by cases h) itemsBorn_row_tie rfl ⟨rfl, rfl⟩ (by kernel_rfl) rfl plain (by kernel_rfl)
end Go.Proofs.YtihblangceblhaaDoor.itemsBorn
