/-
  FramerDead: FOR EVERY INPUT the law returns true and leaves its arguments as they were; the package's tables are laid (a card).
-/
import Derived.Test.YtceiipcdkonnlaaDoorTl
import Derived.Test.YtceiipcdkonnlaaDoorStr
import Derived.Test.YtceiipcdkonnlaaDoorCards
import Derived.Test.YtceiipcdkonnlaaDoorTie
import Derived.WalkKit
import Derived.ProofKit
import Derived.OpenShut
import Derived.ChangeOld
import Derived.Below
import Derived.SizedLaws
import Derived.Lib.SmallJoins
import Derived.Deep.DeepHandedRow
import Derived.Lib.LaidTab
namespace Go.Proofs.YtceiipcdkonnlaaDoor.framerDead
set_option linter.unusedSimpArgs false
open Go.ChangeShapes Go.WideShapes Go.ChangeAt Go.RowKit
open Go.ChangeMaps (open_string shut_string)
set_option linter.unusedVariables false

theorem own : ownKnob Tryd.prog.godebug = none := by kernel_rfl
theorem laidOut : laidOutB Tryd.prog = true := by kernel_rfl

/-- What a round of the dead one has. -/
def FDe (w : World) (f : Nat) (wr : World) (a0 : Addr) (d : Nat) : Prop :=
  ∃ v, Fm wr (f + 1) f v [] 1 (fltV d) ∧ Gl a0 wr ∧ Below w.heap.size w wr ∧ w.heap.size ≤ f
set_option maxHeartbeats 32000000 in
set_option maxRecDepth 100000 in
theorem walk (bI : Int) (a : Option Addr) (len cap : Nat) (ss : List ByteArray) (w : World) (ht : Tabs w) (hb : 0 ≤ bI ∧ bI ≤ 255) (hS : StrRow w a len ss) :
    Calls Tryd.prog 6 #[.int .u8 bI, .slice a len cap] w (Yes w) := by
  obtain ⟨a0, G⟩ := ht
  obtain ⟨hsl, hlm, hcell⟩ := hS
  obtain ⟨b, rfl⟩ : ∃ b : Nat, bI = (b : Int) := ⟨bI.toNat, by omega⟩
  have hb' : b < 256 := by omega
  have bt : ∀ x ∈ [b, 0], x < 256 := by intro x hx; simp at hx; omega
  unfold maxLen at hlm
  have hl' : (len : Int) ≤ 9223372036854775807 := by omega
  have BA : BytesAt (w.alloc (.cells #[.int .u8 (b : Int), .int .u8 0] 5)) (.slice (some ⟨w.heap.size, 0, none⟩) 2 2) [b, 0] :=
    BytesAt.of_own (B := w.heap.size) (by
      have := World.ownsRow_lit (base := w.heap.size) (e := 5) (size := 1) w #[.int .u8 (b : Int), .int .u8 0] 2 (by simp) (by unfold maxLen; omega) rfl
      simpa [bl] using this)
  have GT := rget_any _ [b, 0] 0 _ BA bt (by simp) (by simp)
  unfold GPost at GT
  rw [getV_hd] at GT
  unfold HV at GT
  have G1 := Lib.hid (G.ext (ext_alloc w (.cells #[.int .u8 (b : Int), .int .u8 0] 5)))
  have HC := Lib.hid hcell
  have AW := Lib.hid (fun W (hW : Gl a0 W) => awake12_any W hW)
  obtain ⟨K, hK⟩ : ∃ K, K = b / 16 := ⟨_, rfl⟩
  obtain ⟨F, hF⟩ : ∃ F, F = b % 16 := ⟨_, rfl⟩
  have hsb : (strB [b]).size = 1 := strB_size _
  have hq1 : (b : Int) / 16 = (K : Int) := by omega
  have hv := RightN_vals K F
  clear G hcell hsl hlm BA
  by_cases h0 : RightN K F = 0
  · rw [hd_k0 b K F hK hF h0] at GT
    simp only at GT
    have N1 := Lib.hid (nx_k0 b K F 1 hK hF h0)
    replace GT := Lib.hid GT
    clear hv hK hF
    replace h0 := Lib.hid h0
    go_enter Tryd.func6, Tryd.ntmps6
    go_wp2_with fail
    refine GT.out.mono ?_
    rintro e w1 ⟨rfl, b1⟩
    have X1 := Lib.hid (b1.alloc b1.size (.cells #[.int .i64 (K : Int), .int .i64 (F : Int), .int .i64 0] 33))
    have G2 := Lib.hid (G1.out.ext X1.out)
    have X0 := Lib.hid ((ext_alloc w (.cells #[.int .u8 (b : Int), .int .u8 0] 5)).trans (X1.out.mono (by simp)))
    clear b1 GT
    go_wp2_with fail
    generalize w1.alloc _ = V at X1 G2 X0 ⊢
    refine (f_new V).mono ?_
    rintro e w2 ⟨rfl, h2, b2, z2⟩
    have FR3 := Lib.hid ((G2.out.ext b2).ge h2)
    have B2 := Lib.hid b2
    have G3 := Lib.hid (G2.out.ext b2)
    have cv : (convert 23 9 (.slice (some ⟨w2.heap.size, 0, none⟩) 1 1)).run Tryd.prog (w2.alloc (.cells #[.int .u8 (b : Int)] 5)) = .ok (.string (strB [b])) (w2.alloc (.cells #[.int .u8 (b : Int)] 5)) :=
      BytesAt.conv (l := [b]) (BytesAt.of_own (B := w2.heap.size) (by
        have := World.ownsRow_lit (base := w2.heap.size) (e := 5) (size := 1) w2 #[.int .u8 (b : Int)] 1 (by simp) (by unfold maxLen; omega) rfl
        simpa [bl] using this)) Tryd.underlying23 Tryd.underlying5 Tryd.underlying9
    have H3 := Lib.hid (h2.ext (ext_alloc w2 (.cells #[.int .u8 (b : Int)] 5)))
    have B3 := Lib.hid (b2.trans ((ext_alloc w2 (.cells #[.int .u8 (b : Int)] 5)).mono b2.size))
    have G4 := Lib.hid (G3.out.ext (ext_alloc w2 (.cells #[.int .u8 (b : Int)] 5)))
    have K3 := Lib.hid (fun x hx => f_feed H3.out (by have := b2.size; simp; omega) x hx)
    clear h2 b2 z2
    go_wp2_with fail
    refine (K3.out _ (cat_size b)).mono ?_
    rintro e w5 ⟨v5, rfl, h5, F5, o5⟩
    have enb : ([] : List Nat) ++ nb ({ data := #[192, 0] } ++ strB [b] ++ { data := #[0] }) = [192, 0, b, 0] := by
      rw [nb_append, nb_append, nb_strB [b] (by intro x hx; simp at hx; omega)]
      rfl
    rw [enb] at h5
    have B5 := Lib.hid (B3.out.trans (F5.below B3.out.size (fun k hk => H3.out.lo hk)))
    have G5 := Lib.hid (G4.out.far F5 (fun k hk => Nat.le_trans FR3.out (H3.out.lo hk)))
    have H5 := Lib.hid h5
    have K4 := Lib.hid (f_next (s := ⟨[192, 0, b, 0], 0, 0⟩) h5 G5.out (by simp) (by simp) (by simp) (by simp))
    rw [nx_192] at K4
    unfold ansV at K4
    clear h5 F5 o5 K3 enb cv
    go_wp2_with fail
    refine K4.out.mono ?_
    rintro e w7 ⟨v7, rfl, h7, F7, o7⟩
    have B7 := Lib.hid (B5.out.trans (F7.below B5.out.size (fun k hk => (H5.out.lo hk))))
    have H8 := Lib.hid (h7.ext (ext_alloc w7 (.cells #[.int .i64 12, .int .i64 0, .int .i64 0, .string ⟨#[]⟩] 35)))
    have B8 := Lib.hid (B7.out.trans ((ext_alloc w7 (.cells #[.int .i64 12, .int .i64 0, .int .i64 0, .string ⟨#[]⟩] 35)).mono B7.out.size))
    have G8 := Lib.hid ((G5.out.far F7 (fun k hk => Nat.le_trans FR3.out (H5.out.lo hk))).ext (ext_alloc w7 (.cells #[.int .i64 12, .int .i64 0, .int .i64 0, .string ⟨#[]⟩] 35)))
    have K5 := Lib.hid (f_next (s := ⟨[b, 0], 1, 0⟩) H8.out G8.out (by simp) (by simp) (by simp) (by simp))
    clear h7 F7 o7 K4
    rw [N1.out] at K5
    unfold ansV at K5
    go_wp2_with fail
    refine K5.out.mono ?_
    rintro e w9 ⟨v9, rfl, h9, F9, o9⟩
    have B9 := Lib.hid (B8.out.trans (F9.below B8.out.size (fun k hk => (H8.out.lo hk))))
    have GA := Lib.hid (AW.out _ ((G8.out.far F9 (fun k hk => Nat.le_trans FR3.out (H8.out.lo hk))).ext (ext_alloc w9 (.cells #[.int .i64 (K : Int), .int .i64 (F : Int), .int .i64 0, .string ⟨#[]⟩] 35))))
    clear F9 h9 o9 K5
    go_wp2_with fail
    refine GA.out.mono ?_
    rintro e wA ⟨rfl, bA⟩
    go_wp2_with fail
    go_ret
    have BB := B9.out.trans ((ext_alloc w9 (.cells #[.int .i64 (K : Int), .int .i64 (F : Int), .int .i64 0, .string ⟨#[]⟩] 35)).mono B9.out.size)
    exact ⟨rfl, X0.out.trans ((BB.trans (bA.mono BB.size)).mono X0.out.size)⟩
  · rw [hd_k1 b K F hK hF h0] at GT
    simp only at GT
    have N1 := Lib.hid (nx_k1 b K F 1 hK hF h0)
    replace GT := Lib.hid GT
    generalize RightN K F = R at *
    have e0 : (((R : Nat) : Int) == 0) = false := by simpa using h0
    replace h0 := Lib.hid h0
    clear hv hK hF hq1
    go_enter Tryd.func6, Tryd.ntmps6
    go_wp2_with fail
    refine GT.out.mono ?_
    rintro e w1 ⟨rfl, b1⟩
    have X1 := Lib.hid (b1.alloc b1.size (.cells #[.int .i64 0, .int .i64 0, .int .i64 0] 33))
    have G2 := Lib.hid (G1.out.ext X1.out)
    have X0 := Lib.hid ((ext_alloc w (.cells #[.int .u8 (b : Int), .int .u8 0] 5)).trans (X1.out.mono (by simp)))
    clear b1 GT
    go_wp2_with fail
    generalize w1.alloc _ = V at X1 G2 X0 ⊢
    refine (f_new V).mono ?_
    rintro e w2 ⟨rfl, h2, b2, z2⟩
    have FR3 := Lib.hid ((G2.out.ext b2).ge h2)
    have B2 := Lib.hid b2
    have G3 := Lib.hid (G2.out.ext b2)
    have cv : (convert 23 9 (.slice (some ⟨w2.heap.size, 0, none⟩) 1 1)).run Tryd.prog (w2.alloc (.cells #[.int .u8 (b : Int)] 5)) = .ok (.string (strB [b])) (w2.alloc (.cells #[.int .u8 (b : Int)] 5)) :=
      BytesAt.conv (l := [b]) (BytesAt.of_own (B := w2.heap.size) (by
        have := World.ownsRow_lit (base := w2.heap.size) (e := 5) (size := 1) w2 #[.int .u8 (b : Int)] 1 (by simp) (by unfold maxLen; omega) rfl
        simpa [bl] using this)) Tryd.underlying23 Tryd.underlying5 Tryd.underlying9
    have H3 := Lib.hid (h2.ext (ext_alloc w2 (.cells #[.int .u8 (b : Int)] 5)))
    have B3 := Lib.hid (b2.trans ((ext_alloc w2 (.cells #[.int .u8 (b : Int)] 5)).mono b2.size))
    have G4 := Lib.hid (G3.out.ext (ext_alloc w2 (.cells #[.int .u8 (b : Int)] 5)))
    have K3 := Lib.hid (fun x hx => f_feed H3.out (by have := b2.size; simp; omega) x hx)
    clear h2 b2 z2
    go_wp2_with fail
    refine (K3.out _ (cat_size b)).mono ?_
    rintro e w5 ⟨v5, rfl, h5, F5, o5⟩
    have enb : ([] : List Nat) ++ nb ({ data := #[192, 0] } ++ strB [b] ++ { data := #[0] }) = [192, 0, b, 0] := by
      rw [nb_append, nb_append, nb_strB [b] (by intro x hx; simp at hx; omega)]
      rfl
    rw [enb] at h5
    have B5 := Lib.hid (B3.out.trans (F5.below B3.out.size (fun k hk => H3.out.lo hk)))
    have G5 := Lib.hid (G4.out.far F5 (fun k hk => Nat.le_trans FR3.out (H3.out.lo hk)))
    have H5 := Lib.hid h5
    have K4 := Lib.hid (f_next (s := ⟨[192, 0, b, 0], 0, 0⟩) h5 G5.out (by simp) (by simp) (by simp) (by simp))
    rw [nx_192] at K4
    unfold ansV at K4
    clear h5 F5 o5 K3 enb cv
    go_wp2_with fail
    refine K4.out.mono ?_
    rintro e w7 ⟨v7, rfl, h7, F7, o7⟩
    have B7 := Lib.hid (B5.out.trans (F7.below B5.out.size (fun k hk => (H5.out.lo hk))))
    have H8 := Lib.hid (h7.ext (ext_alloc w7 (.cells #[.int .i64 12, .int .i64 0, .int .i64 0, .string ⟨#[]⟩] 35)))
    have B8 := Lib.hid (B7.out.trans ((ext_alloc w7 (.cells #[.int .i64 12, .int .i64 0, .int .i64 0, .string ⟨#[]⟩] 35)).mono B7.out.size))
    have G8 := Lib.hid ((G5.out.far F7 (fun k hk => Nat.le_trans FR3.out (H5.out.lo hk))).ext (ext_alloc w7 (.cells #[.int .i64 12, .int .i64 0, .int .i64 0, .string ⟨#[]⟩] 35)))
    have K5 := Lib.hid (f_next (s := ⟨[b, 0], 1, 0⟩) H8.out G8.out (by simp) (by simp) (by simp) (by simp))
    clear h7 F7 o7 K4
    rw [N1.out] at K5
    unfold ansV zR at K5
    go_wp2_with fail
    refine K5.out.mono ?_
    rintro e w9 ⟨v9, rfl, h9, F9, o9⟩
    have B9 := Lib.hid (B8.out.trans (F9.below B8.out.size (fun k hk => (H8.out.lo hk))))
    have H9 := Lib.hid (h9.ext (ext_alloc w9 (.cells #[.int .i64 0, .int .i64 0, .int .i64 0, .string ⟨#[]⟩] 35)))
    have G9 := Lib.hid ((G8.out.far F9 (fun k hk => Nat.le_trans FR3.out (H8.out.lo hk))).ext (ext_alloc w9 (.cells #[.int .i64 0, .int .i64 0, .int .i64 0, .string ⟨#[]⟩] 35)))
    have BB := Lib.hid (X0.out.trans ((B9.out.trans ((ext_alloc w9 (.cells #[.int .i64 0, .int .i64 0, .int .i64 0, .string ⟨#[]⟩] 35)).mono B9.out.size)).mono X0.out.size))
    have XV := Lib.hid X0.out.size
    clear F9 h9 o9 K5 B8 H8 G8 B7 H5 G5 B5 G4 B3 H3 G3 B2 X1 G2 G1
    go_wp2_with fail
    generalize w9.alloc _ = W9 at H9 G9 BB ⊢
    go_loopw [14] (fun iv wr => ∃ i : Nat, iv = .int .i64 (i : Int) ∧ i ≤ len ∧ i ≤ 20 ∧ FDe w V.heap.size wr a0 R) (fun iv _ => len - (intOf iv).toNat)
    case atStart => exact ⟨0, rfl, by omega, by omega, _, H9.out, G9.out, BB.out, XV.out⟩
    case round =>
      obtain ⟨i, rfl, hi, hi2, HF⟩ := hrel
      obtain ⟨v, hf, hg, hbw, hlf⟩ := HF
      clear H9 G9 BB
      have hfd : Fm wr (V.heap.size + 1) V.heap.size v [] 1 (.iface 67 (.agg #[.int .i64 (R : Int)])) := by have := hf; simpa [fltV, h0.out] using this
      by_cases hlt : i < len ∧ i < 20
      · obtain ⟨hlt0, hlt1⟩ := hlt
        obtain ⟨b', o, rfl, hbl, hcs⟩ := HC.out.resolve_left (by omega)
        obtain ⟨x, hx⟩ : ∃ x, x = ss.getD i ByteArray.empty := ⟨_, rfl⟩
        have hcx : wr.cell? ⟨b', o + i, none⟩ = some (.string x) := by rw [hx]; exact (hbw.cell (p := ⟨b', o + i, none⟩) hbl).trans (hcs i hlt0).1
        have hlt0' : (i : Int) < (len : Int) := by omega
        have hlt1' : (i : Int) < 20 := by omega
        have A1 := Lib.hid (f_feed_dead hfd x)
        have A2 := Lib.hid (f_waits hf)
        have A3 := Lib.hid (f_next (s := ⟨[], 1, R⟩) hf hg (by simp) (by simp) (by simp) (fun _ => rfl))
        rw [nx_dead _ _ _ h0.out] at A3
        unfold ansV zR at A3
        have HF := Lib.hid hf
        have HG := Lib.hid hg
        have HW := Lib.hid hbw
        have HLF := Lib.hid hlf
        replace hx := Lib.hid hx
        clear hf hg hbw hlf hfd
        go_wp2_with fail
        refine A1.out.mono ?_
        rintro e w2 ⟨rfl, rfl⟩
        go_wp2_with fail
        refine A2.out.mono ?_
        rintro e w2 ⟨rfl, rfl⟩
        go_wp2_with fail
        refine A3.out.mono ?_
        rintro e w3 ⟨v3, rfl, h3, F3, o3⟩
        have H3 := Lib.hid (h3.ext (ext_alloc w3 (.cells #[.int .i64 0, .int .i64 0, .int .i64 0, .string ⟨#[]⟩] 35)))
        have G3 := Lib.hid ((HG.out.far F3 (fun k hk => Nat.le_trans FR3.out (HF.out.lo hk))).ext (ext_alloc w3 (.cells #[.int .i64 0, .int .i64 0, .int .i64 0, .string ⟨#[]⟩] 35)))
        have B3 := Lib.hid (HW.out.trans (F3.below HW.out.size (fun k hk => Nat.le_trans HLF.out (HF.out.lo hk))))
        clear h3 F3 o3 A1 A2 A3 hcx
        go_wp2_with fail
        go_roundw
        case rel => exact ⟨i + 1, by simp, by omega, by omega, _, H3.out, G3.out, B3.out.trans ((ext_alloc w3 _).mono B3.out.size), HLF.out⟩
        case measure => simp [intOf]; omega
      · have A1 := Lib.hid (f_dead hfd)
        have A2 := Lib.hid (f_taken hf)
        have A3 := Lib.hid (AW.out _ hg)
        have HW := Lib.hid hbw
        clear hf hg hbw hlf hfd
        by_cases h1 : i < len
        · have h1' : (i : Int) < (len : Int) := by omega
          have h2' : ¬ (i : Int) < 20 := by omega
          go_wp2_with fail
          refine A1.out.mono ?_
          rintro e w2 ⟨rfl, rfl⟩
          go_wp2_with fail
          refine A2.out.mono ?_
          rintro e w2 ⟨rfl, rfl⟩
          go_wp2_with fail
          refine A3.out.mono ?_
          rintro e w2 ⟨rfl, b2⟩
          go_wp2_with fail
          go_ret
          exact ⟨rfl, HW.out.trans (b2.mono HW.out.size)⟩
        · have h1' : ¬ (i : Int) < (len : Int) := by omega
          go_wp2_with fail
          refine A1.out.mono ?_
          rintro e w2 ⟨rfl, rfl⟩
          go_wp2_with fail
          refine A2.out.mono ?_
          rintro e w2 ⟨rfl, rfl⟩
          go_wp2_with fail
          refine A3.out.mono ?_
          rintro e w2 ⟨rfl, b2⟩
          go_wp2_with fail
          go_ret
          exact ⟨rfl, HW.out.trans (b2.mono HW.out.size)⟩

set_option maxRecDepth 100000 in
theorem contract (F : Stop.Interp) (H : Type) (enc : TypeId × Value → H) (W : World) (base : Nat) (args : Array Value) (ds gs : List (DataW H)) (before : List MemPlace)
    (hval : ∀ (j : Nat) t v, Tryd.f6.params[j]? = some t → args[j]? = some v → Value.okWide Tryd.prog W .any base t v)
    (hW : DataW.Whole enc Tryd.prog Tryd.f6.params.toList Rows.framerDeadSpec.vars false W args.toList ds gs before)
    
    (hsz : (DataW.weightsEach Tryd.prog (Tryd.f6.params.toList ++ (OpenSpec.ofChange Rows.framerDeadSpec).bare.plain.varTypes Tryd.prog) (ds ++ gs)).all (· ≤ reachBytes) = true) (hL : laidMetH Tryd.prog Rows.framerDeadRow.laid W) :
    Calls Tryd.prog 6 args W fun e W' => ∃ v, e = .returned v ∧ ((OpenSpec.ofChange Rows.framerDeadSpec).at F).post enc Tryd.prog Tryd.f6 false true false false W args v W' := by
  have hW' := hW
  obtain ⟨p, q, hA0, hV, rfl, hfz, hnd⟩ := hW
  have hA : DataW.TrodAll enc Tryd.prog W 0 (fun _ => true) true Tryd.f6.params.toList args.toList ds p := hA0
  rw [Tryd.params6] at hA hval hsz
  obtain ⟨v0, vs0, d0, ds0, p0, q0, hargs, rfl, rfl, h0, r0⟩ := trodAll_cons hA
  obtain ⟨v1, vs1, d1, ds1, p1, q1, rfl, rfl, rfl, h1, r1⟩ := trodAll_cons r0
  obtain ⟨rfl, rfl, rfl⟩ := trodAll_nil r1
  obtain rfl : args = #[v0, v1] := by cases args; simp_all
  obtain ⟨rfl, rfl⟩ := trodVars_none hV
  have k0 := h0
  have lt0 : ∀ x ∈ p0, x.block < W.heap.size := by obtain ⟨m, hm⟩ := k0; exact DataW.trod_lt m _ _ _ hm
  have k1 := h1
  have lt1 : ∀ x ∈ p1, x.block < W.heap.size := by obtain ⟨m, hm⟩ := k1; exact DataW.trod_lt m _ _ _ hm
  obtain ⟨a0, rfl, rfl, rfl, w0⟩ := open_int Tryd.underlying5 (hval 0 5 v0 rfl rfl) h0
  have b0 := wf_u8 w0
  obtain ⟨a1, len1, cap1, rfl⟩ := okWide_slice Tryd.underlying22 (hval 1 22 v1 rfl rfl)
  obtain ⟨z1, w1⟩ : ∃ ss, StrRow W a1 len1 ss := by
    obtain ⟨fuel, hf⟩ := h1
    exact open_str_arg Tryd.underlying22 Tryd.underlying9 (by kernel_rfl) hf
  clear hA0
  refine (walk a0 a1 len1 cap1 z1 W (tabs_of hL) b0 w1).mono fun e W' ⟨he, bel⟩ => ?_
  subst he
  exact ⟨_, rfl, _, _, _, [], _, [], hW', trodAll_mk1 (shut_bool Tryd.underlying4 _), (trodAll_cons_mk (Below.trod laidOut (by kernel_rfl) (of_decide_eq_true (by kernel_rfl)) k0 bel lt0) (trodAll_cons_mk (Below.trod laidOut (by kernel_rfl) (of_decide_eq_true (by kernel_rfl)) k1 bel lt1) trodAll_mk0)), rfl, bel.frame _, fun h => by cases h⟩

/-- A world for the witness. -/
noncomputable def laidWorld (os : Os) : World := laidW os
theorem laid_met (os : Os) : laidMetH Tryd.prog Rows.framerDeadRow.laid ((laidWorld os).forCall (fun _ _ => 0) ⟨#[], #[.int .u8 0, .slice none 0 0], []⟩).memory := laidW_met os _
theorem reads (os : Os) {H : Type} (enc : TypeId × Value → H) : ∃ places, DataW.whole enc Tryd.prog ((laidWorld os).forCall (fun _ _ => 0) ⟨#[], #[.int .u8 0, .slice none 0 0], []⟩).memory Tryd.f6.params.toList Rows.framerDeadSpec.vars false #[Value.int .u8 0, .slice none 0 0].toList 8 = some ([.lit (.int .u8 0), .nil], [], places) :=
  ⟨[], by kernel_rfl⟩

set_option maxRecDepth 100000 in
theorem lifted (os : Os) (started : os.Started) (H : Type) (enc : TypeId × Value → H) (F : Stop.Interp) :
    ReturnsInHanded {} Tryd.checked os 6 .any ((OpenSpec.ofChange Rows.framerDeadSpec).preRow enc Tryd.prog Tryd.f6 Rows.framerDeadRow.domain false Rows.framerDeadRow.laid) (((OpenSpec.ofChange Rows.framerDeadSpec).at F).post enc Tryd.prog Tryd.f6 false true false false) := by
  obtain ⟨places, hx⟩ := reads os enc
  refine returnsInHanded_of_row (C := Tryd.checked) (s := (OpenSpec.ofChange Rows.framerDeadSpec)) own started (by kernel_rfl) Tryd.func6
    (witness_row_at (enc := enc) (C := Tryd.checked) false (laidWorld os) #[.int .u8 0, .slice none 0 0] rfl (by kernel_rfl) (by kernel_rfl) (by kernel_rfl)
      (OpenSpec.preRow_of_cond 8 hx (by kernel_rfl) (fun k hk => by cases hk) (by kernel_rfl) (laid_met os))) ?_
  intro W base args ds gs before hval hW _ hcnd hsz hL _ _
  exact contract F H enc W base args ds gs before hval hW  hsz hL

theorem said : Rows.FramerDeadSaid :=
  OpenClaim.holds_of_cond 6 Tryd.f6 rfl rfl rfl rfl rfl rfl rfl ⟨rfl, rfl, rfl, rfl, rfl⟩ rfl rfl rfl rfl rfl (by kernel_rfl) Tryd.func6 (by kernel_rfl)
    (of_decide_eq_true (by kernel_rfl)) (by unfold Func.isWrapper; first | (rw [if_pos (by decide +kernel)]; kernel_rfl) | (rw [if_neg (by decide +kernel)]; exact ⟨rfl, rfl⟩))
    (fun os started H enc _ F => by rw [OpenClaim.pre_eq_preRow]; exact lifted os started H enc F)

theorem plain (f : FuncId) (fn : Func) (hf : Tryd.pinned.checked.prog.funcNamed "crier/crierlaw12.FramerDead" = some f) (hfn : Tryd.pinned.checked.prog.funcs[f]? = some fn) :
    true = Tryd.pinned.checked.prog.looks [] ∧ ∀ (j : Nat) t, fn.params[j]? = some t → Tryd.pinned.checked.prog.wantsStandIn t = false := by
  obtain rfl : f = 6 := Option.some.inj ((show Tryd.prog.funcNamed "crier/crierlaw12.FramerDead" = some 6 by kernel_rfl).symm.trans hf) |>.symm
  obtain rfl : fn = Tryd.f6 := (Option.some.inj (Tryd.func6.symm.trans hfn)).symm
  refine ⟨by kernel_rfl, fun j t ht => ?_⟩
  rw [Tryd.params6] at ht
  have : t = 5 ∨ t = 22 := by have := Array.mem_of_getElem? ht; simp at this; first | exact this | omega | grind
  rcases this with rfl | rfl
  · exact (show Tryd.prog.wantsStandIn 5 = false by kernel_rfl)
  · exact (show Tryd.prog.wantsStandIn 22 = false by kernel_rfl)

/-- THE CARD. -/
theorem proved : Rows.FramerDeadCardSaid :=
  Claim7.holds_tied_plain_at .later [] _ _ _ _ said (fun _ h => by cases h) (by kernel_rfl) (fun _ h => by cases h) framerDead_row_tie rfl ⟨rfl, rfl⟩ (by kernel_rfl) rfl plain (by kernel_rfl)
end Go.Proofs.YtceiipcdkonnlaaDoor.framerDead
