/-
  MetaPuts: FOR EVERY INPUT the law returns true and leaves its arguments as they were.
-/
import Derived.Test.YtoglgdkeknojkaaOpn
import Derived.Test.YtoglgdkeknojkaaRows
import Derived.WalkKit
import Derived.Deep.RegionHeld3
import Derived.ProofKit
import Derived.OpenShut
import Derived.ShutString
import Derived.ChangeOld
import Derived.Below
import Derived.SizedLaws
import Derived.Lib.SmallJoins
namespace Go.Proofs.Ytoglgdkeknojkaa.metaPuts
open Go.ChangeShapes Go.WideShapes Go.ChangeAt Go.RowKit
open Go.ChangeMaps (open_string shut_string)
set_option linter.unusedVariables false

theorem own : ownKnob Try.prog.godebug = none := by kernel_rfl
theorem laidOut : laidOutB Try.prog = true := by kernel_rfl

theorem keepM {w2 W W' : World} {g1 g2 : Nat} {C1 C2 : World → Prop} (K1 : ∀ W, Below w2.heap.size w2 W → C1 W) (K2 : ∀ W, Below w2.heap.size w2 W → C2 W) {a0 a1 a2 a3 a4 a5 a6 a7 b0 b1 b2 b3 b4 b5 b6 b7 : Value} (h : W.cell? ⟨g1, 0, none⟩ = some a0 ∧ W.cell? ⟨g1, 1, none⟩ = some a1 ∧ W.cell? ⟨g1, 2, none⟩ = some a2 ∧ W.cell? ⟨g1, 3, none⟩ = some a3 ∧ W.cell? ⟨g1, 4, none⟩ = some a4 ∧ W.cell? ⟨g1, 5, none⟩ = some a5 ∧ W.cell? ⟨g1, 6, none⟩ = some a6 ∧ W.cell? ⟨g1, 7, none⟩ = some a7 ∧ W.cell? ⟨g2, 0, none⟩ = some b0 ∧ W.cell? ⟨g2, 1, none⟩ = some b1 ∧ W.cell? ⟨g2, 2, none⟩ = some b2 ∧ W.cell? ⟨g2, 3, none⟩ = some b3 ∧ W.cell? ⟨g2, 4, none⟩ = some b4 ∧ W.cell? ⟨g2, 5, none⟩ = some b5 ∧ W.cell? ⟨g2, 6, none⟩ = some b6 ∧ W.cell? ⟨g2, 7, none⟩ = some b7 ∧ C1 W ∧ C2 W ∧ Below w2.heap.size w2 W) (hb : Below W.heap.size W W') :
    W'.cell? ⟨g1, 0, none⟩ = some a0 ∧ W'.cell? ⟨g1, 1, none⟩ = some a1 ∧ W'.cell? ⟨g1, 2, none⟩ = some a2 ∧ W'.cell? ⟨g1, 3, none⟩ = some a3 ∧ W'.cell? ⟨g1, 4, none⟩ = some a4 ∧ W'.cell? ⟨g1, 5, none⟩ = some a5 ∧ W'.cell? ⟨g1, 6, none⟩ = some a6 ∧ W'.cell? ⟨g1, 7, none⟩ = some a7 ∧ W'.cell? ⟨g2, 0, none⟩ = some b0 ∧ W'.cell? ⟨g2, 1, none⟩ = some b1 ∧ W'.cell? ⟨g2, 2, none⟩ = some b2 ∧ W'.cell? ⟨g2, 3, none⟩ = some b3 ∧ W'.cell? ⟨g2, 4, none⟩ = some b4 ∧ W'.cell? ⟨g2, 5, none⟩ = some b5 ∧ W'.cell? ⟨g2, 6, none⟩ = some b6 ∧ W'.cell? ⟨g2, 7, none⟩ = some b7 ∧ C1 W' ∧ C2 W' ∧ Below w2.heap.size w2 W' := by
  obtain ⟨h0, h1, h2, h3, h4, h5, h6, h7, h8, h9, h10, h11, h12, h13, h14, h15, -, -, h16⟩ := h
  have l1 := World.block_lt_of_cell? W _ h0
  have l2 := World.block_lt_of_cell? W _ h8
  simp only at l1 l2
  exact ⟨(hb.cell (by simpa using l1)).trans h0, (hb.cell (by simpa using l1)).trans h1, (hb.cell (by simpa using l1)).trans h2, (hb.cell (by simpa using l1)).trans h3, (hb.cell (by simpa using l1)).trans h4, (hb.cell (by simpa using l1)).trans h5, (hb.cell (by simpa using l1)).trans h6, (hb.cell (by simpa using l1)).trans h7, (hb.cell (by simpa using l2)).trans h8, (hb.cell (by simpa using l2)).trans h9, (hb.cell (by simpa using l2)).trans h10, (hb.cell (by simpa using l2)).trans h11, (hb.cell (by simpa using l2)).trans h12, (hb.cell (by simpa using l2)).trans h13, (hb.cell (by simpa using l2)).trans h14, (hb.cell (by simpa using l2)).trans h15, K1 _ (ext_trans h16 hb), K2 _ (ext_trans h16 hb), ext_trans h16 hb⟩
set_option maxHeartbeats 4000000 in
set_option maxRecDepth 100000 in
theorem walk (x0 : Bool) (x1 : ByteArray) (x2 x3 : Int) (x4 x5 x6 x7 : ByteArray) (y0 : Bool) (y1 : ByteArray) (y2 y3 : Int) (y4 y5 y6 y7 : ByteArray) (w : World)
    (sx1 : x1.size ≤ 140737488351232) (bx2 : 0 ≤ x2 ∧ x2 ≤ 18446744073709551615) (bx3 : 0 ≤ x3 ∧ x3 ≤ 18446744073709551615) (sx4 : x4.size ≤ 140737488351232) (sx5 : x5.size ≤ 140737488351232) (sx6 : x6.size ≤ 140737488351232) (sx7 : x7.size ≤ 140737488351232)
    (sy1 : y1.size ≤ 140737488351232) (by2 : 0 ≤ y2 ∧ y2 ≤ 18446744073709551615) (by3 : 0 ≤ y3 ∧ y3 ≤ 18446744073709551615) (sy4 : y4.size ≤ 140737488351232) (sy5 : y5.size ≤ 140737488351232) (sy6 : y6.size ≤ 140737488351232) (sy7 : y7.size ≤ 140737488351232) :
    Calls Try.prog 3 #[.agg #[.bool x0, .string x1, .int .u64 x2, .int .u64 x3, .string x4, .string x5, .string x6, .string x7], .agg #[.bool y0, .string y1, .int .u64 y2, .int .u64 y3, .string y4, .string y5, .string y6, .string y7]] w (Yes w) := by
  obtain ⟨x2, rfl⟩ := Int.eq_ofNat_of_zero_le bx2.1
  obtain ⟨x3, rfl⟩ := Int.eq_ofNat_of_zero_le bx3.1
  obtain ⟨y2, rfl⟩ := Int.eq_ofNat_of_zero_le by2.1
  obtain ⟨y3, rfl⟩ := Int.eq_ofNat_of_zero_le by3.1
  have P := Lib.hid (fun w => mput_any ⟨x0, x1, x2, x3, x4, x5, x6, x7⟩ w ⟨sx1, by simp only; omega, by simp only; omega, sx4, sx5, sx6, sx7⟩)
  have R := Lib.hid (fun w => mrput_any ⟨x0, x1, x2, x3, x4, x5, x6, x7⟩ w ⟨sx1, by simp only; omega, by simp only; omega, sx4, sx5, sx6, sx7⟩)
  have J1 := Lib.hid (fun w => joined9_any ⟨x0, x1, x2, x3, x4, x5, x6, x7⟩ ⟨y0, y1, y2, y3, y4, y5, y6, y7⟩ w)
  have J2 := Lib.hid (fun w => joined10_any ⟨x0, x1, x2, x3, x4, x5, x6, x7⟩ ⟨y0, y1, y2, y3, y4, y5, y6, y7⟩ w)
  generalize putsE (fieldsK ⟨x0, x1, x2, x3, x4, x5, x6, x7⟩ 8) = PE at *
  generalize putsL (fieldsK ⟨x0, x1, x2, x3, x4, x5, x6, x7⟩ 8) = PL at *
  generalize joinK ⟨x0, x1, x2, x3, x4, x5, x6, x7⟩ ⟨y0, y1, y2, y3, y4, y5, y6, y7⟩ 8 = J at *
  obtain ⟨j0, j1, j2, j3, j4, j5, j6, j7⟩ := J
  unfold MeP at J1 J2
  simp only [Me.val, Me.cells] at P R J1 J2
  have hA1 : Blk ((w.alloc (.cells #[.bool x0, .string x1, .int .u64 (x2 : Nat), .int .u64 (x3 : Nat), .string x4, .string x5, .string x6, .string x7] 24)).alloc (.cells #[.bool y0, .string y1, .int .u64 (y2 : Nat), .int .u64 (y3 : Nat), .string y4, .string y5, .string y6, .string y7] 24)) w.heap.size 24 #[.bool x0, .string x1, .int .u64 (x2 : Nat), .int .u64 (x3 : Nat), .string x4, .string x5, .string x6, .string x7] := Blk.alloc (Blk.new w 24 _) _
  have hA2 : Blk ((w.alloc (.cells #[.bool x0, .string x1, .int .u64 (x2 : Nat), .int .u64 (x3 : Nat), .string x4, .string x5, .string x6, .string x7] 24)).alloc (.cells #[.bool y0, .string y1, .int .u64 (y2 : Nat), .int .u64 (y3 : Nat), .string y4, .string y5, .string y6, .string y7] 24)) (w.heap.size + 1) 24 #[.bool y0, .string y1, .int .u64 (y2 : Nat), .int .u64 (y3 : Nat), .string y4, .string y5, .string y6, .string y7] := by
    have h := Blk.new (w.alloc (.cells #[.bool x0, .string x1, .int .u64 (x2 : Nat), .int .u64 (x3 : Nat), .string x4, .string x5, .string x6, .string x7] 24)) 24 #[.bool y0, .string y1, .int .u64 (y2 : Nat), .int .u64 (y3 : Nat), .string y4, .string y5, .string y6, .string y7]
    rw [show (w.alloc (.cells #[.bool x0, .string x1, .int .u64 (x2 : Nat), .int .u64 (x3 : Nat), .string x4, .string x5, .string x6, .string x7] 24)).heap.size = w.heap.size + 1 by simp] at h
    exact h
  have hB := Lib.hid ((ext_alloc w (.cells #[.bool x0, .string x1, .int .u64 (x2 : Nat), .int .u64 (x3 : Nat), .string x4, .string x5, .string x6, .string x7] 24)).alloc (by simp) (.cells #[.bool y0, .string y1, .int .u64 (y2 : Nat), .int .u64 (y3 : Nat), .string y4, .string y5, .string y6, .string y7] 24))
  replace hA1 := Lib.hid hA1
  replace hA2 := Lib.hid hA2
  clear sx1 bx2 bx3 sx4 sx5 sx6 sx7 sy1 by2 by3 sy4 sy5 sy6 sy7
  go_enter Try.func3, Try.ntmps3
  go_wp2_with fail
  refine (P.out _).mono ?_
  rintro e w1 ⟨v1, rfl, s1, b1⟩
  have hM1 := Blk.ext hA1.out b1
  have hN1 := Lib.hid (Blk.ext hA2.out b1)
  have B1 := Lib.hid (hB.out.trans (b1.mono hB.out.size))
  obtain ⟨c0, c1, c2, c3, c4, c5, c6, c7⟩ := box8b hM1
  replace hM1 := Lib.hid hM1
  replace s1 := Lib.hid s1
  obtain ⟨p1, q1, rfl, -⟩ := s1.out
  clear b1
  go_wp2_with fail
  refine (R.out _).mono ?_
  rintro e w2 ⟨v2, rfl, s2, b2⟩
  have K1 := Lib.hid (fun W (hW : Below w2.heap.size w2 W) => ((s1.out.keep b2 (Nat.le_refl _)).keep hW (Nat.le_refl _)).bytes.conv (P := Try.prog) Try.underlying25 Try.underlying5 Try.underlying9)
  have K2 := Lib.hid (fun W (hW : Below w2.heap.size w2 W) => (s2.keep hW (Nat.le_refl _)).bytes.conv (P := Try.prog) Try.underlying25 Try.underlying5 Try.underlying9)
  obtain ⟨p2, q2, rfl, -⟩ := s2
  have B2 := Lib.hid (ext_trans B1.out b2)
  have hM2 := Blk.ext hM1.out b2
  have hN2 := Blk.ext hN1.out b2
  clear b2 c0 c1 c2 c3 c4 c5 c6 c7
  obtain ⟨c0, c1, c2, c3, c4, c5, c6, c7⟩ := box8b hM2
  obtain ⟨d0, d1, d2, d3, d4, d5, d6, d7⟩ := box8b hN2
  clear hM2 hN2
  generalize strB PL = T at *
  generalize PL.length = n at *
  have k1 := K1.out _ (ext_drew w2)
  have k2 := K2.out _ (ext_drew w2)
  go_wp2_with fail
  go_region_held3 (fun W => W.cell? ⟨w.heap.size, 0, none⟩ = some (.bool x0) ∧ W.cell? ⟨w.heap.size, 1, none⟩ = some (.string x1) ∧ W.cell? ⟨w.heap.size, 2, none⟩ = some (.int .u64 (x2 : Nat)) ∧ W.cell? ⟨w.heap.size, 3, none⟩ = some (.int .u64 (x3 : Nat)) ∧ W.cell? ⟨w.heap.size, 4, none⟩ = some (.string x4) ∧ W.cell? ⟨w.heap.size, 5, none⟩ = some (.string x5) ∧ W.cell? ⟨w.heap.size, 6, none⟩ = some (.string x6) ∧ W.cell? ⟨w.heap.size, 7, none⟩ = some (.string x7) ∧ W.cell? ⟨w.heap.size + 1, 0, none⟩ = some (.bool y0) ∧ W.cell? ⟨w.heap.size + 1, 1, none⟩ = some (.string y1) ∧ W.cell? ⟨w.heap.size + 1, 2, none⟩ = some (.int .u64 (y2 : Nat)) ∧ W.cell? ⟨w.heap.size + 1, 3, none⟩ = some (.int .u64 (y3 : Nat)) ∧ W.cell? ⟨w.heap.size + 1, 4, none⟩ = some (.string y4) ∧ W.cell? ⟨w.heap.size + 1, 5, none⟩ = some (.string y5) ∧ W.cell? ⟨w.heap.size + 1, 6, none⟩ = some (.string y6) ∧ W.cell? ⟨w.heap.size + 1, 7, none⟩ = some (.string y7) ∧ (convert 25 9 (.slice p1 n q1)).run Try.prog W = .ok (.string T) W ∧ (convert 25 9 (.slice p2 n q2)).run Try.prog W = .ok (.string T) W ∧ Below w2.heap.size w2 W) (first | exact ⟨c0, c1, c2, c3, c4, c5, c6, c7, d0, d1, d2, d3, d4, d5, d6, d7, k1, k2, ext_drew _⟩ | exact keepM K1.out K2.out (‹_ ∧ _ ∧ _ ∧ _ ∧ _ ∧ _ ∧ _ ∧ _ ∧ _ ∧ _ ∧ _ ∧ _ ∧ _ ∧ _ ∧ _ ∧ _ ∧ _ ∧ _ ∧ Below w2.heap.size w2 _›) hb)
    (first | (go_at_call 9; refine (J1.out _).mono ?_; rintro e w' ⟨rfl, hb⟩) | (go_at_call 10; refine (J2.out _).mono ?_; rintro e w' ⟨rfl, hb⟩) | (go_at_call 11; refine (mawake_any _).mono ?_; rintro e w' ⟨rfl, hb⟩))
  go_wp2_with fail
  go_ret
  exact ⟨rfl, ext_trans B2.out (‹_ ∧ _ ∧ _ ∧ _ ∧ _ ∧ _ ∧ _ ∧ _ ∧ _ ∧ _ ∧ _ ∧ _ ∧ _ ∧ _ ∧ _ ∧ _ ∧ _ ∧ _ ∧ Below w2.heap.size w2 _›).2.2.2.2.2.2.2.2.2.2.2.2.2.2.2.2.2.2⟩

set_option maxRecDepth 100000 in
theorem lifted (os : Os) (started : os.Started) (H : Type) (enc : TypeId × Value → H) :
    ReturnsInHanded {} Try.checked os 3 .any (Rows.metaPutsSpec.pre6 enc Try.prog Try.f3 Rows.metaPutsRow.domain false) (Rows.metaPutsSpec.post enc Try.prog Try.f3 false true false false) := by
  refine returnsInHanded_of_change_sized (C := Try.checked) own started (by kernel_rfl) Try.func3
    (ChangeSpec.witness6 (enc := enc) (C := Try.checked) false ⟨#[], #[.agg #[.bool false, .string ByteArray.empty, .int .u64 0, .int .u64 0, .string ByteArray.empty, .string ByteArray.empty, .string ByteArray.empty, .string ByteArray.empty], .agg #[.bool false, .string ByteArray.empty, .int .u64 0, .int .u64 0, .string ByteArray.empty, .string ByteArray.empty, .string ByteArray.empty, .string ByteArray.empty]], []⟩ 8 (by kernel_rfl) (by kernel_rfl) (by kernel_rfl) (by kernel_rfl)) ?_
  intro W base args ds gs before hval0 hW hcnd hsz0 _
  have hsz : (DataW.weightsEach Try.prog (Try.f3.params.toList ++ Rows.metaPutsSpec.plain.varTypes Try.prog) (ds ++ gs)).all (· ≤ reachBytes) = true := hsz0
  have hval : ∀ (j : Nat) t v, Try.f3.params[j]? = some t → args[j]? = some v → Value.okWide Try.prog W .any base t v := hval0
  have hW' := hW
  obtain ⟨p, q, hA0, hV, rfl, hfz, hnd⟩ := hW
  have hA : DataW.TrodAll enc Try.prog W 0 (fun _ => true) true Try.f3.params.toList args.toList ds p := hA0
  rw [Try.params3] at hA hval hsz
  obtain ⟨v0, vs0, d0, ds0, p0, q0, hargs, rfl, rfl, h0, r0⟩ := trodAll_cons hA
  obtain ⟨v1, vs1, d1, ds1, p1, q1, rfl, rfl, rfl, h1, r1⟩ := trodAll_cons r0
  obtain ⟨rfl, rfl, rfl⟩ := trodAll_nil r1
  obtain rfl : args = #[v0, v1] := by cases args; simp_all
  obtain ⟨rfl, rfl⟩ := trodVars_none hV
  have k0 := h0
  have lt0 : ∀ x ∈ p0, x.block < W.heap.size := by obtain ⟨m, hm⟩ := k0; exact DataW.trod_lt m _ _ _ hm
  have k1 := h1
  have lt1 : ∀ x ∈ p1, x.block < W.heap.size := by obtain ⟨m, hm⟩ := k1; exact DataW.trod_lt m _ _ _ hm
  obtain ⟨cs0, rfl, sz0⟩ := okWide_struct Try.underlying24 (hval 0 24 _ rfl rfl)
  obtain ⟨fu0, hf0⟩ := h0
  obtain ⟨a0_0, a0_1, a0_2, a0_3, a0_4, a0_5, a0_6, a0_7, q0, z0, wa0_2, wa0_3⟩ := open_t24 hf0
  obtain rfl : cs0 = #[.bool a0_0, .string a0_1, .int .u64 a0_2, .int .u64 a0_3, .string a0_4, .string a0_5, .string a0_6, .string a0_7] := by
    have := congrArg List.toArray q0
    simpa [Value.cells] using this
  obtain ⟨rfl, rfl⟩ := Prod.mk.inj z0
  have sa0_1 : a0_1.size ≤ 140737488351232 := by
    have hm := List.all_eq_true.1 hsz a0_1.data.toList.length (DataW.weights_mem_each (j := 0) (t := 24) rfl rfl _ (by simp [DataW.weights, DataW.weightsEach, Try.underlying4, Try.underlying9, Try.underlying22, Try.underlying24]))
    simp only [Array.length_toList, reachBytes] at hm
    exact of_decide_eq_true hm
  have ba0_2 := wf_u64 wa0_2
  have ba0_3 := wf_u64 wa0_3
  have sa0_4 : a0_4.size ≤ 140737488351232 := by
    have hm := List.all_eq_true.1 hsz a0_4.data.toList.length (DataW.weights_mem_each (j := 0) (t := 24) rfl rfl _ (by simp [DataW.weights, DataW.weightsEach, Try.underlying4, Try.underlying9, Try.underlying22, Try.underlying24]))
    simp only [Array.length_toList, reachBytes] at hm
    exact of_decide_eq_true hm
  have sa0_5 : a0_5.size ≤ 140737488351232 := by
    have hm := List.all_eq_true.1 hsz a0_5.data.toList.length (DataW.weights_mem_each (j := 0) (t := 24) rfl rfl _ (by simp [DataW.weights, DataW.weightsEach, Try.underlying4, Try.underlying9, Try.underlying22, Try.underlying24]))
    simp only [Array.length_toList, reachBytes] at hm
    exact of_decide_eq_true hm
  have sa0_6 : a0_6.size ≤ 140737488351232 := by
    have hm := List.all_eq_true.1 hsz a0_6.data.toList.length (DataW.weights_mem_each (j := 0) (t := 24) rfl rfl _ (by simp [DataW.weights, DataW.weightsEach, Try.underlying4, Try.underlying9, Try.underlying22, Try.underlying24]))
    simp only [Array.length_toList, reachBytes] at hm
    exact of_decide_eq_true hm
  have sa0_7 : a0_7.size ≤ 140737488351232 := by
    have hm := List.all_eq_true.1 hsz a0_7.data.toList.length (DataW.weights_mem_each (j := 0) (t := 24) rfl rfl _ (by simp [DataW.weights, DataW.weightsEach, Try.underlying4, Try.underlying9, Try.underlying22, Try.underlying24]))
    simp only [Array.length_toList, reachBytes] at hm
    exact of_decide_eq_true hm
  obtain ⟨cs1, rfl, sz1⟩ := okWide_struct Try.underlying24 (hval 1 24 _ rfl rfl)
  obtain ⟨fu1, hf1⟩ := h1
  obtain ⟨a1_0, a1_1, a1_2, a1_3, a1_4, a1_5, a1_6, a1_7, q1, z1, wa1_2, wa1_3⟩ := open_t24 hf1
  obtain rfl : cs1 = #[.bool a1_0, .string a1_1, .int .u64 a1_2, .int .u64 a1_3, .string a1_4, .string a1_5, .string a1_6, .string a1_7] := by
    have := congrArg List.toArray q1
    simpa [Value.cells] using this
  obtain ⟨rfl, rfl⟩ := Prod.mk.inj z1
  have sa1_1 : a1_1.size ≤ 140737488351232 := by
    have hm := List.all_eq_true.1 hsz a1_1.data.toList.length (DataW.weights_mem_each (j := 1) (t := 24) rfl rfl _ (by simp [DataW.weights, DataW.weightsEach, Try.underlying4, Try.underlying9, Try.underlying22, Try.underlying24]))
    simp only [Array.length_toList, reachBytes] at hm
    exact of_decide_eq_true hm
  have ba1_2 := wf_u64 wa1_2
  have ba1_3 := wf_u64 wa1_3
  have sa1_4 : a1_4.size ≤ 140737488351232 := by
    have hm := List.all_eq_true.1 hsz a1_4.data.toList.length (DataW.weights_mem_each (j := 1) (t := 24) rfl rfl _ (by simp [DataW.weights, DataW.weightsEach, Try.underlying4, Try.underlying9, Try.underlying22, Try.underlying24]))
    simp only [Array.length_toList, reachBytes] at hm
    exact of_decide_eq_true hm
  have sa1_5 : a1_5.size ≤ 140737488351232 := by
    have hm := List.all_eq_true.1 hsz a1_5.data.toList.length (DataW.weights_mem_each (j := 1) (t := 24) rfl rfl _ (by simp [DataW.weights, DataW.weightsEach, Try.underlying4, Try.underlying9, Try.underlying22, Try.underlying24]))
    simp only [Array.length_toList, reachBytes] at hm
    exact of_decide_eq_true hm
  have sa1_6 : a1_6.size ≤ 140737488351232 := by
    have hm := List.all_eq_true.1 hsz a1_6.data.toList.length (DataW.weights_mem_each (j := 1) (t := 24) rfl rfl _ (by simp [DataW.weights, DataW.weightsEach, Try.underlying4, Try.underlying9, Try.underlying22, Try.underlying24]))
    simp only [Array.length_toList, reachBytes] at hm
    exact of_decide_eq_true hm
  have sa1_7 : a1_7.size ≤ 140737488351232 := by
    have hm := List.all_eq_true.1 hsz a1_7.data.toList.length (DataW.weights_mem_each (j := 1) (t := 24) rfl rfl _ (by simp [DataW.weights, DataW.weightsEach, Try.underlying4, Try.underlying9, Try.underlying22, Try.underlying24]))
    simp only [Array.length_toList, reachBytes] at hm
    exact of_decide_eq_true hm
  clear hA0 hval0 hsz0
  refine (walk a0_0 a0_1 a0_2 a0_3 a0_4 a0_5 a0_6 a0_7 a1_0 a1_1 a1_2 a1_3 a1_4 a1_5 a1_6 a1_7 W sa0_1 ba0_2 ba0_3 sa0_4 sa0_5 sa0_6 sa0_7 sa1_1 ba1_2 ba1_3 sa1_4 sa1_5 sa1_6 sa1_7).mono fun e W' ⟨he, bel⟩ => ?_
  subst he
  exact ⟨_, rfl, _, _, _, [], _, [], hW', trodAll_mk1 (shut_bool Try.underlying4 _), (trodAll_cons_mk (Below.trod laidOut (by kernel_rfl) (of_decide_eq_true (by kernel_rfl)) k0 bel lt0) (trodAll_cons_mk (Below.trod laidOut (by kernel_rfl) (of_decide_eq_true (by kernel_rfl)) k1 bel lt1) trodAll_mk0)), rfl, bel.frame _, fun h => by cases h⟩

theorem over : Rows.metaPutsRow.holds Try.pinned (OpenSpec.ofChange Rows.metaPutsSpec) :=
  OpenClaim.holds_of_wide 3 Try.f3 rfl rfl rfl rfl rfl rfl rfl ⟨rfl, rfl, rfl, rfl, rfl⟩ rfl rfl rfl rfl rfl (by kernel_rfl) Try.func3 (by kernel_rfl)
    (of_decide_eq_true (by kernel_rfl)) (by unfold Func.isWrapper; first | (rw [if_pos (by decide +kernel)]; kernel_rfl) | (rw [if_neg (by decide +kernel)]; exact ⟨rfl, rfl⟩))
    (fun os started H enc _ => lifted os started H enc)

theorem proved : Rows.MetaPutsSaid := over
end Go.Proofs.Ytoglgdkeknojkaa.metaPuts
