/-
  SpaceOne: FOR EVERY INPUT the law returns true and leaves its arguments as they were; the package's tables are laid (a card).
-/
import Derived.Test.YtbmelmmefgehoaaDoorWl
import Derived.Test.YtbmelmmefgehoaaDoorTb
import Derived.Test.YtbmelmmefgehoaaDoorCards
import Derived.Test.YtbmelmmefgehoaaDoorTie
import Derived.Test.YtbmelmmefgehoaaDoorBulk
import Derived.JoinedCond
import Derived.WalkKit
import Derived.ProofKit
import Derived.OpenShut
import Derived.ChangeOld
import Derived.Below
import Derived.SizedLaws
import Derived.Lib.SmallJoins
import Derived.Deep.DeepHandedRow
import Derived.Lib.LaidTab
namespace Go.Proofs.YtbmelmmefgehoaaDoor.spaceOne
open Go.ChangeShapes Go.WideShapes Go.ChangeAt Go.RowKit
open Go.ChangeMaps (open_string shut_string)
set_option linter.unusedVariables false

theorem own : ownKnob Tryd.prog.godebug = none := by kernel_rfl
theorem laidOut : laidOutB Tryd.prog = true := by kernel_rfl

theorem SpotAt.newI (w : World) (k : Int) (G N D : ByteArray) : SpotAt (w.alloc (.cells #[.int .i64 k, .string G, .string N, .string D] 23)) w.heap.size k G N D :=
  ⟨by rw [World.cell?_alloc_at _ _ _ _ rfl]; rfl, by rw [World.cell?_alloc_at _ _ _ _ rfl]; rfl, by rw [World.cell?_alloc_at _ _ _ _ rfl]; rfl, by rw [World.cell?_alloc_at _ _ _ _ rfl]; rfl⟩
theorem eqb {x y : ByteArray} (h : x.toList = y.toList) : x = y := by
  rw [ByteArray.toList_eq, ByteArray.toList_eq] at h
  exact ba_ext h
theorem neb {x : Int} (h : x ≠ 0) : (x != 0) = true := by unfold bne; rw [show (x == 0) = false from by rw [beq_eq_false_iff_ne]; exact h]; rfl
set_option maxHeartbeats 4000000 in
set_option maxRecDepth 100000 in
theorem one_e (K K2 : Int) (G N D G2 N2 D2 : ByteArray) (tt uu : ByteArray) (e1 e2 : Int) (w : World) (ht : Tabs w) (hG : G.size ≤ 1048576) (hN : N.size ≤ 1048576) (hD : D.size ≤ 1048576) (hG2 : G2.size ≤ 1048576) (hN2 : N2.size ≤ 1048576) (hD2 : D2.size ≤ 1048576) (h1 : putB K G N D = (tt, e1)) (h2 : putB K2 G2 N2 D2 = (uu, e2)) (he : e1 ≠ 0) : Calls Tryd.prog 4 #[.agg #[.int .i64 K, .string G, .string N, .string D], .agg #[.int .i64 K2, .string G2, .string N2, .string D2]] w (Yes w) := by
  have P1 := fun w h => put_all K G N D w h hG hN hD
  have P2 := fun w h => put_all K2 G2 N2 D2 w h hG2 hN2 hD2
  rw [h1] at P1
  rw [h2] at P2
  replace P1 := Lib.hid P1
  replace P2 := Lib.hid P2
  have AW := Lib.hid fun w h => awake_any w h
  have y1 := neb he
  replace he := Lib.hid he
  have b0 : Below w.heap.size w ((w.alloc (.cells #[.int .i64 K, .string G, .string N, .string D] 23)).alloc (.cells #[.int .i64 K2, .string G2, .string N2, .string D2] 23)) := (ext_alloc w _).alloc (by simp) _
  have t0 := Lib.hid (ht.keep b0)
  have sa := Lib.hid ((SpotAt.newI w K G N D).keep (ext_alloc (w.alloc (.cells #[.int .i64 K, .string G, .string N, .string D] 23)) (.cells #[.int .i64 K2, .string G2, .string N2, .string D2] 23)) (by simp))
  have sb : SpotAt ((w.alloc (.cells #[.int .i64 K, .string G, .string N, .string D] 23)).alloc (.cells #[.int .i64 K2, .string G2, .string N2, .string D2] 23)) (w.heap.size + 1) K2 G2 N2 D2 := by
    have := SpotAt.newI (w.alloc (.cells #[.int .i64 K, .string G, .string N, .string D] 23)) K2 G2 N2 D2
    simpa using this
  replace sb := Lib.hid sb
  replace b0 := Lib.hid b0
  replace h1 := Lib.hid h1
  replace h2 := Lib.hid h2
  clear ht hG hN hD hG2 hN2 hD2
  go_enter Tryd.func4, Tryd.ntmps4
  go_wp2_with fail
  refine (P1.out _ t0.out).mono ?_
  rintro e w1 ⟨rfl, b1⟩
  have sa1 := sa.out.keep b1 (by simp; omega)
  have sb1 := sb.out.keep b1 (by simp)
  obtain ⟨q0, q1, q2, q3⟩ := sb1
  have t1 := Lib.hid (t0.out.keep b1)
  have B1 := Lib.hid (ext_trans b0.out b1)
  have hsz1 : w.heap.size + 2 ≤ w1.heap.size := by have := b1.size; simp at this; omega
  clear b1 t0 b0 sa sb
  go_wp2_with fail
  refine (P2.out _ t1.out).mono ?_
  rintro e w2 ⟨rfl, b2⟩
  obtain ⟨a0, a1, a2, a3⟩ := sa1.keep b2 (by omega)
  have c0 := (b2.cell (by show w.heap.size + 1 < _; omega)).trans q0
  have c1 := (b2.cell (by show w.heap.size + 1 < _; omega)).trans q1
  have c2 := (b2.cell (by show w.heap.size + 1 < _; omega)).trans q2
  have c3 := (b2.cell (by show w.heap.size + 1 < _; omega)).trans q3
  have t2 := Lib.hid (t1.out.keep b2)
  have B2 := Lib.hid (ext_trans B1.out b2)
  clear b2 B1 t1 q0 q1 q2 q3 sa1 hsz1
  go_wp2_with fail
  refine (AW.out _ t2.out).mono ?_
  rintro e w5 ⟨rfl, b5⟩
  go_wp2_with fail
  go_ret
  exact ⟨rfl, ext_trans B2.out b5⟩
set_option maxHeartbeats 4000000 in
set_option maxRecDepth 100000 in
theorem one_f (K K2 : Int) (G N D G2 N2 D2 : ByteArray) (tt uu : ByteArray) (e1 e2 : Int) (w : World) (ht : Tabs w) (hG : G.size ≤ 1048576) (hN : N.size ≤ 1048576) (hD : D.size ≤ 1048576) (hG2 : G2.size ≤ 1048576) (hN2 : N2.size ≤ 1048576) (hD2 : D2.size ≤ 1048576) (h1 : putB K G N D = (tt, e1)) (h2 : putB K2 G2 N2 D2 = (uu, e2)) (he : e1 = 0) (hf : e2 ≠ 0) : Calls Tryd.prog 4 #[.agg #[.int .i64 K, .string G, .string N, .string D], .agg #[.int .i64 K2, .string G2, .string N2, .string D2]] w (Yes w) := by
  have P1 := fun w h => put_all K G N D w h hG hN hD
  have P2 := fun w h => put_all K2 G2 N2 D2 w h hG2 hN2 hD2
  rw [h1] at P1
  rw [h2] at P2
  replace P1 := Lib.hid P1
  replace P2 := Lib.hid P2
  have AW := Lib.hid fun w h => awake_any w h
  have y1 : (e1 != 0) = false := by rw [he]; rfl
  have y2 := neb hf
  replace he := Lib.hid he
  replace hf := Lib.hid hf
  have b0 : Below w.heap.size w ((w.alloc (.cells #[.int .i64 K, .string G, .string N, .string D] 23)).alloc (.cells #[.int .i64 K2, .string G2, .string N2, .string D2] 23)) := (ext_alloc w _).alloc (by simp) _
  have t0 := Lib.hid (ht.keep b0)
  have sa := Lib.hid ((SpotAt.newI w K G N D).keep (ext_alloc (w.alloc (.cells #[.int .i64 K, .string G, .string N, .string D] 23)) (.cells #[.int .i64 K2, .string G2, .string N2, .string D2] 23)) (by simp))
  have sb : SpotAt ((w.alloc (.cells #[.int .i64 K, .string G, .string N, .string D] 23)).alloc (.cells #[.int .i64 K2, .string G2, .string N2, .string D2] 23)) (w.heap.size + 1) K2 G2 N2 D2 := by
    have := SpotAt.newI (w.alloc (.cells #[.int .i64 K, .string G, .string N, .string D] 23)) K2 G2 N2 D2
    simpa using this
  replace sb := Lib.hid sb
  replace b0 := Lib.hid b0
  replace h1 := Lib.hid h1
  replace h2 := Lib.hid h2
  clear ht hG hN hD hG2 hN2 hD2
  go_enter Tryd.func4, Tryd.ntmps4
  go_wp2_with fail
  refine (P1.out _ t0.out).mono ?_
  rintro e w1 ⟨rfl, b1⟩
  have sa1 := sa.out.keep b1 (by simp; omega)
  have sb1 := sb.out.keep b1 (by simp)
  obtain ⟨q0, q1, q2, q3⟩ := sb1
  have t1 := Lib.hid (t0.out.keep b1)
  have B1 := Lib.hid (ext_trans b0.out b1)
  have hsz1 : w.heap.size + 2 ≤ w1.heap.size := by have := b1.size; simp at this; omega
  clear b1 t0 b0 sa sb
  go_wp2_with fail
  refine (P2.out _ t1.out).mono ?_
  rintro e w2 ⟨rfl, b2⟩
  obtain ⟨a0, a1, a2, a3⟩ := sa1.keep b2 (by omega)
  have c0 := (b2.cell (by show w.heap.size + 1 < _; omega)).trans q0
  have c1 := (b2.cell (by show w.heap.size + 1 < _; omega)).trans q1
  have c2 := (b2.cell (by show w.heap.size + 1 < _; omega)).trans q2
  have c3 := (b2.cell (by show w.heap.size + 1 < _; omega)).trans q3
  have t2 := Lib.hid (t1.out.keep b2)
  have B2 := Lib.hid (ext_trans B1.out b2)
  clear b2 B1 t1 q0 q1 q2 q3 sa1 hsz1
  go_wp2_with fail
  refine (AW.out _ t2.out).mono ?_
  rintro e w5 ⟨rfl, b5⟩
  go_wp2_with fail
  go_ret
  exact ⟨rfl, ext_trans B2.out b5⟩
set_option maxHeartbeats 4000000 in
set_option maxRecDepth 100000 in
theorem one_ne (K K2 : Int) (G N D G2 N2 D2 : ByteArray) (tt uu : ByteArray) (e1 e2 : Int) (w : World) (ht : Tabs w) (hG : G.size ≤ 1048576) (hN : N.size ≤ 1048576) (hD : D.size ≤ 1048576) (hG2 : G2.size ≤ 1048576) (hN2 : N2.size ≤ 1048576) (hD2 : D2.size ≤ 1048576) (h1 : putB K G N D = (tt, e1)) (h2 : putB K2 G2 N2 D2 = (uu, e2)) (he : e1 = 0) (hf : e2 = 0) (hne : tt ≠ uu) : Calls Tryd.prog 4 #[.agg #[.int .i64 K, .string G, .string N, .string D], .agg #[.int .i64 K2, .string G2, .string N2, .string D2]] w (Yes w) := by
  have P1 := fun w h => put_all K G N D w h hG hN hD
  have P2 := fun w h => put_all K2 G2 N2 D2 w h hG2 hN2 hD2
  rw [h1] at P1
  rw [h2] at P2
  replace P1 := Lib.hid P1
  replace P2 := Lib.hid P2
  have AW := Lib.hid fun w h => awake_any w h
  have y1 : (e1 != 0) = false := by rw [he]; rfl
  have y2 : (e2 != 0) = false := by rw [hf]; rfl
  have z := ne_bytes hne
  replace he := Lib.hid he
  replace hf := Lib.hid hf
  have hdiff : ¬ (K = K2 ∧ G = G2 ∧ N = N2 ∧ D = D2) := by
    rintro ⟨rfl, rfl, rfl, rfl⟩
    rw [h1] at h2
    exact hne (congrArg Prod.fst h2)
  replace hne := Lib.hid hne
  replace hdiff := Lib.hid hdiff
  have b0 : Below w.heap.size w ((w.alloc (.cells #[.int .i64 K, .string G, .string N, .string D] 23)).alloc (.cells #[.int .i64 K2, .string G2, .string N2, .string D2] 23)) := (ext_alloc w _).alloc (by simp) _
  have t0 := Lib.hid (ht.keep b0)
  have sa := Lib.hid ((SpotAt.newI w K G N D).keep (ext_alloc (w.alloc (.cells #[.int .i64 K, .string G, .string N, .string D] 23)) (.cells #[.int .i64 K2, .string G2, .string N2, .string D2] 23)) (by simp))
  have sb : SpotAt ((w.alloc (.cells #[.int .i64 K, .string G, .string N, .string D] 23)).alloc (.cells #[.int .i64 K2, .string G2, .string N2, .string D2] 23)) (w.heap.size + 1) K2 G2 N2 D2 := by
    have := SpotAt.newI (w.alloc (.cells #[.int .i64 K, .string G, .string N, .string D] 23)) K2 G2 N2 D2
    simpa using this
  replace sb := Lib.hid sb
  replace b0 := Lib.hid b0
  replace h1 := Lib.hid h1
  replace h2 := Lib.hid h2
  clear ht hG hN hD hG2 hN2 hD2
  go_enter Tryd.func4, Tryd.ntmps4
  go_wp2_with fail
  refine (P1.out _ t0.out).mono ?_
  rintro e w1 ⟨rfl, b1⟩
  have sa1 := sa.out.keep b1 (by simp; omega)
  have sb1 := sb.out.keep b1 (by simp)
  obtain ⟨q0, q1, q2, q3⟩ := sb1
  have t1 := Lib.hid (t0.out.keep b1)
  have B1 := Lib.hid (ext_trans b0.out b1)
  have hsz1 : w.heap.size + 2 ≤ w1.heap.size := by have := b1.size; simp at this; omega
  clear b1 t0 b0 sa sb
  go_wp2_with fail
  refine (P2.out _ t1.out).mono ?_
  rintro e w2 ⟨rfl, b2⟩
  obtain ⟨a0, a1, a2, a3⟩ := sa1.keep b2 (by omega)
  have c0 := (b2.cell (by show w.heap.size + 1 < _; omega)).trans q0
  have c1 := (b2.cell (by show w.heap.size + 1 < _; omega)).trans q1
  have c2 := (b2.cell (by show w.heap.size + 1 < _; omega)).trans q2
  have c3 := (b2.cell (by show w.heap.size + 1 < _; omega)).trans q3
  have t2 := Lib.hid (t1.out.keep b2)
  have B2 := Lib.hid (ext_trans B1.out b2)
  clear b2 B1 t1 q0 q1 q2 q3 sa1 hsz1
  go_wp2_with fail
  all_goals first
    | exact absurd ⟨by assumption, eqb (by assumption), eqb (by assumption), eqb (by assumption)⟩ hdiff.out
    | (refine (AW.out _ t2.out).mono ?_; rintro e w5 ⟨rfl, b5⟩; go_wp2_with fail; go_ret; exact ⟨rfl, ext_trans B2.out b5⟩)
set_option maxHeartbeats 4000000 in
set_option maxRecDepth 100000 in
theorem one_eq (K : Int) (G N D : ByteArray) (tt : ByteArray) (e1 : Int) (w : World) (ht : Tabs w) (hG : G.size ≤ 1048576) (hN : N.size ≤ 1048576) (hD : D.size ≤ 1048576) (h1 : putB K G N D = (tt, e1)) (he : e1 = 0) : Calls Tryd.prog 4 #[.agg #[.int .i64 K, .string G, .string N, .string D], .agg #[.int .i64 K, .string G, .string N, .string D]] w (Yes w) := by
  have P1 := fun w h => put_all K G N D w h hG hN hD
  have P2 := fun w h => put_all K G N D w h hG hN hD
  rw [h1] at P1
  rw [h1] at P2
  replace P1 := Lib.hid P1
  replace P2 := Lib.hid P2
  have AW := Lib.hid fun w h => awake_any w h
  have y1 : (e1 != 0) = false := by rw [he]; rfl
  replace he := Lib.hid he
  have b0 : Below w.heap.size w ((w.alloc (.cells #[.int .i64 K, .string G, .string N, .string D] 23)).alloc (.cells #[.int .i64 K, .string G, .string N, .string D] 23)) := (ext_alloc w _).alloc (by simp) _
  have t0 := Lib.hid (ht.keep b0)
  have sa := Lib.hid ((SpotAt.newI w K G N D).keep (ext_alloc (w.alloc (.cells #[.int .i64 K, .string G, .string N, .string D] 23)) (.cells #[.int .i64 K, .string G, .string N, .string D] 23)) (by simp))
  have sb : SpotAt ((w.alloc (.cells #[.int .i64 K, .string G, .string N, .string D] 23)).alloc (.cells #[.int .i64 K, .string G, .string N, .string D] 23)) (w.heap.size + 1) K G N D := by
    have := SpotAt.newI (w.alloc (.cells #[.int .i64 K, .string G, .string N, .string D] 23)) K G N D
    simpa using this
  replace sb := Lib.hid sb
  replace b0 := Lib.hid b0
  replace h1 := Lib.hid h1
  clear ht hG hN hD
  go_enter Tryd.func4, Tryd.ntmps4
  go_wp2_with fail
  refine (P1.out _ t0.out).mono ?_
  rintro e w1 ⟨rfl, b1⟩
  have sa1 := sa.out.keep b1 (by simp; omega)
  have sb1 := sb.out.keep b1 (by simp)
  obtain ⟨q0, q1, q2, q3⟩ := sb1
  have t1 := Lib.hid (t0.out.keep b1)
  have B1 := Lib.hid (ext_trans b0.out b1)
  have hsz1 : w.heap.size + 2 ≤ w1.heap.size := by have := b1.size; simp at this; omega
  clear b1 t0 b0 sa sb
  go_wp2_with fail
  refine (P2.out _ t1.out).mono ?_
  rintro e w2 ⟨rfl, b2⟩
  obtain ⟨a0, a1, a2, a3⟩ := sa1.keep b2 (by omega)
  have c0 := (b2.cell (by show w.heap.size + 1 < _; omega)).trans q0
  have c1 := (b2.cell (by show w.heap.size + 1 < _; omega)).trans q1
  have c2 := (b2.cell (by show w.heap.size + 1 < _; omega)).trans q2
  have c3 := (b2.cell (by show w.heap.size + 1 < _; omega)).trans q3
  have t2 := Lib.hid (t1.out.keep b2)
  have B2 := Lib.hid (ext_trans B1.out b2)
  clear b2 B1 t1 q0 q1 q2 q3 sa1 hsz1
  go_wp2_with fail
  refine (AW.out _ t2.out).mono ?_
  rintro e w5 ⟨rfl, b5⟩
  go_wp2_with fail
  go_ret
  exact ⟨rfl, ext_trans B2.out b5⟩
theorem walk (K : Int) (G N D : ByteArray) (K2 : Int) (G2 N2 D2 : ByteArray) (w : World) (ht : Tabs w) (bk : -9223372036854775808 ≤ K ∧ K ≤ 9223372036854775807) (hG : G.size ≤ 1048576) (hN : N.size ≤ 1048576) (hD : D.size ≤ 1048576) (bk2 : -9223372036854775808 ≤ K2 ∧ K2 ≤ 9223372036854775807) (hG2 : G2.size ≤ 1048576) (hN2 : N2.size ≤ 1048576) (hD2 : D2.size ≤ 1048576) : Calls Tryd.prog 4 #[.agg #[.int .i64 K, .string G, .string N, .string D], .agg #[.int .i64 K2, .string G2, .string N2, .string D2]] w (Yes w) := by
  by_cases he : (putB K G N D).2 = 0
  · by_cases hf : (putB K2 G2 N2 D2).2 = 0
    · by_cases hq : (putB K G N D).1 = (putB K2 G2 N2 D2).1
      · have h1 : putB K G N D = ((putB K G N D).1, 0) := by rw [← he]
        have h2 : putB K2 G2 N2 D2 = ((putB K G N D).1, 0) := by rw [hq, ← hf]
        obtain ⟨k, rfl, o1⟩ := of_put h1
        obtain ⟨k2, rfl, o2⟩ := of_put h2
        rw [o1, Sp.mk.injEq] at o2
        obtain ⟨rfl, rfl, rfl, rfl⟩ := o2
        exact one_eq _ G N D _ _ w ht hG hN hD rfl he
      · exact one_ne K K2 G N D G2 N2 D2 _ _ _ _ w ht hG hN hD hG2 hN2 hD2 rfl rfl he hf hq
    · exact one_f K K2 G N D G2 N2 D2 _ _ _ _ w ht hG hN hD hG2 hN2 hD2 rfl rfl he hf
  · exact one_e K K2 G N D G2 N2 D2 _ _ _ _ w ht hG hN hD hG2 hN2 hD2 rfl rfl he

theorem contract (F : Stop.Interp) (H : Type) (enc : TypeId × Value → H) (W : World) (base : Nat) (args : Array Value) (ds gs : List (DataW H)) (before : List MemPlace)
    (hval : ∀ (j : Nat) t v, Tryd.f4.params[j]? = some t → args[j]? = some v → Value.okWide Tryd.prog W .any base t v)
    (hW : DataW.Whole enc Tryd.prog Tryd.f4.params.toList Rows.spaceOneSpec.vars false W args.toList ds gs before)
    (hk : Rows.uptoSmall H (ds ++ gs) = true)
    (hsz : (DataW.weightsEach Tryd.prog (Tryd.f4.params.toList ++ (Rows.OpenSpec.upto Rows.spaceOneSpec).bare.plain.varTypes Tryd.prog) (ds ++ gs)).all (· ≤ reachBytes) = true) (hL : laidMetH Tryd.prog Rows.spaceOneUptoRow.laid W) :
    Calls Tryd.prog 4 args W fun e W' => ∃ v, e = .returned v ∧ ((Rows.OpenSpec.upto Rows.spaceOneSpec).at F).post enc Tryd.prog Tryd.f4 false true false false W args v W' := by
  have hW' := hW
  obtain ⟨p, q, hA0, hV, rfl, hfz, hnd⟩ := hW
  have hA : DataW.TrodAll enc Tryd.prog W 0 (fun _ => true) true Tryd.f4.params.toList args.toList ds p := hA0
  rw [Tryd.params4] at hA hval hsz
  obtain ⟨v0, vs0, d0, ds0, p0, q0, hargs, rfl, rfl, h0, r0⟩ := trodAll_cons hA
  obtain ⟨v1, vs1, d1, ds1, p1, q1, rfl, rfl, rfl, h1, r1⟩ := trodAll_cons r0
  obtain ⟨rfl, rfl, rfl⟩ := trodAll_nil r1
  obtain rfl : args = #[v0, v1] := by cases args; simp_all
  obtain ⟨rfl, rfl⟩ := trodVars_none hV
  have hb0 : Rows.uptoBulk d0 ≤ 1048576 := bulks.le hk (by simp)
  have hb1 : Rows.uptoBulk d1 ≤ 1048576 := bulks.le hk (by simp)
  have k0 := h0
  have lt0 : ∀ x ∈ p0, x.block < W.heap.size := by obtain ⟨m, hm⟩ := k0; exact DataW.trod_lt m _ _ _ hm
  have k1 := h1
  have lt1 : ∀ x ∈ p1, x.block < W.heap.size := by obtain ⟨m, hm⟩ := k1; exact DataW.trod_lt m _ _ _ hm
  obtain ⟨x0_0, x0_1, x0_2, x0_3, y0_0, y0_1, y0_2, y0_3, n0, rfl, rfl, rfl, t0_0, t0_1, t0_2, t0_3⟩ := Joins.open_agg4 Tryd.underlying23 (by kernel_rfl) (by kernel_rfl) (hval 0 23 _ rfl rfl) h0
  obtain ⟨a0_0, q0_0, z0_0, w0_0⟩ := DataW.trod_int Tryd.underlying3 t0_0
  obtain rfl : x0_0 = .int .i64 a0_0 := by simpa using q0_0
  have b0_0 := wf_i64 w0_0
  obtain ⟨a0_1, q0_1, z0_1, w0_1⟩ := DataW.trod_string Tryd.underlying9 t0_1
  obtain rfl : x0_1 = .string a0_1 := by simpa using q0_1
  obtain ⟨a0_2, q0_2, z0_2, w0_2⟩ := DataW.trod_string Tryd.underlying9 t0_2
  obtain rfl : x0_2 = .string a0_2 := by simpa using q0_2
  obtain ⟨a0_3, q0_3, z0_3, w0_3⟩ := DataW.trod_string Tryd.underlying9 t0_3
  obtain rfl : x0_3 = .string a0_3 := by simpa using q0_3
  have s0_1 : a0_1.size ≤ 1048576 := by
    have h1 := hb0
    simp only [z0_0, z0_1, z0_2, z0_3, Rows.uptoBulk, Rows.uptoBulkAll, Array.length_toList] at h1
    show a0_1.data.size ≤ 1048576
    omega
  have s0_2 : a0_2.size ≤ 1048576 := by
    have h1 := hb0
    simp only [z0_0, z0_1, z0_2, z0_3, Rows.uptoBulk, Rows.uptoBulkAll, Array.length_toList] at h1
    show a0_2.data.size ≤ 1048576
    omega
  have s0_3 : a0_3.size ≤ 1048576 := by
    have h1 := hb0
    simp only [z0_0, z0_1, z0_2, z0_3, Rows.uptoBulk, Rows.uptoBulkAll, Array.length_toList] at h1
    show a0_3.data.size ≤ 1048576
    omega
  obtain ⟨x1_0, x1_1, x1_2, x1_3, y1_0, y1_1, y1_2, y1_3, n1, rfl, rfl, rfl, t1_0, t1_1, t1_2, t1_3⟩ := Joins.open_agg4 Tryd.underlying23 (by kernel_rfl) (by kernel_rfl) (hval 1 23 _ rfl rfl) h1
  obtain ⟨a1_0, q1_0, z1_0, w1_0⟩ := DataW.trod_int Tryd.underlying3 t1_0
  obtain rfl : x1_0 = .int .i64 a1_0 := by simpa using q1_0
  have b1_0 := wf_i64 w1_0
  obtain ⟨a1_1, q1_1, z1_1, w1_1⟩ := DataW.trod_string Tryd.underlying9 t1_1
  obtain rfl : x1_1 = .string a1_1 := by simpa using q1_1
  obtain ⟨a1_2, q1_2, z1_2, w1_2⟩ := DataW.trod_string Tryd.underlying9 t1_2
  obtain rfl : x1_2 = .string a1_2 := by simpa using q1_2
  obtain ⟨a1_3, q1_3, z1_3, w1_3⟩ := DataW.trod_string Tryd.underlying9 t1_3
  obtain rfl : x1_3 = .string a1_3 := by simpa using q1_3
  have s1_1 : a1_1.size ≤ 1048576 := by
    have h1 := hb1
    simp only [z1_0, z1_1, z1_2, z1_3, Rows.uptoBulk, Rows.uptoBulkAll, Array.length_toList] at h1
    show a1_1.data.size ≤ 1048576
    omega
  have s1_2 : a1_2.size ≤ 1048576 := by
    have h1 := hb1
    simp only [z1_0, z1_1, z1_2, z1_3, Rows.uptoBulk, Rows.uptoBulkAll, Array.length_toList] at h1
    show a1_2.data.size ≤ 1048576
    omega
  have s1_3 : a1_3.size ≤ 1048576 := by
    have h1 := hb1
    simp only [z1_0, z1_1, z1_2, z1_3, Rows.uptoBulk, Rows.uptoBulkAll, Array.length_toList] at h1
    show a1_3.data.size ≤ 1048576
    omega
  clear hA0
  refine (walk a0_0 a0_1 a0_2 a0_3 a1_0 a1_1 a1_2 a1_3 W (tabs_of hL) b0_0 s0_1 s0_2 s0_3 b1_0 s1_1 s1_2 s1_3).mono fun e W' ⟨he, bel⟩ => ?_
  subst he
  exact ⟨_, rfl, _, _, _, [], _, [], hW', trodAll_mk1 (shut_bool Tryd.underlying4 _), (trodAll_cons_mk (Below.trod laidOut (by kernel_rfl) (of_decide_eq_true (by kernel_rfl)) k0 bel lt0) (trodAll_cons_mk (Below.trod laidOut (by kernel_rfl) (of_decide_eq_true (by kernel_rfl)) k1 bel lt1) trodAll_mk0)), rfl, bel.frame _, fun h => by cases h⟩

/-- A world for the witness: the settled one, the tables holding what their initialisers lay. -/
noncomputable def laidWorld (os : Os) : World :=
  { World.holding Tryd.prog os ⟨#[], #[], []⟩ with heap := ((World.holding Tryd.prog os ⟨#[], #[], []⟩).heap.modify 0 (fun
      | .cells _ t frozen => .cells #[.string ⟨#[]⟩, .int .i64 0, .string ⟨#[78, 66, 73, 82, 84, 72]⟩, .int .i64 1, .string ⟨#[78, 68, 69, 65, 84, 72]⟩, .int .i64 1, .string ⟨#[78, 68, 65, 84, 65]⟩, .int .i64 1, .string ⟨#[78, 67, 77, 68]⟩, .int .i64 1, .string ⟨#[68, 66, 73, 82, 84, 72]⟩, .int .i64 3, .string ⟨#[68, 68, 69, 65, 84, 72]⟩, .int .i64 3, .string ⟨#[68, 68, 65, 84, 65]⟩, .int .i64 3, .string ⟨#[68, 67, 77, 68]⟩, .int .i64 3, .string ⟨#[83, 84, 65, 84, 69]⟩, .int .i64 0] t frozen
      | o => o)) }
theorem laid_met (os : Os) : laidMet Tryd.prog Rows.spaceOneUptoRow.laid ((laidWorld os).forCall (fun _ _ => 0) ⟨#[], #[.agg #[.int .i64 0, .string ByteArray.empty, .string ByteArray.empty, .string ByteArray.empty], .agg #[.int .i64 0, .string ByteArray.empty, .string ByteArray.empty, .string ByteArray.empty]], []⟩).memory :=
  laidMet_of_run' 8 (by kernel_rfl) (by kernel_rfl)
theorem reads (os : Os) {H : Type} (enc : TypeId × Value → H) : ∃ places, DataW.whole enc Tryd.prog ((laidWorld os).forCall (fun _ _ => 0) ⟨#[], #[.agg #[.int .i64 0, .string ByteArray.empty, .string ByteArray.empty, .string ByteArray.empty], .agg #[.int .i64 0, .string ByteArray.empty, .string ByteArray.empty, .string ByteArray.empty]], []⟩).memory Tryd.f4.params.toList Rows.spaceOneSpec.vars false #[Value.agg #[.int .i64 0, .string ByteArray.empty, .string ByteArray.empty, .string ByteArray.empty], .agg #[.int .i64 0, .string ByteArray.empty, .string ByteArray.empty, .string ByteArray.empty]].toList 8 = some ([.agg [.lit (.int .i64 0), .lit (.string []), .lit (.string []), .lit (.string [])], .agg [.lit (.int .i64 0), .lit (.string []), .lit (.string []), .lit (.string [])]], [], places) :=
  ⟨[], by kernel_rfl⟩

set_option maxRecDepth 100000 in
theorem lifted (os : Os) (started : os.Started) (H : Type) (enc : TypeId × Value → H) (F : Stop.Interp) :
    ReturnsInHanded {} Tryd.checked os 4 .any ((Rows.OpenSpec.upto Rows.spaceOneSpec).preRow enc Tryd.prog Tryd.f4 Rows.spaceOneUptoRow.domain false Rows.spaceOneUptoRow.laid) (((Rows.OpenSpec.upto Rows.spaceOneSpec).at F).post enc Tryd.prog Tryd.f4 false true false false) := by
  obtain ⟨places, hx⟩ := reads os enc
  refine returnsInHanded_of_row (C := Tryd.checked) (s := (Rows.OpenSpec.upto Rows.spaceOneSpec)) own started (by kernel_rfl) Tryd.func4
    (witness_row_at (enc := enc) (C := Tryd.checked) false (laidWorld os) #[.agg #[.int .i64 0, .string ByteArray.empty, .string ByteArray.empty, .string ByteArray.empty], .agg #[.int .i64 0, .string ByteArray.empty, .string ByteArray.empty, .string ByteArray.empty]] rfl (by kernel_rfl) (by kernel_rfl) (by kernel_rfl)
      (OpenSpec.preRow_of_cond 8 hx (by kernel_rfl) (fun k hk => by cases hk; kernel_rfl) (by kernel_rfl) (laid_met os))) ?_
  intro W base args ds gs before hval hW _ hcnd hsz hL _ _
  exact contract F H enc W base args ds gs before hval hW (hcnd _ rfl) hsz hL

theorem said : Rows.SpaceOneUptoSaid :=
  OpenClaim.holds_of_cond 4 Tryd.f4 rfl rfl rfl rfl rfl rfl rfl ⟨rfl, rfl, rfl, rfl, rfl⟩ rfl rfl rfl rfl rfl (by kernel_rfl) Tryd.func4 (by kernel_rfl)
    (of_decide_eq_true (by kernel_rfl)) (by unfold Func.isWrapper; first | (rw [if_pos (by decide +kernel)]; kernel_rfl) | (rw [if_neg (by decide +kernel)]; exact ⟨rfl, rfl⟩))
    (fun os started H enc _ F => by rw [OpenClaim.pre_eq_preRow]; exact lifted os started H enc F)

theorem plain (f : FuncId) (fn : Func) (hf : Tryd.pinned.checked.prog.funcNamed "crier/crierlaw20.SpaceOne" = some f) (hfn : Tryd.pinned.checked.prog.funcs[f]? = some fn) :
    false = Tryd.pinned.checked.prog.looks [] ∧ ∀ (j : Nat) t, fn.params[j]? = some t → Tryd.pinned.checked.prog.wantsStandIn t = false := by
  obtain rfl : f = 4 := Option.some.inj ((show Tryd.prog.funcNamed "crier/crierlaw20.SpaceOne" = some 4 by kernel_rfl).symm.trans hf) |>.symm
  obtain rfl : fn = Tryd.f4 := (Option.some.inj (Tryd.func4.symm.trans hfn)).symm
  refine ⟨by kernel_rfl, fun j t ht => ?_⟩
  rw [Tryd.params4] at ht
  obtain rfl : t = 23 := by have := Array.mem_of_getElem? ht; simpa using this
  exact (show Tryd.prog.wantsStandIn 23 = false by kernel_rfl)

/-- THE CARD. -/
theorem proved : Rows.SpaceOneUptoCardSaid :=
  Claim7.holds_tied_plain_at .later [] _ _ _ _ said (fun _ h => by cases h) (by kernel_rfl) (fun _ h => by cases h) spaceOneUpto_row_tie rfl ⟨rfl, rfl⟩ (by kernel_rfl) rfl plain (by kernel_rfl)
end Go.Proofs.YtbmelmmefgehoaaDoor.spaceOne
