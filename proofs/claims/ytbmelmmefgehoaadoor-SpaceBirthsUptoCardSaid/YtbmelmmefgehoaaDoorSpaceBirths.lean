/-
  SpaceBirths: FOR EVERY INPUT the law returns true and leaves its arguments as they were; the package's tables are laid (a card).
-/
import Derived.Test.YtbmelmmefgehoaaDoorWl
import Derived.Test.YtbmelmmefgehoaaDoorTb
import Derived.Test.YtbmelmmefgehoaaDoorCards
import Derived.Test.YtbmelmmefgehoaaDoorTie
import Derived.Test.YtbmelmmefgehoaaDoorBulk
import Derived.JoinedCond
import Derived.WalkKit
import Derived.ProofKit
import Derived.OpenShut
import Derived.ChangeOld
import Derived.Below
import Derived.SizedLaws
import Derived.Lib.SmallJoins
import Derived.Deep.DeepHandedRow
import Derived.Lib.LaidTab
namespace Go.Proofs.YtbmelmmefgehoaaDoor.spaceBirths
open Go.ChangeShapes Go.WideShapes Go.ChangeAt Go.RowKit
open Go.ChangeMaps (open_string shut_string)
set_option linter.unusedVariables false

theorem own : ownKnob Tryd.prog.godebug = none := by kernel_rfl
theorem laidOut : laidOutB Tryd.prog = true := by kernel_rfl

theorem SpotAt.newI (w : World) (k : Int) (G N D : ByteArray) : SpotAt (w.alloc (.cells #[.int .i64 k, .string G, .string N, .string D] 23)) w.heap.size k G N D :=
  ⟨by rw [World.cell?_alloc_at _ _ _ _ rfl]; rfl, by rw [World.cell?_alloc_at _ _ _ _ rfl]; rfl, by rw [World.cell?_alloc_at _ _ _ _ rfl]; rfl, by rw [World.cell?_alloc_at _ _ _ _ rfl]; rfl⟩
theorem ok_ne {t : ByteArray} (h : nameB t = true) : t ≠ ⟨#[]⟩ := by
  rintro rfl
  exact absurd h (by decide)
theorem ok_size {t : ByteArray} (h : nameB t = true) : t.size ≤ 1048576 := Nat.le_trans (name_small h) (by decide)
set_option maxHeartbeats 4000000 in
set_option maxRecDepth 100000 in
theorem bi_no (K : Int) (G N D : ByteArray)  (w : World) (ht : Tabs w) (hG : G.size ≤ 1048576) (hN : N.size ≤ 1048576) (hD : D.size ≤ 1048576) (hb : birthsB K G N D = (⟨#[]⟩, ⟨#[]⟩)) : Calls Tryd.prog 6 #[.agg #[.int .i64 K, .string G, .string N, .string D]] w (Yes w) := by
  have BI := fun w h => births_any K G N D w h hG hN hD
  have AW := Lib.hid fun w h => awake_any w h
  rw [hb] at BI
  have ON := fun w h => of_any ⟨#[]⟩ w h (by decide)
  generalize ofB ⟨#[]⟩ = x at *
  have OD := ON
  replace hb := Lib.hid hb
  replace BI := Lib.hid BI
  replace ON := Lib.hid ON
  replace OD := Lib.hid OD
  have b0 := ext_alloc w (.cells #[.int .i64 K, .string G, .string N, .string D] 23)
  have t0 := Lib.hid (ht.keep b0)
  have s0 := Lib.hid (SpotAt.newI w K G N D)
  replace b0 := Lib.hid b0
  clear ht hG hN hD
  go_enter Tryd.func6, Tryd.ntmps6
  go_wp2_with fail
  refine (BI.out _ t0.out).mono ?_
  rintro e w1 ⟨rfl, b1⟩
  have s1 := Lib.hid (s0.out.keep b1 (by simp))
  have t1 := Lib.hid (t0.out.keep b1)
  have B1 := Lib.hid (ext_trans b0.out b1)
  have z1 : w.heap.size + 1 ≤ w1.heap.size := by have := b1.size; simp at this; omega
  clear b1 s0 t0 b0
  go_wp2_with fail
  refine (ON.out _ t1.out).mono ?_
  rintro e w2 ⟨rfl, b2⟩
  have s2 := s1.out.keep b2 (by omega)
  have z2 : w.heap.size + 1 ≤ w2.heap.size := by have := b2.size; omega
  have n2 : w.heap.size ≠ w2.heap.size := by omega
  have t2 := t1.out.keep b2
  have B2 := ext_trans B1.out b2
  have k3 := ext_alloc w2 (.cells #[.int .i64 (x.K : Int), .string x.G, .string x.N, .string x.D] 23)
  have s3 := Lib.hid (s2.keep k3 (by omega))
  have x3 := Lib.hid (SpotAt.newI w2 (x.K : Int) x.G x.N x.D)
  have t3 := Lib.hid (t2.keep k3)
  have B3 := Lib.hid (ext_trans B2 k3)
  clear b2 s1 t1 B1 t2 B2 k3 s2
  go_wp2_with fail
  refine (OD.out _ t3.out).mono ?_
  rintro e w4 ⟨rfl, b4⟩
  have s4 := s3.out.keep b4 (by simp; omega)
  have x4 := x3.out.keep b4 (by simp)
  have t4 := t3.out.keep b4
  have z4 : w2.heap.size + 1 ≤ w4.heap.size := by have := b4.size; simp at this; omega
  have B4 := ext_trans B3.out b4
  have k5 := ext_alloc w4 (.cells #[.int .i64 (x.K : Int), .string x.G, .string x.N, .string x.D] 23)
  have s5 := s4.keep k5 (by omega)
  have x5 := x4.keep k5 (by omega)
  have y5 := SpotAt.newI w4 (x.K : Int) x.G x.N x.D
  obtain ⟨p0, p1, p2, p3⟩ := s4
  obtain ⟨q0, q1, q2, q3⟩ := x4
  obtain ⟨g0, g1, g2, g3⟩ := s5
  obtain ⟨h0, h1, h2, h3⟩ := x5
  obtain ⟨i0, i1, i2, i3⟩ := y5
  have n5 : w.heap.size ≠ w4.heap.size := by omega
  have n6 : w2.heap.size ≠ w4.heap.size := by omega
  have t5 := Lib.hid (t4.keep k5)
  have B5 := Lib.hid (ext_trans B4 k5)
  clear b4 s3 x3 t3 B3 t4 B4 k5
  go_wp2_with fail
  refine (AW.out _ t5.out).mono ?_
  rintro e w6 ⟨rfl, b6⟩
  go_wp2_with fail
  go_ret
  exact ⟨rfl, ext_trans B5.out b6⟩
set_option maxHeartbeats 4000000 in
set_option maxRecDepth 100000 in
theorem bi_node (K : Int) (G N : ByteArray) (tt : ByteArray) (w : World) (ht : Tabs w) (hG : G.size ≤ 1048576) (hN : N.size ≤ 1048576) (hb : birthsB K G N ⟨#[]⟩ = (tt, ⟨#[]⟩)) (hn : nameB tt = true) (ho : ofB tt = ⟨1, G, N, ⟨#[]⟩⟩) : Calls Tryd.prog 6 #[.agg #[.int .i64 K, .string G, .string N, .string ⟨#[]⟩]] w (Yes w) := by
  have BI := fun w h => births_any K G N ⟨#[]⟩ w h hG hN (by decide)
  have AW := Lib.hid fun w h => awake_any w h
  rw [hb] at BI
  have ON := fun w h => of_any tt w h (ok_size hn)
  rw [ho] at ON
  change ∀ w, Tabs w → Calls Tryd.prog 8 #[.string tt] w (OfIs ⟨1, G, N, ⟨#[]⟩⟩ w) at ON
  have OD := fun w h => of_any ⟨#[]⟩ w h (by decide)
  generalize ofB ⟨#[]⟩ = y at *
  have q := ne_empty (ok_ne hn)
  replace hb := Lib.hid hb
  replace hn := Lib.hid hn
  replace ho := Lib.hid ho
  replace BI := Lib.hid BI
  replace ON := Lib.hid ON
  replace OD := Lib.hid OD
  have b0 := ext_alloc w (.cells #[.int .i64 K, .string G, .string N, .string ⟨#[]⟩] 23)
  have t0 := Lib.hid (ht.keep b0)
  have s0 := Lib.hid (SpotAt.newI w K G N ⟨#[]⟩)
  replace b0 := Lib.hid b0
  clear ht hG hN
  go_enter Tryd.func6, Tryd.ntmps6
  go_wp2_with fail
  refine (BI.out _ t0.out).mono ?_
  rintro e w1 ⟨rfl, b1⟩
  have s1 := Lib.hid (s0.out.keep b1 (by simp))
  have t1 := Lib.hid (t0.out.keep b1)
  have B1 := Lib.hid (ext_trans b0.out b1)
  have z1 : w.heap.size + 1 ≤ w1.heap.size := by have := b1.size; simp at this; omega
  clear b1 s0 t0 b0
  go_wp2_with fail
  refine (ON.out _ t1.out).mono ?_
  rintro e w2 ⟨rfl, b2⟩
  have s2 := s1.out.keep b2 (by omega)
  have z2 : w.heap.size + 1 ≤ w2.heap.size := by have := b2.size; omega
  have n2 : w.heap.size ≠ w2.heap.size := by omega
  have t2 := t1.out.keep b2
  have B2 := ext_trans B1.out b2
  have k3 := ext_alloc w2 (.cells #[.int .i64 1, .string G, .string N, .string ⟨#[]⟩] 23)
  have s3 := Lib.hid (s2.keep k3 (by omega))
  have x3 := Lib.hid (SpotAt.newI w2 1 G N ⟨#[]⟩)
  have t3 := Lib.hid (t2.keep k3)
  have B3 := Lib.hid (ext_trans B2 k3)
  clear b2 s1 t1 B1 t2 B2 k3 s2
  go_wp2_with fail
  refine (OD.out _ t3.out).mono ?_
  rintro e w4 ⟨rfl, b4⟩
  have s4 := s3.out.keep b4 (by simp; omega)
  have x4 := x3.out.keep b4 (by simp)
  have t4 := t3.out.keep b4
  have z4 : w2.heap.size + 1 ≤ w4.heap.size := by have := b4.size; simp at this; omega
  have B4 := ext_trans B3.out b4
  have k5 := ext_alloc w4 (.cells #[.int .i64 (y.K : Int), .string y.G, .string y.N, .string y.D] 23)
  have s5 := s4.keep k5 (by omega)
  have x5 := x4.keep k5 (by omega)
  have y5 := SpotAt.newI w4 (y.K : Int) y.G y.N y.D
  obtain ⟨p0, p1, p2, p3⟩ := s4
  obtain ⟨q0, q1, q2, q3⟩ := x4
  obtain ⟨g0, g1, g2, g3⟩ := s5
  obtain ⟨h0, h1, h2, h3⟩ := x5
  obtain ⟨i0, i1, i2, i3⟩ := y5
  have n5 : w.heap.size ≠ w4.heap.size := by omega
  have n6 : w2.heap.size ≠ w4.heap.size := by omega
  have t5 := Lib.hid (t4.keep k5)
  have B5 := Lib.hid (ext_trans B4 k5)
  clear b4 s3 x3 t3 B3 t4 B4 k5
  go_wp2_with fail
  refine (AW.out _ t5.out).mono ?_
  rintro e w6 ⟨rfl, b6⟩
  go_wp2_with fail
  go_ret
  exact ⟨rfl, ext_trans B5.out b6⟩
set_option maxHeartbeats 4000000 in
set_option maxRecDepth 100000 in
theorem bi_both (K : Int) (G N D : ByteArray) (tt uu : ByteArray) (w : World) (ht : Tabs w) (hG : G.size ≤ 1048576) (hN : N.size ≤ 1048576) (hD : D.size ≤ 1048576) (hb : birthsB K G N D = (tt, uu)) (hn : nameB tt = true) (ho : ofB tt = ⟨1, G, N, ⟨#[]⟩⟩) (hn2 : nameB uu = true) (ho2 : ofB uu = ⟨5, G, N, D⟩) (hd : D ≠ ⟨#[]⟩) : Calls Tryd.prog 6 #[.agg #[.int .i64 K, .string G, .string N, .string D]] w (Yes w) := by
  have BI := fun w h => births_any K G N D w h hG hN hD
  have AW := Lib.hid fun w h => awake_any w h
  rw [hb] at BI
  have ON := fun w h => of_any tt w h (ok_size hn)
  rw [ho] at ON
  change ∀ w, Tabs w → Calls Tryd.prog 8 #[.string tt] w (OfIs ⟨1, G, N, ⟨#[]⟩⟩ w) at ON
  have OD := fun w h => of_any uu w h (ok_size hn2)
  rw [ho2] at OD
  change ∀ w, Tabs w → Calls Tryd.prog 8 #[.string uu] w (OfIs ⟨5, G, N, D⟩ w) at OD
  have q := ne_empty (ok_ne hn)
  have qd := ne_empty hd
  replace hb := Lib.hid hb
  replace hn := Lib.hid hn
  replace ho := Lib.hid ho
  replace hn2 := Lib.hid hn2
  replace ho2 := Lib.hid ho2
  replace hd := Lib.hid hd
  replace BI := Lib.hid BI
  replace ON := Lib.hid ON
  replace OD := Lib.hid OD
  have b0 := ext_alloc w (.cells #[.int .i64 K, .string G, .string N, .string D] 23)
  have t0 := Lib.hid (ht.keep b0)
  have s0 := Lib.hid (SpotAt.newI w K G N D)
  replace b0 := Lib.hid b0
  clear ht hG hN hD
  go_enter Tryd.func6, Tryd.ntmps6
  go_wp2_with fail
  refine (BI.out _ t0.out).mono ?_
  rintro e w1 ⟨rfl, b1⟩
  have s1 := Lib.hid (s0.out.keep b1 (by simp))
  have t1 := Lib.hid (t0.out.keep b1)
  have B1 := Lib.hid (ext_trans b0.out b1)
  have z1 : w.heap.size + 1 ≤ w1.heap.size := by have := b1.size; simp at this; omega
  clear b1 s0 t0 b0
  go_wp2_with fail
  refine (ON.out _ t1.out).mono ?_
  rintro e w2 ⟨rfl, b2⟩
  have s2 := s1.out.keep b2 (by omega)
  have z2 : w.heap.size + 1 ≤ w2.heap.size := by have := b2.size; omega
  have n2 : w.heap.size ≠ w2.heap.size := by omega
  have t2 := t1.out.keep b2
  have B2 := ext_trans B1.out b2
  have k3 := ext_alloc w2 (.cells #[.int .i64 1, .string G, .string N, .string ⟨#[]⟩] 23)
  have s3 := Lib.hid (s2.keep k3 (by omega))
  have x3 := Lib.hid (SpotAt.newI w2 1 G N ⟨#[]⟩)
  have t3 := Lib.hid (t2.keep k3)
  have B3 := Lib.hid (ext_trans B2 k3)
  clear b2 s1 t1 B1 t2 B2 k3 s2
  go_wp2_with fail
  refine (OD.out _ t3.out).mono ?_
  rintro e w4 ⟨rfl, b4⟩
  have s4 := s3.out.keep b4 (by simp; omega)
  have x4 := x3.out.keep b4 (by simp)
  have t4 := t3.out.keep b4
  have z4 : w2.heap.size + 1 ≤ w4.heap.size := by have := b4.size; simp at this; omega
  have B4 := ext_trans B3.out b4
  have k5 := ext_alloc w4 (.cells #[.int .i64 5, .string G, .string N, .string D] 23)
  have s5 := s4.keep k5 (by omega)
  have x5 := x4.keep k5 (by omega)
  have y5 := SpotAt.newI w4 5 G N D
  obtain ⟨p0, p1, p2, p3⟩ := s4
  obtain ⟨q0, q1, q2, q3⟩ := x4
  obtain ⟨g0, g1, g2, g3⟩ := s5
  obtain ⟨h0, h1, h2, h3⟩ := x5
  obtain ⟨i0, i1, i2, i3⟩ := y5
  have n5 : w.heap.size ≠ w4.heap.size := by omega
  have n6 : w2.heap.size ≠ w4.heap.size := by omega
  have t5 := Lib.hid (t4.keep k5)
  have B5 := Lib.hid (ext_trans B4 k5)
  clear b4 s3 x3 t3 B3 t4 B4 k5
  go_wp2_with fail
  refine (AW.out _ t5.out).mono ?_
  rintro e w6 ⟨rfl, b6⟩
  go_wp2_with fail
  go_ret
  exact ⟨rfl, ext_trans B5.out b6⟩
theorem of_put1 {k : Int} {j : Nat} {G N D t : ByteArray} (h : putB k G N D = (t, 0)) (hk : k = j) : nameB t = true ∧ ofB t = ⟨j, G, N, D⟩ := by
  obtain ⟨i, e, ho⟩ := of_put h
  obtain ⟨-, -, -, -, -, -, -, hn, -⟩ := put_inv h
  have : i = j := by omega
  exact ⟨hn, by rw [ho, this]⟩
theorem walk (K : Int) (G N D : ByteArray) (w : World) (ht : Tabs w) (bk : -9223372036854775808 ≤ K ∧ K ≤ 9223372036854775807) (hG : G.size ≤ 1048576) (hN : N.size ≤ 1048576) (hD : D.size ≤ 1048576) : Calls Tryd.prog 6 #[.agg #[.int .i64 K, .string G, .string N, .string D]] w (Yes w) := by
  by_cases h0 : K = 0 ∨ K = 9
  · exact bi_no K G N D w ht hG hN hD (by unfold birthsB; rw [if_pos h0])
  by_cases h1 : (putB 1 G N ⟨#[]⟩).2 = 0
  · have e1 : putB 1 G N ⟨#[]⟩ = ((putB 1 G N ⟨#[]⟩).1, 0) := by rw [← h1]
    obtain ⟨hn, ho⟩ := of_put1 (j := 1) e1 rfl
    by_cases hd : D = ⟨#[]⟩
    · subst hd
      exact bi_node K G N _ w ht hG hN (by unfold birthsB; rw [if_neg h0, if_neg (by simpa using h1), if_pos rfl]) hn ho
    · by_cases h5 : (putB 5 G N D).2 = 0
      · have e5 : putB 5 G N D = ((putB 5 G N D).1, 0) := by rw [← h5]
        obtain ⟨hn2, ho2⟩ := of_put1 (j := 5) e5 rfl
        exact bi_both K G N D _ _ w ht hG hN hD (by unfold birthsB; rw [if_neg h0, if_neg (by simpa using h1), if_neg hd, if_neg (by simpa using h5)]) hn ho hn2 ho2 hd
      · exact bi_no K G N D w ht hG hN hD (by unfold birthsB; rw [if_neg h0, if_neg (by simpa using h1), if_neg hd, if_pos h5])
  · exact bi_no K G N D w ht hG hN hD (by unfold birthsB; rw [if_neg h0, if_pos h1])

theorem contract (F : Stop.Interp) (H : Type) (enc : TypeId × Value → H) (W : World) (base : Nat) (args : Array Value) (ds gs : List (DataW H)) (before : List MemPlace)
    (hval : ∀ (j : Nat) t v, Tryd.f6.params[j]? = some t → args[j]? = some v → Value.okWide Tryd.prog W .any base t v)
    (hW : DataW.Whole enc Tryd.prog Tryd.f6.params.toList Rows.spaceBirthsSpec.vars false W args.toList ds gs before)
    (hk : Rows.uptoSmall H (ds ++ gs) = true)
    (hsz : (DataW.weightsEach Tryd.prog (Tryd.f6.params.toList ++ (Rows.OpenSpec.upto Rows.spaceBirthsSpec).bare.plain.varTypes Tryd.prog) (ds ++ gs)).all (· ≤ reachBytes) = true) (hL : laidMetH Tryd.prog Rows.spaceBirthsUptoRow.laid W) :
    Calls Tryd.prog 6 args W fun e W' => ∃ v, e = .returned v ∧ ((Rows.OpenSpec.upto Rows.spaceBirthsSpec).at F).post enc Tryd.prog Tryd.f6 false true false false W args v W' := by
  have hW' := hW
  obtain ⟨p, q, hA0, hV, rfl, hfz, hnd⟩ := hW
  have hA : DataW.TrodAll enc Tryd.prog W 0 (fun _ => true) true Tryd.f6.params.toList args.toList ds p := hA0
  rw [Tryd.params6] at hA hval hsz
  obtain ⟨v0, vs0, d0, ds0, p0, q0, hargs, rfl, rfl, h0, r0⟩ := trodAll_cons hA
  obtain ⟨rfl, rfl, rfl⟩ := trodAll_nil r0
  obtain rfl : args = #[v0] := by cases args; simp_all
  obtain ⟨rfl, rfl⟩ := trodVars_none hV
  have hb0 : Rows.uptoBulk d0 ≤ 1048576 := bulks.le hk (by simp)
  have k0 := h0
  have lt0 : ∀ x ∈ p0, x.block < W.heap.size := by obtain ⟨m, hm⟩ := k0; exact DataW.trod_lt m _ _ _ hm
  obtain ⟨x0_0, x0_1, x0_2, x0_3, y0_0, y0_1, y0_2, y0_3, n0, rfl, rfl, rfl, t0_0, t0_1, t0_2, t0_3⟩ := Joins.open_agg4 Tryd.underlying23 (by kernel_rfl) (by kernel_rfl) (hval 0 23 _ rfl rfl) h0
  obtain ⟨a0_0, q0_0, z0_0, w0_0⟩ := DataW.trod_int Tryd.underlying3 t0_0
  obtain rfl : x0_0 = .int .i64 a0_0 := by simpa using q0_0
  have b0_0 := wf_i64 w0_0
  obtain ⟨a0_1, q0_1, z0_1, w0_1⟩ := DataW.trod_string Tryd.underlying9 t0_1
  obtain rfl : x0_1 = .string a0_1 := by simpa using q0_1
  obtain ⟨a0_2, q0_2, z0_2, w0_2⟩ := DataW.trod_string Tryd.underlying9 t0_2
  obtain rfl : x0_2 = .string a0_2 := by simpa using q0_2
  obtain ⟨a0_3, q0_3, z0_3, w0_3⟩ := DataW.trod_string Tryd.underlying9 t0_3
  obtain rfl : x0_3 = .string a0_3 := by simpa using q0_3
  have s0_1 : a0_1.size ≤ 1048576 := by
    have h1 := hb0
    simp only [z0_0, z0_1, z0_2, z0_3, Rows.uptoBulk, Rows.uptoBulkAll, Array.length_toList] at h1
    show a0_1.data.size ≤ 1048576
    omega
  have s0_2 : a0_2.size ≤ 1048576 := by
    have h1 := hb0
    simp only [z0_0, z0_1, z0_2, z0_3, Rows.uptoBulk, Rows.uptoBulkAll, Array.length_toList] at h1
    show a0_2.data.size ≤ 1048576
    omega
  have s0_3 : a0_3.size ≤ 1048576 := by
    have h1 := hb0
    simp only [z0_0, z0_1, z0_2, z0_3, Rows.uptoBulk, Rows.uptoBulkAll, Array.length_toList] at h1
    show a0_3.data.size ≤ 1048576
    omega
  clear hA0
  refine (walk a0_0 a0_1 a0_2 a0_3 W (tabs_of hL) b0_0 s0_1 s0_2 s0_3).mono fun e W' ⟨he, bel⟩ => ?_
  subst he
  exact ⟨_, rfl, _, _, _, [], _, [], hW', trodAll_mk1 (shut_bool Tryd.underlying4 _), (trodAll_cons_mk (Below.trod laidOut (by kernel_rfl) (of_decide_eq_true (by kernel_rfl)) k0 bel lt0) trodAll_mk0), rfl, bel.frame _, fun h => by cases h⟩

/-- A world for the witness: the settled one, the tables holding what their initialisers lay. -/
noncomputable def laidWorld (os : Os) : World :=
  { World.holding Tryd.prog os ⟨#[], #[], []⟩ with heap := ((World.holding Tryd.prog os ⟨#[], #[], []⟩).heap.modify 0 (fun
      | .cells _ t frozen => .cells #[.string ⟨#[]⟩, .int .i64 0, .string ⟨#[78, 66, 73, 82, 84, 72]⟩, .int .i64 1, .string ⟨#[78, 68, 69, 65, 84, 72]⟩, .int .i64 1, .string ⟨#[78, 68, 65, 84, 65]⟩, .int .i64 1, .string ⟨#[78, 67, 77, 68]⟩, .int .i64 1, .string ⟨#[68, 66, 73, 82, 84, 72]⟩, .int .i64 3, .string ⟨#[68, 68, 69, 65, 84, 72]⟩, .int .i64 3, .string ⟨#[68, 68, 65, 84, 65]⟩, .int .i64 3, .string ⟨#[68, 67, 77, 68]⟩, .int .i64 3, .string ⟨#[83, 84, 65, 84, 69]⟩, .int .i64 0] t frozen
      | o => o)) }
theorem laid_met (os : Os) : laidMet Tryd.prog Rows.spaceBirthsUptoRow.laid ((laidWorld os).forCall (fun _ _ => 0) ⟨#[], #[.agg #[.int .i64 0, .string ByteArray.empty, .string ByteArray.empty, .string ByteArray.empty]], []⟩).memory :=
  laidMet_of_run' 8 (by kernel_rfl) (by kernel_rfl)
theorem reads (os : Os) {H : Type} (enc : TypeId × Value → H) : ∃ places, DataW.whole enc Tryd.prog ((laidWorld os).forCall (fun _ _ => 0) ⟨#[], #[.agg #[.int .i64 0, .string ByteArray.empty, .string ByteArray.empty, .string ByteArray.empty]], []⟩).memory Tryd.f6.params.toList Rows.spaceBirthsSpec.vars false #[Value.agg #[.int .i64 0, .string ByteArray.empty, .string ByteArray.empty, .string ByteArray.empty]].toList 8 = some ([.agg [.lit (.int .i64 0), .lit (.string []), .lit (.string []), .lit (.string [])]], [], places) :=
  ⟨[], by kernel_rfl⟩

set_option maxRecDepth 100000 in
theorem lifted (os : Os) (started : os.Started) (H : Type) (enc : TypeId × Value → H) (F : Stop.Interp) :
    ReturnsInHanded {} Tryd.checked os 6 .any ((Rows.OpenSpec.upto Rows.spaceBirthsSpec).preRow enc Tryd.prog Tryd.f6 Rows.spaceBirthsUptoRow.domain false Rows.spaceBirthsUptoRow.laid) (((Rows.OpenSpec.upto Rows.spaceBirthsSpec).at F).post enc Tryd.prog Tryd.f6 false true false false) := by
  obtain ⟨places, hx⟩ := reads os enc
  refine returnsInHanded_of_row (C := Tryd.checked) (s := (Rows.OpenSpec.upto Rows.spaceBirthsSpec)) own started (by kernel_rfl) Tryd.func6
    (witness_row_at (enc := enc) (C := Tryd.checked) false (laidWorld os) #[.agg #[.int .i64 0, .string ByteArray.empty, .string ByteArray.empty, .string ByteArray.empty]] rfl (by kernel_rfl) (by kernel_rfl) (by kernel_rfl)
      (OpenSpec.preRow_of_cond 8 hx (by kernel_rfl) (fun k hk => by cases hk; kernel_rfl) (by kernel_rfl) (laid_met os))) ?_
  intro W base args ds gs before hval hW _ hcnd hsz hL _ _
  exact contract F H enc W base args ds gs before hval hW (hcnd _ rfl) hsz hL

theorem said : Rows.SpaceBirthsUptoSaid :=
  OpenClaim.holds_of_cond 6 Tryd.f6 rfl rfl rfl rfl rfl rfl rfl ⟨rfl, rfl, rfl, rfl, rfl⟩ rfl rfl rfl rfl rfl (by kernel_rfl) Tryd.func6 (by kernel_rfl)
    (of_decide_eq_true (by kernel_rfl)) (by unfold Func.isWrapper; first | (rw [if_pos (by decide +kernel)]; kernel_rfl) | (rw [if_neg (by decide +kernel)]; exact ⟨rfl, rfl⟩))
    (fun os started H enc _ F => by rw [OpenClaim.pre_eq_preRow]; exact lifted os started H enc F)

theorem plain (f : FuncId) (fn : Func) (hf : Tryd.pinned.checked.prog.funcNamed "crier/crierlaw20.SpaceBirths" = some f) (hfn : Tryd.pinned.checked.prog.funcs[f]? = some fn) :
    false = Tryd.pinned.checked.prog.looks [] ∧ ∀ (j : Nat) t, fn.params[j]? = some t → Tryd.pinned.checked.prog.wantsStandIn t = false := by
  obtain rfl : f = 6 := Option.some.inj ((show Tryd.prog.funcNamed "crier/crierlaw20.SpaceBirths" = some 6 by kernel_rfl).symm.trans hf) |>.symm
  obtain rfl : fn = Tryd.f6 := (Option.some.inj (Tryd.func6.symm.trans hfn)).symm
  refine ⟨by kernel_rfl, fun j t ht => ?_⟩
  rw [Tryd.params6] at ht
  obtain rfl : t = 23 := by have := Array.mem_of_getElem? ht; simpa using this
  exact (show Tryd.prog.wantsStandIn 23 = false by kernel_rfl)

/-- THE CARD. -/
theorem proved : Rows.SpaceBirthsUptoCardSaid :=
  Claim7.holds_tied_plain_at .later [] _ _ _ _ said (fun _ h => by cases h) (by kernel_rfl) (fun _ h => by cases h) spaceBirthsUpto_row_tie rfl ⟨rfl, rfl⟩ (by kernel_rfl) rfl plain (by kernel_rfl)
end Go.Proofs.YtbmelmmefgehoaaDoor.spaceBirths
