/-
  UtfReads: FOR EVERY INPUT the law returns true and leaves its arguments as they were.
-/
import Derived.Test.YtaannopaipjcoaaUl
import Derived.Test.YtaannopaipjcoaaRows
import Derived.WalkKit
import Derived.ProofKit
import Derived.OpenShut
import Derived.ShutString
import Derived.ChangeOld
import Derived.Below
import Derived.SizedLaws
namespace Go.Proofs.Ytaannopaipjcoaa.utfReads
open Go.ChangeShapes Go.WideShapes Go.ChangeAt Go.RowKit
open Go.ChangeMaps (open_string shut_string)
set_option linter.unusedVariables false

theorem own : ownKnob Try.prog.godebug = none := by kernel_rfl
theorem laidOut : laidOutB Try.prog = true := by kernel_rfl

theorem row_of {w : World} {a : Option Addr} {len cap : Nat} {l : List Nat} (h : BytesAt w (.slice a len cap) l) {W : World} (hb : Below w.heap.size w W) : BytesAt W (.slice a len cap) l := h.keep hb (Nat.le_refl _)
/-- Two numbers of two bytes are made alike. -/
theorem puts (n : Int) (b : -9223372036854775808 ≤ n ∧ n ≤ 9223372036854775807) : ∃ (l : List Nat) (x : Int), ∀ f, f = 24 ∨ f = 25 → ∀ w, Calls Try.prog f #[.int .i64 n] w fun e w' => ∃ v, e = .returned (.tuple #[v, .int .i64 x]) ∧ BytesAt w' v l ∧ Below w.heap.size w w' := by
  by_cases h : n < 0 ∨ 65535 < n
  · refine ⟨[], 1, fun f hf w => ?_⟩
    rcases hf with rfl | rfl
    · exact (put2_err n w h b).mono fun e w' ⟨he, hw⟩ => ⟨_, he, ⟨none, 0, rfl, ⟨by simp, fun _ => rfl⟩, .inl rfl⟩, by subst hw; exact Below.refl _ _⟩
    · exact (rput2_err n w h b).mono fun e w' ⟨he, hw⟩ => ⟨_, he, ⟨none, 0, rfl, ⟨by simp, fun _ => rfl⟩, .inl rfl⟩, by subst hw; exact Below.refl _ _⟩
  · obtain ⟨n, rfl⟩ := Int.eq_ofNat_of_zero_le (show 0 ≤ n by omega)
    have key : ∀ w : World, BytesAt (w.alloc (.cells #[.int .u8 ((n / 256 : Nat) : Int), .int .u8 ((n % 256 : Nat) : Int)] 5)) (.slice (some ⟨w.heap.size, 0, none⟩) 2 2) [n / 256, n % 256] := by
      intro w
      refine ⟨some ⟨w.heap.size, 0, none⟩, 2, rfl, ⟨by simp, fun h => by cases h⟩, .inr ⟨w.heap.size, 0, rfl, by simp, fun i hi => ?_⟩⟩
      have : i = 0 ∨ i = 1 := by simp at hi; omega
      rcases this with rfl | rfl
      · rw [World.cell?_alloc_at _ _ _ _ rfl]; rfl
      · rw [World.cell?_alloc_at _ _ _ _ rfl]; rfl
    refine ⟨[n / 256, n % 256], 0, fun f hf w => ?_⟩
    rcases hf with rfl | rfl
    · exact (put2_any n w (by omega)).mono fun e w' ⟨he, hw⟩ => ⟨_, he, by rw [hw]; exact key w, by rw [hw]; exact ext_alloc _ _⟩
    · exact (rput2_any n w (by omega)).mono fun e w' ⟨he, hw⟩ => ⟨_, he, by rw [hw]; exact key w, by rw [hw]; exact ext_alloc _ _⟩
set_option maxHeartbeats 4000000 in
set_option maxRecDepth 100000 in
theorem walk (a : Option Addr) (len cap : Nat) (z : List Int) (at' n : Int) (w : World) (hr : IsRow .u8 w a len cap z) (s0 : cap * 1 ≤ 140737488351232) (b1 : -9223372036854775808 ≤ at' ∧ at' ≤ 9223372036854775807) (b2 : -9223372036854775808 ≤ n ∧ n ≤ 9223372036854775807) :
    Calls Try.prog 4 #[.slice a len cap, .int .i64 at', .int .i64 n] w (Yes w) := by
  obtain ⟨hB, hlen, h256⟩ := hr.bytes
  have hl := hr.len_le
  obtain ⟨lp, xp, hput⟩ := puts n b2
  have PA := hput 24 (.inl rfl)
  have PB := hput 25 (.inr rfl)
  generalize (z.take len).map Int.toNat = l at *
  have hl2 : l.length ≤ 140737488355328 := by omega
  have G1 := fun W (hW : Below w.heap.size w W) => get_any _ l at' W (row_of hB hW) h256 hl2 b1
  have G2 := fun W (hW : Below w.heap.size w W) => rget_any _ l at' W (row_of hB hW) h256 hl2 b1
  have G3 := fun W (hW : Below w.heap.size w W) => getraw_any _ l at' W (row_of hB hW) h256 hl2 b1
  have G4 := fun W (hW : Below w.heap.size w W) => rgetraw_any _ l at' W (row_of hB hW) h256 hl2 b1
  have G5 := fun W (hW : Below w.heap.size w W) => get2_any _ l at' W (row_of hB hW) h256 hl2 b1
  have G6 := fun W (hW : Below w.heap.size w W) => rget2_any _ l at' W (row_of hB hW) h256 hl2 b1
  generalize getV l at' = r1 at *
  generalize rawV l at' = r2 at *
  generalize get2V l at' = r3 at *
  obtain ⟨S1, y1, x1⟩ := r1
  obtain ⟨S2, y2, x2⟩ := r2
  obtain ⟨S3, y3, x3⟩ := r3
  unfold GetPost at G1 G2
  unfold RawPost at G3 G4
  simp only at G1 G2 G3 G4 G5 G6
  replace G1 := Lib.hid G1
  replace G2 := Lib.hid G2
  replace G3 := Lib.hid G3
  replace G4 := Lib.hid G4
  replace G5 := Lib.hid G5
  replace G6 := Lib.hid G6
  replace PA := Lib.hid PA
  replace PB := Lib.hid PB
  clear hput hr hB h256 b1 b2 hlen hl hl2
  go_enter Try.func4, Try.ntmps4
  go_wp2_with fail
  refine (G1.out _ (Below.refl _ _)).mono ?_
  rintro e w1 ⟨rfl, c1⟩
  go_wp2_with fail
  refine (G2.out _ c1).mono ?_
  rintro e w2 ⟨rfl, c2⟩
  have c2 := Lib.hid (ext_trans c1 c2)
  clear c1
  go_wp2_with fail
  refine (G3.out _ c2.out).mono ?_
  rintro e w3 ⟨rfl, n3, rfl⟩
  have c3 := Lib.hid (below_drewN c2.out n3)
  generalize w2.drewN n3 = w3 at *
  go_wp2_with fail
  refine (G4.out _ c3.out).mono ?_
  rintro e w4 ⟨rfl, n4, rfl⟩
  have c4 := Lib.hid (below_drewN c3.out n4)
  generalize w3.drewN n4 = w4 at *
  go_wp2_with fail
  refine (G5.out _ c4.out).mono ?_
  rintro e w5 ⟨rfl, n5, rfl⟩
  have c5 := Lib.hid (below_drewN c4.out n5)
  generalize w4.drewN n5 = w5 at *
  go_wp2_with fail
  refine (G6.out _ c5.out).mono ?_
  rintro e w6 ⟨rfl, n6, rfl⟩
  have c6 := Lib.hid (below_drewN c5.out n6)
  generalize w5.drewN n6 = w6 at *
  go_wp2_with fail
  refine (PA.out _).mono ?_
  rintro e w7 ⟨v7, rfl, a7, c7⟩
  go_wp2_with fail
  refine (PB.out _).mono ?_
  rintro e w8 ⟨v8, rfl, a8, c8⟩
  have a7 := a7.keep c8 (Nat.le_refl _)
  have c9 := Lib.hid (ext_trans (ext_trans c6.out c7) c8)
  have k7 := a7.conv (P := Try.prog) Try.underlying22 Try.underlying5 Try.underlying9
  have k8 := a8.conv (P := Try.prog) Try.underlying22 Try.underlying5 Try.underlying9
  generalize strB lp = sp at *
  obtain ⟨q7, n7, rfl, -, -⟩ := a7
  obtain ⟨q8, n8, rfl, -, -⟩ := a8
  clear c7 c8
  go_wp2_with fail
  refine (awake_any _).mono ?_
  rintro e w10 ⟨rfl, b10⟩
  go_wp2_with fail
  go_ret
  exact ⟨rfl, ext_trans c9.out b10⟩

set_option maxRecDepth 100000 in
theorem lifted (os : Os) (started : os.Started) (H : Type) (enc : TypeId × Value → H) :
    ReturnsInHanded {} Try.checked os 4 .any (Rows.utfReadsSpec.pre6 enc Try.prog Try.f4 Rows.utfReadsRow.domain false) (Rows.utfReadsSpec.post enc Try.prog Try.f4 false true false false) := by
  refine returnsInHanded_of_change_sized (C := Try.checked) own started (by kernel_rfl) Try.func4
    (ChangeSpec.witness6 (enc := enc) (C := Try.checked) false ⟨#[], #[.slice none 0 0, .int .i64 0, .int .i64 0], []⟩ 8 (by kernel_rfl) (by kernel_rfl) (by kernel_rfl) (by kernel_rfl)) ?_
  intro W base args ds gs before hval0 hW hcnd hsz0 _
  have hsz : (DataW.weightsEach Try.prog (Try.f4.params.toList ++ Rows.utfReadsSpec.plain.varTypes Try.prog) (ds ++ gs)).all (· ≤ reachBytes) = true := hsz0
  have hval : ∀ (j : Nat) t v, Try.f4.params[j]? = some t → args[j]? = some v → Value.okWide Try.prog W .any base t v := hval0
  have hW' := hW
  obtain ⟨p, q, hA0, hV, rfl, hfz, hnd⟩ := hW
  have hA : DataW.TrodAll enc Try.prog W 0 (fun _ => true) true Try.f4.params.toList args.toList ds p := hA0
  rw [Try.params4] at hA hval hsz
  obtain ⟨v0, vs0, d0, ds0, p0, q0, hargs, rfl, rfl, h0, r0⟩ := trodAll_cons hA
  obtain ⟨v1, vs1, d1, ds1, p1, q1, rfl, rfl, rfl, h1, r1⟩ := trodAll_cons r0
  obtain ⟨v2, vs2, d2, ds2, p2, q2, rfl, rfl, rfl, h2, r2⟩ := trodAll_cons r1
  obtain ⟨rfl, rfl, rfl⟩ := trodAll_nil r2
  obtain rfl : args = #[v0, v1, v2] := by cases args; simp_all
  obtain ⟨rfl, rfl⟩ := trodVars_none hV
  have k0 := h0
  have lt0 : ∀ x ∈ p0, x.block < W.heap.size := by obtain ⟨m, hm⟩ := k0; exact DataW.trod_lt m _ _ _ hm
  have k1 := h1
  have lt1 : ∀ x ∈ p1, x.block < W.heap.size := by obtain ⟨m, hm⟩ := k1; exact DataW.trod_lt m _ _ _ hm
  have k2 := h2
  have lt2 : ∀ x ∈ p2, x.block < W.heap.size := by obtain ⟨m, hm⟩ := k2; exact DataW.trod_lt m _ _ _ hm
  obtain ⟨a0, len0, cap0, rfl⟩ := okWide_slice Try.underlying22 (hval 0 22 v0 rfl rfl)
  obtain ⟨z0, w0, s0⟩ : ∃ zs, IsRow .u8 W a0 len0 cap0 zs ∧ cap0 * 1 ≤ 140737488351232 := by
    obtain ⟨fuel, hf⟩ := h0
    rcases open_ints Try.underlying22 Try.underlying5 (by kernel_rfl) hf with ⟨hcs, _⟩ | ⟨x, l, c, zs, hcs, _, hl, hm, hz, hx, hcell, hwz⟩
    · simp [Value.cells] at hcs
      obtain ⟨rfl, rfl, rfl⟩ := hcs
      exact ⟨[], .inl ⟨rfl, rfl, rfl, rfl⟩, by omega⟩
    · simp [Value.cells] at hcs
      obtain ⟨rfl, rfl, rfl⟩ := hcs
      have hz' : zs.length = cap0 := by simpa using hz
      have hd : d0 = .slice (lits .u8 (zs.take len0)) (lits .u8 (zs.drop len0)) := congrArg Prod.fst hx
      have hroom := sized_slice hsz (j := 0) (t := 22) (e := 5) rfl (by rw [hd]; rfl) Try.underlying22
      rw [show Try.prog.bytesOf 5 = 1 from by kernel_rfl] at hroom
      simp only [lits, List.length_map, List.length_take, List.length_drop, reachBytes] at hroom
      exact ⟨zs, .inr ⟨_, rfl, hl, hm, hz', hcell, hwz⟩, by omega⟩
  obtain ⟨a1, rfl, rfl, rfl, w1⟩ := open_int Try.underlying3 (hval 1 3 v1 rfl rfl) h1
  have b1 := wf_i64 w1
  obtain ⟨a2, rfl, rfl, rfl, w2⟩ := open_int Try.underlying3 (hval 2 3 v2 rfl rfl) h2
  have b2 := wf_i64 w2
  clear hA0 hval0 hsz0
  refine (walk a0 len0 cap0 z0 a1 a2 W w0 s0 b1 b2).mono fun e W' ⟨he, bel⟩ => ?_
  subst he
  exact ⟨_, rfl, _, _, _, [], _, [], hW', trodAll_mk1 (shut_bool Try.underlying4 _), (trodAll_cons_mk (Below.trod laidOut (by kernel_rfl) (of_decide_eq_true (by kernel_rfl)) k0 bel lt0) (trodAll_cons_mk (Below.trod laidOut (by kernel_rfl) (of_decide_eq_true (by kernel_rfl)) k1 bel lt1) (trodAll_cons_mk (Below.trod laidOut (by kernel_rfl) (of_decide_eq_true (by kernel_rfl)) k2 bel lt2) trodAll_mk0))), rfl, bel.frame _, fun h => by cases h⟩

theorem over : Rows.utfReadsRow.holds Try.pinned (OpenSpec.ofChange Rows.utfReadsSpec) :=
  OpenClaim.holds_of_wide 4 Try.f4 rfl rfl rfl rfl rfl rfl rfl ⟨rfl, rfl, rfl, rfl, rfl⟩ rfl rfl rfl rfl rfl (by kernel_rfl) Try.func4 (by kernel_rfl)
    (of_decide_eq_true (by kernel_rfl)) (by unfold Func.isWrapper; first | (rw [if_pos (by decide +kernel)]; kernel_rfl) | (rw [if_neg (by decide +kernel)]; exact ⟨rfl, rfl⟩))
    (fun os started H enc _ => lifted os started H enc)

theorem proved : Rows.UtfReadsSaid := over
end Go.Proofs.Ytaannopaipjcoaa.utfReads
