/-
  FixedTurns: FOR EVERY INPUT the law returns true and leaves its arguments as they were.
-/
import Derived.Test.YtnhphkiklfajnaaFt
import Derived.Test.YtnhphkiklfajnaaRows
import Derived.WalkKit
import Derived.ProofKit
import Derived.OpenShut
import Derived.ShutString
import Derived.ChangeOld
import Derived.Below
import Derived.SizedLaws
namespace Go.Proofs.Ytnhphkiklfajnaa.fixedTurns
open Go.ChangeShapes Go.WideShapes Go.ChangeAt Go.RowKit
open Go.ChangeMaps (open_string shut_string)
set_option linter.unusedVariables false

theorem own : ownKnob Try.prog.godebug = none := by kernel_rfl
theorem laidOut : laidOutB Try.prog = true := by kernel_rfl

theorem BytesAt_lit (w : World) (l : List Nat) : BytesAt (w.alloc (.cells (bl l).toArray 5)) (.slice (some ⟨w.heap.size, 0, none⟩) l.length l.length) l := by
  refine ⟨_, l.length, rfl, Nat.le_refl _, .inr ⟨w.heap.size, 0, rfl, by simp, fun i hi => ?_⟩⟩
  rw [World.cell?_alloc_at _ _ _ _ rfl]
  simp [bl, hi]
theorem bytes_of (n : Nat) (h : n ≤ 4294967295) : ∃ c0 c1 c2 c3 : Nat, n = c0 * 16777216 + c1 * 65536 + c2 * 256 + c3 ∧ c0 < 256 ∧ c1 < 256 ∧ c2 < 256 ∧ c3 < 256 :=
  ⟨n / 16777216, n / 65536 % 256, n / 256 % 256, n % 256, by omega, by omega, by omega, by omega, by omega⟩
theorem row_of (c0 c1 c2 c3 : Nat) (h0 : c0 < 256) (h1 : c1 < 256) (h2 : c2 < 256) (h3 : c3 < 256) : row4 (c0 * 16777216 + c1 * 65536 + c2 * 256 + c3) = (bl [c3, c2, c1, c0]).toArray := by
  have e0 : ((c0 * 16777216 + c1 * 65536 + c2 * 256 + c3 : Nat) : Int) / 16777216 = c0 := by omega
  have e1 : ((c0 * 16777216 + c1 * 65536 + c2 * 256 + c3 : Nat) : Int) / 65536 % 256 = c1 := by omega
  have e2 : ((c0 * 16777216 + c1 * 65536 + c2 * 256 + c3 : Nat) : Int) / 256 % 256 = c2 := by omega
  have e3 : ((c0 * 16777216 + c1 * 65536 + c2 * 256 + c3 : Nat) : Int) % 256 = c3 := by omega
  simp only [row4, bl, List.map_cons, List.map_nil, e0, e1, e2, e3]

theorem keep4 {w w' : World} {g : Nat} {x0 x1 x2 x3 : Value} (hb : Below w.drew.heap.size w.drew w') (hg : g < w.heap.size) (d0 : w.cell? ⟨g, 0, none⟩ = some x0) (d1 : w.cell? ⟨g, 1, none⟩ = some x1) (d2 : w.cell? ⟨g, 2, none⟩ = some x2) (d3 : w.cell? ⟨g, 3, none⟩ = some x3) :
    w'.cell? ⟨g, 0, none⟩ = some x0 ∧ w'.cell? ⟨g, 1, none⟩ = some x1 ∧ w'.cell? ⟨g, 2, none⟩ = some x2 ∧ w'.cell? ⟨g, 3, none⟩ = some x3 :=
  ⟨(hb.cell hg).trans d0, (hb.cell hg).trans d1, (hb.cell hg).trans d2, (hb.cell hg).trans d3⟩
theorem put4_sum (c0 c1 c2 c3 : Nat) (w : World) (h0 : c0 < 256) (h1 : c1 < 256) (h2 : c2 < 256) (h3 : c3 < 256) :
    Calls Try.prog 26 #[.int .u32 ((c0 : Int) * 16777216 + (c1 : Int) * 65536 + (c2 : Int) * 256 + (c3 : Int))] w fun e w' => e = .returned (.slice (some ⟨w.heap.size, 0, none⟩) 4 4) ∧ w.alloc (.cells #[.int .u8 c3, .int .u8 c2, .int .u8 c1, .int .u8 c0] 5) = w' := by
  have h := put4_any (c0 * 16777216 + c1 * 65536 + c2 * 256 + c3) w (by omega)
  rw [row_of c0 c1 c2 c3 h0 h1 h2 h3] at h
  rw [show (((c0 * 16777216 + c1 * 65536 + c2 * 256 + c3 : Nat)) : Int) = (c0 : Int) * 16777216 + (c1 : Int) * 65536 + (c2 : Int) * 256 + (c3 : Int) from by omega] at h
  exact h
set_option maxRecDepth 100000 in
theorem main (a : Option Addr) (cap : Nat) (l : List Nat) (c0 c1 c2 c3 : Nat) (w : World) (hB : BytesAt w (.slice a l.length cap) l) (hl : l.length ≤ 140737488351232)
    (h0 : c0 < 256) (h1 : c1 < 256) (h2 : c2 < 256) (h3 : c3 < 256) :
    Calls Try.prog 11 #[.slice a l.length cap, .int .u32 ((c0 : Int) * 16777216 + (c1 : Int) * 65536 + (c2 : Int) * 256 + (c3 : Int))] w (Yes w) := by
  have hcv := hB.conv (P := Try.prog) Try.underlying23 Try.underlying5 Try.underlying9
  have HT := Lib.hid (turn_any _ l w hB hl)
  have HB := Lib.hid hB
  clear hB
  go_enter Try.func11, Try.ntmps11
  go_wp2_with fail
  refine HT.out.mono ?_
  rintro e w1 ⟨v1, rfl, hown1, hn1, hb1⟩
  obtain ⟨g1, cap1, rfl, hg1, hs1, hlc1, _⟩ := own_at hown1 hn1
  have hB1 := BytesAt.of_own (l := l.reverse) (by rw [List.length_reverse]; exact hown1)
  clear hown1 hn1 hcv HT
  have HT2 := Lib.hid (turn_any _ _ w1 hB1 (by rw [List.length_reverse]; exact hl))
  have HB1 := Lib.hid hB1
  clear hB1
  go_wp2_with fail
  refine HT2.out.mono ?_
  rintro e w2 ⟨v2, rfl, hown2, hn2, hb2⟩
  rw [List.reverse_reverse] at hown2
  have hB2 := BytesAt.of_own (l := l) (by rw [List.length_reverse] at hown2; exact hown2)
  have hBa := HB.out.keep (hb1.trans (hb2.mono hb1.size)) (Nat.le_refl _)
  have hcv2 := hB2.conv (P := Try.prog) Try.underlying23 Try.underlying5 Try.underlying9
  have hcva := hBa.conv (P := Try.prog) Try.underlying23 Try.underlying5 Try.underlying9
  clear hown2 hn2 hB2 hBa HT2
  go_wp2_with fail
  refine (put4_sum c0 c1 c2 c3 _ h0 h1 h2 h3).mono ?_
  rintro e w' ⟨rfl, rfl⟩
  have HT3 := Lib.hid (turn_any _ [c3, c2, c1, c0] _ (BytesAt_lit w2 [c3, c2, c1, c0]) (by simp))
  clear hcv2 hcva
  go_wp2_with fail
  refine HT3.out.mono ?_
  rintro e w4 ⟨v4, rfl, hown4, hn4, hb4⟩
  obtain ⟨g4, cap4, rfl, hg4, hs4, hlc4, hcell4⟩ := own_at hown4 hn4
  have d0 := hcell4 0 (.int .u8 c0) rfl
  have d1 := hcell4 1 (.int .u8 c1) rfl
  have d2 := hcell4 2 (.int .u8 c2) rfl
  have d3 := hcell4 3 (.int .u8 c3) rfl
  have HB4 := Lib.hid hb4
  clear hcell4 hn4 hown4 HT3 hb4
  go_wp2_with fail
  have hsum : IntKind.u32.wrap (IntKind.u32.wrap (IntKind.u32.wrap (IntKind.u32.wrap (IntKind.u32.wrap (c0 : Int) * 16777216) + IntKind.u32.wrap (IntKind.u32.wrap (c1 : Int) * 65536)) + IntKind.u32.wrap (IntKind.u32.wrap (c2 : Int) * 256)) + IntKind.u32.wrap (c3 : Int)) = (c0 : Int) * 16777216 + (c1 : Int) * 65536 + (c2 : Int) * 256 + (c3 : Int) := by
    simp only [IntKind.wrap_u32']
    omega
  go_region_held3 (fun W => W.cell? ⟨g4, 0, none⟩ = some (.int .u8 c0) ∧ W.cell? ⟨g4, 1, none⟩ = some (.int .u8 c1) ∧ W.cell? ⟨g4, 2, none⟩ = some (.int .u8 c2) ∧ W.cell? ⟨g4, 3, none⟩ = some (.int .u8 c3)) (first | (go_keep; done) | exact keep4 hb hs4 d0 d1 d2 d3)
    (first | (go_at_call 32; refine (awake2_any _).mono ?_; rintro e w' ⟨rfl, hb⟩))
  go_wp2
  go_ret
  exact ⟨rfl, ext_trans (ext_trans hb1 hb2) (ext_trans (ext_trans (ext_alloc _ _) HB4.out) (ext_trans (ext_drew _) hb))⟩
theorem walk (a : Option Addr) (len cap : Nat) (z : List Int) (n : Int) (w : World) (w0 : IsRow .u8 w a len cap z) (hs : cap * 1 ≤ 140737488351232) (b1 : 0 ≤ n ∧ n ≤ 4294967295) :
    Calls Try.prog 11 #[.slice a len cap, .int .u32 n] w (Yes w) := by
  obtain ⟨hB, he, h256⟩ := w0.bytes
  obtain ⟨k, rfl⟩ := Int.eq_ofNat_of_zero_le b1.1
  obtain ⟨c0, c1, c2, c3, rfl, h0, h1, h2, h3⟩ := bytes_of k (by omega)
  obtain ⟨l, hl⟩ : ∃ l, l = (z.take len).map Int.toNat := ⟨_, rfl⟩
  rw [← hl] at hB he
  subst he
  have hlc := w0.len_le
  have := main a cap l c0 c1 c2 c3 w hB (by omega) h0 h1 h2 h3
  rw [show (((c0 * 16777216 + c1 * 65536 + c2 * 256 + c3 : Nat)) : Int) = (c0 : Int) * 16777216 + (c1 : Int) * 65536 + (c2 : Int) * 256 + (c3 : Int) from by omega]
  exact this

set_option maxRecDepth 100000 in
theorem lifted (os : Os) (started : os.Started) (H : Type) (enc : TypeId × Value → H) :
    ReturnsInHanded {} Try.checked os 11 .any (Rows.fixedTurnsSpec.pre6 enc Try.prog Try.f11 Rows.fixedTurnsRow.domain false) (Rows.fixedTurnsSpec.post enc Try.prog Try.f11 false true false false) := by
  refine returnsInHanded_of_change_sized (C := Try.checked) own started (by kernel_rfl) Try.func11
    (ChangeSpec.witness6 (enc := enc) (C := Try.checked) false ⟨#[], #[.slice none 0 0, .int .u32 0], []⟩ 8 (by kernel_rfl) (by kernel_rfl) (by kernel_rfl) (by kernel_rfl)) ?_
  intro W base args ds gs before hval0 hW hcnd hsz0 _
  have hsz : (DataW.weightsEach Try.prog (Try.f11.params.toList ++ Rows.fixedTurnsSpec.plain.varTypes Try.prog) (ds ++ gs)).all (· ≤ reachBytes) = true := hsz0
  have hval : ∀ (j : Nat) t v, Try.f11.params[j]? = some t → args[j]? = some v → Value.okWide Try.prog W .any base t v := hval0
  have hW' := hW
  obtain ⟨p, q, hA0, hV, rfl, hfz, hnd⟩ := hW
  have hA : DataW.TrodAll enc Try.prog W 0 (fun _ => true) true Try.f11.params.toList args.toList ds p := hA0
  rw [Try.params11] at hA hval hsz
  obtain ⟨v0, vs0, d0, ds0, p0, q0, hargs, rfl, rfl, h0, r0⟩ := trodAll_cons hA
  obtain ⟨v1, vs1, d1, ds1, p1, q1, rfl, rfl, rfl, h1, r1⟩ := trodAll_cons r0
  obtain ⟨rfl, rfl, rfl⟩ := trodAll_nil r1
  obtain rfl : args = #[v0, v1] := by cases args; simp_all
  obtain ⟨rfl, rfl⟩ := trodVars_none hV
  have k0 := h0
  have lt0 : ∀ x ∈ p0, x.block < W.heap.size := by obtain ⟨m, hm⟩ := k0; exact DataW.trod_lt m _ _ _ hm
  have k1 := h1
  have lt1 : ∀ x ∈ p1, x.block < W.heap.size := by obtain ⟨m, hm⟩ := k1; exact DataW.trod_lt m _ _ _ hm
  obtain ⟨a0, len0, cap0, rfl⟩ := okWide_slice Try.underlying23 (hval 0 23 v0 rfl rfl)
  obtain ⟨z0, w0, s0⟩ : ∃ zs, IsRow .u8 W a0 len0 cap0 zs ∧ cap0 * 1 ≤ 140737488351232 := by
    obtain ⟨fuel, hf⟩ := h0
    rcases open_ints Try.underlying23 Try.underlying5 (by kernel_rfl) hf with ⟨hcs, _⟩ | ⟨x, l, c, zs, hcs, _, hl, hm, hz, hx, hcell, hwz⟩
    · simp [Value.cells] at hcs
      obtain ⟨rfl, rfl, rfl⟩ := hcs
      exact ⟨[], .inl ⟨rfl, rfl, rfl, rfl⟩, by omega⟩
    · simp [Value.cells] at hcs
      obtain ⟨rfl, rfl, rfl⟩ := hcs
      have hz' : zs.length = cap0 := by simpa using hz
      have hd : d0 = .slice (lits .u8 (zs.take len0)) (lits .u8 (zs.drop len0)) := congrArg Prod.fst hx
      have hroom := sized_slice hsz (j := 0) (t := 23) (e := 5) rfl (by rw [hd]; rfl) Try.underlying23
      rw [show Try.prog.bytesOf 5 = 1 from by kernel_rfl] at hroom
      simp only [lits, List.length_map, List.length_take, List.length_drop, reachBytes] at hroom
      exact ⟨zs, .inr ⟨_, rfl, hl, hm, hz', hcell, hwz⟩, by omega⟩
  obtain ⟨a1, rfl, rfl, rfl, w1⟩ := open_int Try.underlying39 (hval 1 39 v1 rfl rfl) h1
  have b1 := wf_u32 w1
  clear hA0 hval0 hsz0
  refine (walk a0 len0 cap0 z0 a1 W w0 s0 b1).mono fun e W' ⟨he, bel⟩ => ?_
  subst he
  exact ⟨_, rfl, _, _, _, [], _, [], hW', trodAll_mk1 (shut_bool Try.underlying4 _), (trodAll_cons_mk (Below.trod laidOut (by kernel_rfl) (of_decide_eq_true (by kernel_rfl)) k0 bel lt0) (trodAll_cons_mk (Below.trod laidOut (by kernel_rfl) (of_decide_eq_true (by kernel_rfl)) k1 bel lt1) trodAll_mk0)), rfl, bel.frame _, fun h => by cases h⟩

theorem over : Rows.fixedTurnsRow.holds Try.pinned (OpenSpec.ofChange Rows.fixedTurnsSpec) :=
  OpenClaim.holds_of_wide 11 Try.f11 rfl rfl rfl rfl rfl rfl rfl ⟨rfl, rfl, rfl, rfl, rfl⟩ rfl rfl rfl rfl rfl (by kernel_rfl) Try.func11 (by kernel_rfl)
    (of_decide_eq_true (by kernel_rfl)) (by unfold Func.isWrapper; first | (rw [if_pos (by decide +kernel)]; kernel_rfl) | (rw [if_neg (by decide +kernel)]; exact ⟨rfl, rfl⟩))
    (fun os started H enc _ => lifted os started H enc)

theorem proved : Rows.FixedTurnsSaid := over
end Go.Proofs.Ytnhphkiklfajnaa.fixedTurns
