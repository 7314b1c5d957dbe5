/-
  FixedHalves: FOR EVERY INPUT the law returns true and leaves its arguments as they were.
-/
import Derived.Test.YtnhphkiklfajnaaFb
import Derived.Test.YtnhphkiklfajnaaRows
import Derived.WalkKit
import Derived.ProofKit
import Derived.OpenShut
import Derived.ShutString
import Derived.ChangeOld
import Derived.Below
namespace Go.Proofs.Ytnhphkiklfajnaa.fixedHalves
open Go.ChangeShapes Go.WideShapes Go.ChangeAt Go.RowKit
open Go.ChangeMaps (open_string shut_string)
set_option linter.unusedVariables false

theorem own : ownKnob Try.prog.godebug = none := by kernel_rfl
theorem laidOut : laidOutB Try.prog = true := by kernel_rfl

theorem val_halves (zs : List Nat) (p : Nat) : valF zs p 8 = valF zs p 4 + valF zs (p + 4) 4 * 4294967296 := by
  simp only [valF, Nat.add_assoc, Nat.add_zero, Nat.reduceAdd]
  omega
theorem sum_halves (zs : List Nat) (p : Nat) (h : ∀ x ∈ zs, x < 256) :
    (valF zs p 8 : Int) = ((valF zs p 4 : Int) + (valF zs (p + 4) 4 : Int) * 4294967296) ∧ valF zs p 4 ≤ 4294967295 ∧ valF zs (p + 4) 4 ≤ 4294967295 := by
  have h1 := valF_lt zs p h 4
  have h2 := valF_lt zs (p + 4) h 4
  have h3 := val_halves zs p
  have e : (256 : Nat) ^ 4 = 4294967296 := by decide
  omega
/-- The three ways of the two readings. -/
theorem way_arg (a : Option Addr) (len cap : Nat) (at0 : Int) (w : World) (hl : len ≤ 9223372036854775807) (b1 : -9223372036854775808 ≤ at0 ∧ at0 ≤ 9223372036854775807) (h : at0 < 0 ∨ (len : Int) < at0) :
    Calls Try.prog 10 #[.slice a len cap, .int .i64 at0] w (Yes w) := by
  have H8 := Lib.hid (get8_arg a len cap at0 w hl b1.1 b1.2 h)
  have H4 := Lib.hid (get4_arg a len cap at0 w hl b1.1 b1.2 h)
  clear h b1
  go_enter Try.func10, Try.ntmps10
  go_wp2_with fail
  refine H8.out.mono ?_
  rintro e w' ⟨rfl, rfl⟩
  go_wp2_with fail
  refine H4.out.mono ?_
  rintro e w' ⟨rfl, rfl⟩
  go_wp2_with fail
  refine (awake2_any _).mono ?_
  rintro e w' ⟨rfl, hb⟩
  go_wp2
  go_ret
  exact ⟨rfl, hb⟩
theorem way_short (a : Option Addr) (len cap at0 : Nat) (w : World) (hl : len ≤ 9223372036854775807) (h : at0 ≤ len) (hs : len < at0 + 4) :
    Calls Try.prog 10 #[.slice a len cap, .int .i64 at0] w (Yes w) := by
  have H8 := Lib.hid (get8_short a len cap at0 w hl h (by omega))
  have H4 := Lib.hid (get4_short a len cap at0 w hl h hs)
  clear h
  go_enter Try.func10, Try.ntmps10
  go_wp2_with fail
  refine H8.out.mono ?_
  rintro e w' ⟨rfl, rfl⟩
  go_wp2_with fail
  refine H4.out.mono ?_
  rintro e w' ⟨rfl, rfl⟩
  go_wp2_with fail
  refine (awake2_any _).mono ?_
  rintro e w' ⟨rfl, hb⟩
  go_wp2
  go_ret
  exact ⟨rfl, hb⟩
theorem way_half (b off len cap at0 : Nat) (zs : List Nat) (w : World) (hl : len ≤ 9223372036854775807) (h : at0 + 4 ≤ len) (hs : len < at0 + 8) (hb : ∀ x ∈ zs, x < 256)
    (hc : ∀ i, i < len → w.cell? ⟨b, off + i, none⟩ = some (.int .u8 ((zs.getD i 0 : Nat) : Int))) :
    Calls Try.prog 10 #[.slice (some ⟨b, off, none⟩) len cap, .int .i64 at0] w (Yes w) := by
  have H8 := Lib.hid (get8_short (some ⟨b, off, none⟩) len cap at0 w hl (by omega) hs)
  have H4 := Lib.hid (get4_ok b off len cap at0 zs w hl h hb hc)
  clear h hb hc
  go_enter Try.func10, Try.ntmps10
  go_wp2_with fail
  refine H8.out.mono ?_
  rintro e w' ⟨rfl, rfl⟩
  go_wp2_with fail
  refine H4.out.mono ?_
  rintro e w' ⟨rfl, rfl⟩
  go_wp2_with fail
  refine (awake2_any _).mono ?_
  rintro e w' ⟨rfl, hb⟩
  go_wp2
  go_ret
  exact ⟨rfl, hb⟩
theorem way_sum (s : Value) (at0 B C : Nat) (w : World) (hB : B ≤ 4294967295) (hC : C ≤ 4294967295) (hat : at0 ≤ 9223372036854775799)
    (H8 : Hid (Calls Try.prog 24 #[s, .int .i64 at0] w fun e w' => e = .returned (.tuple #[.int .u64 ((B : Int) + (C : Int) * 4294967296), .int .i64 (at0 + 8), .int .i64 0]) ∧ w = w'))
    (H4 : Hid (Calls Try.prog 22 #[s, .int .i64 at0] w fun e w' => e = .returned (.tuple #[.int .u32 B, .int .i64 (at0 + 4), .int .i64 0]) ∧ w = w'))
    (H4' : Hid (Calls Try.prog 22 #[s, .int .i64 (at0 + 4)] w fun e w' => e = .returned (.tuple #[.int .u32 C, .int .i64 (at0 + 8), .int .i64 0]) ∧ w = w')) :
    Calls Try.prog 10 #[s, .int .i64 at0] w (Yes w) := by
  go_enter Try.func10, Try.ntmps10
  go_wp2_with fail
  refine H8.out.mono ?_
  rintro e w' ⟨rfl, rfl⟩
  go_wp2_with fail
  refine H4.out.mono ?_
  rintro e w' ⟨rfl, rfl⟩
  go_wp2_with fail
  refine H4'.out.mono ?_
  rintro e w' ⟨rfl, rfl⟩
  go_wp2_with fail
  refine (awake2_any _).mono ?_
  rintro e w' ⟨rfl, hb⟩
  go_wp2
  go_ret
  exact ⟨rfl, hb⟩
theorem way_ok (b off len cap at0 : Nat) (zs : List Nat) (w : World) (hl : len ≤ 9223372036854775807) (h : at0 + 8 ≤ len) (hb : ∀ x ∈ zs, x < 256)
    (hc : ∀ i, i < len → w.cell? ⟨b, off + i, none⟩ = some (.int .u8 ((zs.getD i 0 : Nat) : Int))) :
    Calls Try.prog 10 #[.slice (some ⟨b, off, none⟩) len cap, .int .i64 at0] w (Yes w) := by
  obtain ⟨e, h1, h2⟩ := sum_halves zs at0 hb
  exact way_sum _ at0 _ _ w h1 h2 (by omega)
    (Lib.hid ((get8_ok b off len cap at0 zs w hl h hb hc).mono fun _ _ ⟨he, hw⟩ => ⟨he.trans (by rw [e]; simp), hw⟩))
    (Lib.hid ((get4_ok b off len cap at0 zs w hl (by omega) hb hc).mono fun _ _ ⟨he, hw⟩ => ⟨he.trans (by simp), hw⟩))
    (Lib.hid ((get4_ok b off len cap (at0 + 4) zs w hl (by omega) hb hc).mono fun _ _ ⟨he, hw⟩ => ⟨he.trans (by simp [Int.add_assoc]), hw⟩))
theorem walk (a : Option Addr) (len cap : Nat) (z : List Int) (at0 : Int) (w : World) (w0 : IsRow .u8 w a len cap z) (b1 : -9223372036854775808 ≤ at0 ∧ at0 ≤ 9223372036854775807) :
    Calls Try.prog 10 #[.slice a len cap, .int .i64 at0] w (Yes w) := by
  obtain ⟨hl, hlc⟩ := w0.len_le
  obtain ⟨hB, he, h256⟩ := w0.bytes
  by_cases h : at0 < 0 ∨ (len : Int) < at0
  · exact way_arg a len cap at0 w hl b1 h
  obtain ⟨p, rfl⟩ := Int.eq_ofNat_of_zero_le (show 0 ≤ at0 by omega)
  by_cases h4 : len < p + 4
  · exact way_short a len cap p w hl (by omega) h4
  obtain ⟨a', cap', hv, _, hh⟩ := hB
  rw [he] at hv
  obtain ⟨rfl, _, rfl⟩ : a = a' ∧ len = len ∧ cap = cap' := by simpa using hv
  rcases hh with hn | ⟨b, o, rfl, _, hcell⟩
  · rw [hn] at he; simp at he; omega
  · rw [he] at hcell
    by_cases h8 : len < p + 8
    · exact way_half b o len cap p _ w hl (by omega) h8 h256 hcell
    · exact way_ok b o len cap p _ w hl (by omega) h256 hcell

set_option maxRecDepth 100000 in
theorem lifted (os : Os) (started : os.Started) (H : Type) (enc : TypeId × Value → H) :
    ReturnsInHanded {} Try.checked os 10 .any (Rows.fixedHalvesSpec.pre6 enc Try.prog Try.f10 Rows.fixedHalvesRow.domain false) (Rows.fixedHalvesSpec.post enc Try.prog Try.f10 false true false false) := by
  refine returnsInHanded_of_change (C := Try.checked) own started (by kernel_rfl) Try.func10
    (ChangeSpec.witness6 (enc := enc) (C := Try.checked) false ⟨#[], #[.slice none 0 0, .int .i64 0], []⟩ 8 (by kernel_rfl) (by kernel_rfl) (by kernel_rfl) (by kernel_rfl)) ?_
  intro W base args ds gs before hval0 hW hcnd _
  have hval : ∀ (j : Nat) t v, Try.f10.params[j]? = some t → args[j]? = some v → Value.okWide Try.prog W .any base t v := hval0
  have hW' := hW
  obtain ⟨p, q, hA0, hV, rfl, hfz, hnd⟩ := hW
  have hA : DataW.TrodAll enc Try.prog W 0 (fun _ => true) true Try.f10.params.toList args.toList ds p := hA0
  rw [Try.params10] at hA hval
  obtain ⟨v0, vs0, d0, ds0, p0, q0, hargs, rfl, rfl, h0, r0⟩ := trodAll_cons hA
  obtain ⟨v1, vs1, d1, ds1, p1, q1, rfl, rfl, rfl, h1, r1⟩ := trodAll_cons r0
  obtain ⟨rfl, rfl, rfl⟩ := trodAll_nil r1
  obtain rfl : args = #[v0, v1] := by cases args; simp_all
  obtain ⟨rfl, rfl⟩ := trodVars_none hV
  have k0 := h0
  have lt0 : ∀ x ∈ p0, x.block < W.heap.size := by obtain ⟨m, hm⟩ := k0; exact DataW.trod_lt m _ _ _ hm
  have k1 := h1
  have lt1 : ∀ x ∈ p1, x.block < W.heap.size := by obtain ⟨m, hm⟩ := k1; exact DataW.trod_lt m _ _ _ hm
  obtain ⟨a0, len0, cap0, rfl⟩ := okWide_slice Try.underlying23 (hval 0 23 v0 rfl rfl)
  obtain ⟨z0, w0⟩ : ∃ zs, IsRow .u8 W a0 len0 cap0 zs := by
    obtain ⟨fuel, hf⟩ := h0
    rcases open_ints Try.underlying23 Try.underlying5 (by kernel_rfl) hf with ⟨hcs, _⟩ | ⟨x, l, c, zs, hcs, _, hl, hm, hz, _, hcell, hwz⟩
    · simp [Value.cells] at hcs
      obtain ⟨rfl, rfl, rfl⟩ := hcs
      exact ⟨[], .inl ⟨rfl, rfl, rfl, rfl⟩⟩
    · simp [Value.cells] at hcs
      obtain ⟨rfl, rfl, rfl⟩ := hcs
      exact ⟨zs, .inr ⟨_, rfl, hl, hm, by simpa using hz, hcell, hwz⟩⟩
  obtain ⟨a1, rfl, rfl, rfl, w1⟩ := open_int Try.underlying3 (hval 1 3 v1 rfl rfl) h1
  have b1 := wf_i64 w1
  clear hA0 hval0
  refine (walk a0 len0 cap0 z0 a1 W w0 b1).mono fun e W' ⟨he, bel⟩ => ?_
  subst he
  exact ⟨_, rfl, _, _, _, [], _, [], hW', trodAll_mk1 (shut_bool Try.underlying4 _), (trodAll_cons_mk (Below.trod laidOut (by kernel_rfl) (of_decide_eq_true (by kernel_rfl)) k0 bel lt0) (trodAll_cons_mk (Below.trod laidOut (by kernel_rfl) (of_decide_eq_true (by kernel_rfl)) k1 bel lt1) trodAll_mk0)), rfl, bel.frame _, fun h => by cases h⟩

theorem over : Rows.fixedHalvesRow.holds Try.pinned (OpenSpec.ofChange Rows.fixedHalvesSpec) :=
  OpenClaim.holds_of_wide 10 Try.f10 rfl rfl rfl rfl rfl rfl rfl ⟨rfl, rfl, rfl, rfl, rfl⟩ rfl rfl rfl rfl rfl (by kernel_rfl) Try.func10 (by kernel_rfl)
    (of_decide_eq_true (by kernel_rfl)) (by unfold Func.isWrapper; first | (rw [if_pos (by decide +kernel)]; kernel_rfl) | (rw [if_neg (by decide +kernel)]; exact ⟨rfl, rfl⟩))
    (fun os started H enc _ => lifted os started H enc)

theorem proved : Rows.FixedHalvesSaid := over
end Go.Proofs.Ytnhphkiklfajnaa.fixedHalves
