/-
  MetaReads: FOR EVERY INPUT the law returns true and leaves its arguments as they were.
-/
import Derived.Test.YtoglgdkeknojkaaMk
import Derived.Test.YtoglgdkeknojkaaRows
import Derived.WalkKit
import Derived.ProofKit
import Derived.OpenShut
import Derived.ShutString
import Derived.ChangeOld
import Derived.Below
import Derived.SizedLaws
import Derived.Lib.SmallJoins
namespace Go.Proofs.Ytoglgdkeknojkaa.metaReads
open Go.ChangeShapes Go.WideShapes Go.ChangeAt Go.RowKit
open Go.ChangeMaps (open_string shut_string)
set_option linter.unusedVariables false

theorem own : ownKnob Try.prog.godebug = none := by kernel_rfl
theorem laidOut : laidOutB Try.prog = true := by kernel_rfl

set_option maxHeartbeats 2000000 in
set_option maxRecDepth 100000 in
theorem walk (a : Option Addr) (len cap : Nat) (zs : List Int) (w : World) (hr : IsRow .u8 w a len cap zs) (hs : cap * 1 ≤ 140737488351232) :
    Calls Try.prog 4 #[.slice a len cap] w (Yes w) := by
  obtain ⟨l, hl, hS, hlt, hll⟩ : ∃ l : List Nat, l.length = len ∧ Src w (.slice a len cap) l ∧ (∀ x ∈ l, x < 256) ∧ l.length ≤ 140737488355328 := by
    obtain ⟨h1, h2, h3⟩ := hr.bytes
    exact ⟨_, h2, Src.of_row hr, h3, by have := hr.len_le; omega⟩
  have P := Lib.hid (mof12_any _ l w hS hlt hll)
  have R := Lib.hid fun w' (hb : Below w.heap.size w w') => mrof_any _ l w' ((hS.keep hb (Nat.le_refl _)).bytes) hlt hll
  generalize ofMR l = X at *
  obtain ⟨⟨m0, m1, m2, m3, m4, m5, m6, m7⟩, E⟩ := X
  unfold OfM at P R
  simp only [Me.val, Me.cells] at P R
  clear hS hlt hll hr
  go_enter Try.func4, Try.ntmps4
  go_wp2_with fail
  refine P.out.mono ?_
  rintro e w1 ⟨rfl, b1⟩
  have b1' := Lib.hid (b1.alloc b1.size (.cells #[.bool m0, .string m1, .int .u64 (m2 : Nat), .int .u64 (m3 : Nat), .string m4, .string m5, .string m6, .string m7] 24))
  have hM1 := Lib.hid (Blk.new w1 24 #[.bool m0, .string m1, .int .u64 (m2 : Nat), .int .u64 (m3 : Nat), .string m4, .string m5, .string m6, .string m7])
  clear b1
  go_wp2_with fail
  refine (R.out _ b1'.out).mono ?_
  rintro e w2 ⟨rfl, b2⟩
  have hM2 := Blk.ext hM1.out b2
  obtain ⟨c0, c1, c2, c3, c4, c5, c6, c7⟩ := box8b hM2
  have lt1 : w1.heap.size < w2.heap.size := Blk.lt hM2
  clear hM2
  have B2 := Lib.hid ((ext_trans b1'.out b2).alloc (by have := b1'.out.size; have := b2.size; omega) (.cells #[.bool m0, .string m1, .int .u64 (m2 : Nat), .int .u64 (m3 : Nat), .string m4, .string m5, .string m6, .string m7] 24))
  clear b2
  go_wp2_with fail
  refine (mawake_any _).mono ?_
  rintro e w3 ⟨rfl, b3⟩
  go_wp2_with fail
  go_ret
  exact ⟨rfl, ext_trans B2.out b3⟩

set_option maxRecDepth 100000 in
theorem lifted (os : Os) (started : os.Started) (H : Type) (enc : TypeId × Value → H) :
    ReturnsInHanded {} Try.checked os 4 .any (Rows.metaReadsSpec.pre6 enc Try.prog Try.f4 Rows.metaReadsRow.domain false) (Rows.metaReadsSpec.post enc Try.prog Try.f4 false true false false) := by
  refine returnsInHanded_of_change_sized (C := Try.checked) own started (by kernel_rfl) Try.func4
    (ChangeSpec.witness6 (enc := enc) (C := Try.checked) false ⟨#[], #[.slice none 0 0], []⟩ 8 (by kernel_rfl) (by kernel_rfl) (by kernel_rfl) (by kernel_rfl)) ?_
  intro W base args ds gs before hval0 hW hcnd hsz0 _
  have hsz : (DataW.weightsEach Try.prog (Try.f4.params.toList ++ Rows.metaReadsSpec.plain.varTypes Try.prog) (ds ++ gs)).all (· ≤ reachBytes) = true := hsz0
  have hval : ∀ (j : Nat) t v, Try.f4.params[j]? = some t → args[j]? = some v → Value.okWide Try.prog W .any base t v := hval0
  have hW' := hW
  obtain ⟨p, q, hA0, hV, rfl, hfz, hnd⟩ := hW
  have hA : DataW.TrodAll enc Try.prog W 0 (fun _ => true) true Try.f4.params.toList args.toList ds p := hA0
  rw [Try.params4] at hA hval hsz
  obtain ⟨v0, vs0, d0, ds0, p0, q0, hargs, rfl, rfl, h0, r0⟩ := trodAll_cons hA
  obtain ⟨rfl, rfl, rfl⟩ := trodAll_nil r0
  obtain rfl : args = #[v0] := by cases args; simp_all
  obtain ⟨rfl, rfl⟩ := trodVars_none hV
  have k0 := h0
  have lt0 : ∀ x ∈ p0, x.block < W.heap.size := by obtain ⟨m, hm⟩ := k0; exact DataW.trod_lt m _ _ _ hm
  obtain ⟨a0, len0, cap0, rfl⟩ := okWide_slice Try.underlying25 (hval 0 25 v0 rfl rfl)
  obtain ⟨z0, w0, s0⟩ : ∃ zs, IsRow .u8 W a0 len0 cap0 zs ∧ cap0 * 1 ≤ 140737488351232 := by
    obtain ⟨fuel, hf⟩ := h0
    rcases open_ints Try.underlying25 Try.underlying5 (by kernel_rfl) hf with ⟨hcs, _⟩ | ⟨x, l, c, zs, hcs, _, hl, hm, hz, hx, hcell, hwz⟩
    · simp [Value.cells] at hcs
      obtain ⟨rfl, rfl, rfl⟩ := hcs
      exact ⟨[], .inl ⟨rfl, rfl, rfl, rfl⟩, by omega⟩
    · simp [Value.cells] at hcs
      obtain ⟨rfl, rfl, rfl⟩ := hcs
      have hz' : zs.length = cap0 := by simpa using hz
      have hd : d0 = .slice (lits .u8 (zs.take len0)) (lits .u8 (zs.drop len0)) := congrArg Prod.fst hx
      have hroom := sized_slice hsz (j := 0) (t := 25) (e := 5) rfl (by rw [hd]; rfl) Try.underlying25
      rw [show Try.prog.bytesOf 5 = 1 from by kernel_rfl] at hroom
      simp only [lits, List.length_map, List.length_take, List.length_drop, reachBytes] at hroom
      exact ⟨zs, .inr ⟨_, rfl, hl, hm, hz', hcell, hwz⟩, by omega⟩
  clear hA0 hval0 hsz0
  refine (walk a0 len0 cap0 z0 W w0 s0).mono fun e W' ⟨he, bel⟩ => ?_
  subst he
  exact ⟨_, rfl, _, _, _, [], _, [], hW', trodAll_mk1 (shut_bool Try.underlying4 _), (trodAll_cons_mk (Below.trod laidOut (by kernel_rfl) (of_decide_eq_true (by kernel_rfl)) k0 bel lt0) trodAll_mk0), rfl, bel.frame _, fun h => by cases h⟩

theorem over : Rows.metaReadsRow.holds Try.pinned (OpenSpec.ofChange Rows.metaReadsSpec) :=
  OpenClaim.holds_of_wide 4 Try.f4 rfl rfl rfl rfl rfl rfl rfl ⟨rfl, rfl, rfl, rfl, rfl⟩ rfl rfl rfl rfl rfl (by kernel_rfl) Try.func4 (by kernel_rfl)
    (of_decide_eq_true (by kernel_rfl)) (by unfold Func.isWrapper; first | (rw [if_pos (by decide +kernel)]; kernel_rfl) | (rw [if_neg (by decide +kernel)]; exact ⟨rfl, rfl⟩))
    (fun os started H enc _ => lifted os started H enc)

theorem proved : Rows.MetaReadsSaid := over
end Go.Proofs.Ytoglgdkeknojkaa.metaReads
