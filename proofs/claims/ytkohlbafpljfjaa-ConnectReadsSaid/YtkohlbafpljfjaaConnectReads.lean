/-
  ConnectReads: FOR EVERY INPUT the law returns true and leaves its arguments as they were.
-/
import Derived.Test.YtkohlbafpljfjaaKf
import Derived.Test.YtkohlbafpljfjaaCi
import Derived.Test.YtkohlbafpljfjaaRows
import Derived.WalkKit
import Derived.ProofKit
import Derived.OpenShut
import Derived.ShutString
import Derived.ChangeOld
import Derived.Below
import Derived.SizedLaws
import Derived.Lib.SmallJoins
namespace Go.Proofs.Ytkohlbafpljfjaa.connectReads
set_option linter.unusedSimpArgs false
open Go.ChangeShapes Go.WideShapes Go.ChangeAt Go.RowKit
open Go.ChangeMaps (open_string shut_string)
set_option linter.unusedVariables false

theorem own : ownKnob Try.prog.godebug = none := by kernel_rfl
theorem laidOut : laidOutB Try.prog = true := by kernel_rfl

theorem con_eq (X : Con.Con) (w : World) : (binOp .eql 51 (.agg X.v) (.agg X.v)).run Try.prog w = .ok (.bool true) w := by
  unfold Con.Con.v
  simp only [binOp]
  simp [go_sem, Op.equal, Op.maxDepth]
set_option maxHeartbeats 4000000 in
set_option maxRecDepth 100000 in
theorem walk (S : ByteArray) (w : World) (s0 : S.size ≤ 140737488351232) : Calls Try.prog 7 #[.string S] w (Yes w) := by
  have P1 := fun W => Con.of_any S W s0
  have P2 := fun W => Con.rof_any S W s0
  unfold Con.RestIs at P2
  generalize Con.docV (txtL S) = R at *
  obtain ⟨X, E⟩ := R
  have CE := con_eq X
  obtain ⟨x0, x1, x2, x3, x4, x5, x6, x7, x8, x9, x10, x11, x12⟩ := X
  unfold Con.Con.v at P1 P2
  simp only at P1 P2
  replace P1 := Lib.hid P1
  replace P2 := Lib.hid P2
  replace CE := Lib.hid CE
  go_enter Try.func7, Try.ntmps7
  go_wp2_with fail
  refine (P1.out _).mono ?_
  rintro e w1 ⟨rfl, b1⟩
  have b2 := ext_trans b1 (ext_alloc w1 (.cells (Con.Con.v ⟨x0, x1, x2, x3, x4, x5, x6, x7, x8, x9, x10, x11, x12⟩) 51))
  replace b2 := Lib.hid b2
  clear b1
  go_wp2_with fail
  refine (P2.out _).mono ?_
  rintro e w2 ⟨rfl, b3⟩
  have k1 := (Blk.new w1 51 (Con.Con.v ⟨x0, x1, x2, x3, x4, x5, x6, x7, x8, x9, x10, x11, x12⟩)).ext b3
  have b4 := ext_trans b2.out b3
  have b5 := ext_trans b4 (ext_alloc w2 (.cells (Con.Con.v ⟨x0, x1, x2, x3, x4, x5, x6, x7, x8, x9, x10, x11, x12⟩) 51))
  have K1 : Blk (w2.alloc (.cells (Con.Con.v ⟨x0, x1, x2, x3, x4, x5, x6, x7, x8, x9, x10, x11, x12⟩) 51)) w1.heap.size 51 (Con.Con.v ⟨x0, x1, x2, x3, x4, x5, x6, x7, x8, x9, x10, x11, x12⟩) := k1.alloc _
  have K2 : Blk (w2.alloc (.cells (Con.Con.v ⟨x0, x1, x2, x3, x4, x5, x6, x7, x8, x9, x10, x11, x12⟩) 51)) w2.heap.size 51 (Con.Con.v ⟨x0, x1, x2, x3, x4, x5, x6, x7, x8, x9, x10, x11, x12⟩) := Blk.new w2 51 _
  generalize w1.heap.size = g1 at *
  replace b5 := Lib.hid b5
  replace K1 := Lib.hid K1
  replace K2 := Lib.hid K2
  clear b2 b3 b4 k1 P1 P2
  replace CE := CE.out
  go_wp2_with (first
    | (refine wpList_load_row rfl 51 (.tmp 3) rfl g1 rfl 51 (Con.Con.v ⟨x0, x1, x2, x3, x4, x5, x6, x7, x8, x9, x10, x11, x12⟩) (0, 0) _ ?_ Try.underlying51 rfl (Con.con_sizeX _) ?_; exact K1.out)
    | (refine wpList_load_row rfl 51 (.tmp 5) rfl w2.heap.size rfl 51 (Con.Con.v ⟨x0, x1, x2, x3, x4, x5, x6, x7, x8, x9, x10, x11, x12⟩) (0, 0) _ ?_ Try.underlying51 rfl (Con.con_sizeX _) ?_; exact K2.out))
  refine (awake13_any _).mono ?_
  rintro e w3 ⟨rfl, b6⟩
  have b7 := Lib.hid (ext_trans b5.out b6)
  clear b5 b6
  go_wp2_with fail
  go_ret
  exact ⟨rfl, b7.out⟩

set_option maxRecDepth 100000 in
theorem lifted (os : Os) (started : os.Started) (H : Type) (enc : TypeId × Value → H) :
    ReturnsInHanded {} Try.checked os 7 .any (Rows.connectReadsSpec.pre6 enc Try.prog Try.f7 Rows.connectReadsRow.domain false) (Rows.connectReadsSpec.post enc Try.prog Try.f7 false true false false) := by
  refine returnsInHanded_of_change_sized (C := Try.checked) own started (by kernel_rfl) Try.func7
    (ChangeSpec.witness6 (enc := enc) (C := Try.checked) false ⟨#[], #[.string ByteArray.empty], []⟩ 8 (by kernel_rfl) (by kernel_rfl) (by kernel_rfl) (by kernel_rfl)) ?_
  intro W base args ds gs before hval0 hW hcnd hsz0 _
  have hsz : (DataW.weightsEach Try.prog (Try.f7.params.toList ++ Rows.connectReadsSpec.plain.varTypes Try.prog) (ds ++ gs)).all (· ≤ reachBytes) = true := hsz0
  have hval : ∀ (j : Nat) t v, Try.f7.params[j]? = some t → args[j]? = some v → Value.okWide Try.prog W .any base t v := hval0
  have hW' := hW
  obtain ⟨p, q, hA0, hV, rfl, hfz, hnd⟩ := hW
  have hA : DataW.TrodAll enc Try.prog W 0 (fun _ => true) true Try.f7.params.toList args.toList ds p := hA0
  rw [Try.params7] at hA hval hsz
  obtain ⟨v0, vs0, d0, ds0, p0, q0, hargs, rfl, rfl, h0, r0⟩ := trodAll_cons hA
  obtain ⟨rfl, rfl, rfl⟩ := trodAll_nil r0
  obtain rfl : args = #[v0] := by cases args; simp_all
  obtain ⟨rfl, rfl⟩ := trodVars_none hV
  have k0 := h0
  have lt0 : ∀ x ∈ p0, x.block < W.heap.size := by obtain ⟨m, hm⟩ := k0; exact DataW.trod_lt m _ _ _ hm
  obtain ⟨a0, rfl, rfl, rfl, w0⟩ := open_string Try.underlying9 (hval 0 9 v0 rfl rfl) h0
  have s0 : a0.size ≤ 140737488351232 := by
    have := sized_string hsz (j := 0) (t := 9) rfl rfl
    simp only [Array.length_toList, reachBytes] at this
    exact this
  clear hA0 hval0 hsz0
  refine (walk a0 W s0).mono fun e W' ⟨he, bel⟩ => ?_
  subst he
  exact ⟨_, rfl, _, _, _, [], _, [], hW', trodAll_mk1 (shut_bool Try.underlying4 _), (trodAll_cons_mk (Below.trod laidOut (by kernel_rfl) (of_decide_eq_true (by kernel_rfl)) k0 bel lt0) trodAll_mk0), rfl, bel.frame _, fun h => by cases h⟩

theorem over : Rows.connectReadsRow.holds Try.pinned (OpenSpec.ofChange Rows.connectReadsSpec) :=
  OpenClaim.holds_of_wide 7 Try.f7 rfl rfl rfl rfl rfl rfl rfl ⟨rfl, rfl, rfl, rfl, rfl⟩ rfl rfl rfl rfl rfl (by kernel_rfl) Try.func7 (by kernel_rfl)
    (of_decide_eq_true (by kernel_rfl)) (by unfold Func.isWrapper; first | (rw [if_pos (by decide +kernel)]; kernel_rfl) | (rw [if_neg (by decide +kernel)]; exact ⟨rfl, rfl⟩))
    (fun os started H enc _ => lifted os started H enc)

theorem proved : Rows.ConnectReadsSaid := over
end Go.Proofs.Ytkohlbafpljfjaa.connectReads
