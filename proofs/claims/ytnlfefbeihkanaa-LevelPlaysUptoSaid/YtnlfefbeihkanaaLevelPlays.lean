/-
  LevelPlays: FOR EVERY INPUT the law returns true and leaves its arguments as they were.
-/
import Derived.Test.YtnlfefbeihkanaaIrf
import Derived.Test.YtnlfefbeihkanaaSg
import Derived.Test.YtnlfefbeihkanaaRows
import Derived.WalkKit
import Derived.ProofKit
import Derived.OpenShut
import Derived.ShutString
import Derived.ChangeOld
import Derived.Below
import Derived.SizedLaws
import Derived.Lib.SmallJoins
import Derived.JoinedCond
import Derived.Test.YtnlfefbeihkanaaBulk
namespace Go.Proofs.Ytnlfefbeihkanaa.levelPlays
open Go.ChangeShapes Go.WideShapes Go.ChangeAt Go.RowKit
open Go.ChangeMaps (open_string shut_string)
set_option linter.unusedVariables false

theorem own : ownKnob Try.prog.godebug = none := by kernel_rfl
theorem laidOut : laidOutB Try.prog = true := by kernel_rfl

theorem row_below {w w' : World} {a : Option Addr} {len cap : Nat} {ss : List ByteArray} (h : StrRowU w a len cap ss) (hb : Below w.heap.size w w') : StrRowU w' a len cap ss := by
  obtain ⟨h1, h2, h3, h4⟩ := h
  refine ⟨h1, h2, h3, h4.imp id ?_⟩
  rintro ⟨b, o, rfl, hlt, hc⟩
  exact ⟨b, o, rfl, Nat.lt_of_lt_of_le hlt hb.size, fun i x hx => by rw [hb.cell (by simpa using hlt)]; exact hc i x hx⟩
theorem part_size {s x : ByteArray} (hx : x ∈ spS s) : x.size ≤ s.size := by
  obtain ⟨p, hp, rfl⟩ := List.mem_map.1 hx
  rw [bs_size]
  have := spl_sum _ p hp
  have h2 : s.data.toList.length = s.size := Array.length_toList
  omega
set_option maxHeartbeats 2000000 in
set_option maxRecDepth 100000 in
theorem walk (s : ByteArray) (a : Option Addr) (len cap : Nat) (ss : List ByteArray) (w : World) (hs : s.size ≤ 1048576) (h : StrRowU w a len cap ss) : Calls Try.prog 3 #[.string s, .slice a len cap] w (Yes w) := by
  by_cases hb1 : 3000 < s.size
  · have hb1' : (3000 : Int) < s.size := by omega
    replace h := Lib.hid h
    go_enter Try.func3, Try.ntmps3
    go_wp2_with fail
    refine (awake17_any _).mono ?_
    rintro e w4 ⟨rfl, b4⟩
    go_wp2_with fail
    go_ret
    exact ⟨rfl, b4⟩
  have hb1' : ¬ (3000 : Int) < s.size := by omega
  by_cases hb2 : 60 < len
  · have hb2' : (60 : Int) < len := by omega
    replace h := Lib.hid h
    go_enter Try.func3, Try.ntmps3
    go_wp2_with fail
    refine (awake17_any _).mono ?_
    rintro e w4 ⟨rfl, b4⟩
    go_wp2_with fail
    go_ret
    exact ⟨rfl, b4⟩
  have hb2' : ¬ (60 : Int) < len := by omega
  have SP := Lib.hid fun w => split_any s w hs
  have RS := Lib.hid fun w => rsplit_any s w hs
  have NA := Lib.hid fun w => name_any s w hs (fun _ => ca_all iRune s hs)
  have RN := Lib.hid fun w => rname_any rr_any s w hs
  have FI := Lib.hid fun w => filter_any s w hs (fun _ x hx => ca_all iRune x (Nat.le_trans (part_size hx) hs))
  have RF := Lib.hid fun w => rfilter_any s w hs
  have HI := Lib.hid fun w => hidden_any s w
  have RH := Lib.hid fun w => rhidden_any s w hs
  have JO := Lib.hid fun w' (hb : Below w.heap.size w w') => join_any a len cap ss w' (row_below h hb)
  have RJ := Lib.hid fun w' (hb : Below w.heap.size w w') => rjoin_any a len cap ss w' (row_below h hb)
  have hpos := spS_pos s
  have hle := spS_le s
  generalize nameB s = nb at *
  generalize filterB s = fb at *
  generalize hidB s = hd at *
  generalize joinB ss = J at *
  have e1 : (nb == nb) = true := by simp
  have e2 : (fb == fb) = true := by simp
  have e3 : (hd == hd) = true := by simp
  have e4 : (J.toList == J.toList) = true := by simp
  replace h := Lib.hid h
  go_enter Try.func3, Try.ntmps3
  go_wp2_with fail
  refine (SP.out _).mono ?_
  rintro e w1 ⟨v1, rfl, own1, b1⟩
  go_wp2_with fail
  refine (RS.out _).mono ?_
  rintro e w2 ⟨v2, rfl, own2, b2⟩
  have own1' := own_below own1 b2
  have B2 := Lib.hid (ext_trans b1 b2)
  clear b1 b2 own1 SP RS
  have SM := fun c d a b => same_any a b c d (spS s) w2
  generalize spS s = sp at *
  obtain ⟨g1, c1, rfl, -, hg1, -, hc1⟩ := own_cells own1' (by omega)
  obtain ⟨g2, c2, rfl, -, hg2, -, hc2⟩ := own_cells own2 (by omega)
  replace SM := Lib.hid (SM c1 c2 _ _ ⟨g1, rfl, hg1, hc1⟩ ⟨g2, rfl, hg2, hc2⟩ (by omega))
  clear own1' own2 hc1 hc2
  go_wp2_with fail
  refine SM.out.mono ?_
  rintro e w3 ⟨rfl, b3⟩
  have B3 := Lib.hid (ext_trans B2.out b3)
  clear b3 SM B2
  go_wp2_with fail
  refine (NA.out _).mono ?_
  rintro e w4 ⟨rfl, b4⟩
  have B4 := Lib.hid (ext_trans B3.out b4)
  clear b4 B3
  go_wp2_with fail
  refine (RN.out _).mono ?_
  rintro e w5 ⟨rfl, b5⟩
  have B5 := Lib.hid (ext_trans B4.out b5)
  clear b5 B4
  go_wp2_with fail
  refine (FI.out _).mono ?_
  rintro e w6 ⟨rfl, b6⟩
  have B6 := Lib.hid (ext_trans B5.out b6)
  clear b6 B5
  go_wp2_with fail
  refine (RF.out _).mono ?_
  rintro e w7 ⟨rfl, b7⟩
  have B7 := Lib.hid (ext_trans B6.out b7)
  clear b7 B6
  go_wp2_with fail
  refine (HI.out _).mono ?_
  rintro e w8 ⟨rfl, b8⟩
  have B8 := Lib.hid (ext_trans B7.out b8)
  clear b8 B7
  go_wp2_with fail
  refine (RH.out _).mono ?_
  rintro e w9 ⟨rfl, b9⟩
  have B9 := Lib.hid (ext_trans B8.out b9)
  clear b9 B8
  go_wp2_with fail
  refine (JO.out _ B9.out).mono ?_
  rintro e wa ⟨rfl, ba⟩
  have Ba := Lib.hid (ext_trans B9.out ba)
  clear ba B9
  go_wp2_with fail
  refine (RJ.out _ Ba.out).mono ?_
  rintro e wb ⟨rfl, bb⟩
  have Bb := Lib.hid (ext_trans Ba.out bb)
  clear bb Ba
  go_wp2_with fail
  refine (awake17_any _).mono ?_
  rintro e wc ⟨rfl, bc⟩
  go_wp2_with fail
  go_ret
  exact ⟨rfl, ext_trans Bb.out bc⟩

set_option maxRecDepth 100000 in
theorem lifted (os : Os) (started : os.Started) (H : Type) (enc : TypeId × Value → H) (F : Stop.Interp) :
    ReturnsInHanded {} Try.checked os 3 .any ((Rows.OpenSpec.upto Rows.levelPlaysSpec).pre6 enc Try.prog Try.f3 Rows.levelPlaysUptoRow.domain false) (((Rows.OpenSpec.upto Rows.levelPlaysSpec).at F).post enc Try.prog Try.f3 false true false false) := by
  refine returnsInHanded_of_cond (C := Try.checked) (s := Rows.OpenSpec.upto Rows.levelPlaysSpec) (k := Rows.uptoSmall) rfl own started (by kernel_rfl) Try.func3
    (OpenSpec.witness (enc := enc) (C := Try.checked) (s := Rows.OpenSpec.upto Rows.levelPlaysSpec) (k := Rows.uptoSmall) rfl false ⟨#[], #[.string ByteArray.empty, .slice none 0 0], []⟩ 8 (by kernel_rfl) (by kernel_rfl) (by kernel_rfl)
      (x := ([.lit (.string []), .nil], [], [])) (by kernel_rfl) rfl (by kernel_rfl)) ?_
  intro W base args ds gs before hval0 hW hcnd hk _
  have hval : ∀ (j : Nat) t v, Try.f3.params[j]? = some t → args[j]? = some v → Value.okWide Try.prog W .any base t v := hval0
  have hW' := hW
  obtain ⟨p, q, hA0, hV, rfl, hfz, hnd⟩ := hW
  have hA : DataW.TrodAll enc Try.prog W 0 (fun _ => true) true Try.f3.params.toList args.toList ds p := hA0
  rw [Try.params3] at hA hval
  obtain ⟨v0, vs0, d0, ds0, p0, q0, hargs, rfl, rfl, h0, r0⟩ := trodAll_cons hA
  obtain ⟨v1, vs1, d1, ds1, p1, q1, rfl, rfl, rfl, h1, r1⟩ := trodAll_cons r0
  obtain ⟨rfl, rfl, rfl⟩ := trodAll_nil r1
  obtain rfl : args = #[v0, v1] := by cases args; simp_all
  obtain ⟨rfl, rfl⟩ := trodVars_none hV
  have hb0 : Rows.uptoBulk d0 ≤ 1048576 := bulks.le hk (by simp)
  have hb1 : Rows.uptoBulk d1 ≤ 1048576 := bulks.le hk (by simp)
  have k0 := h0
  have lt0 : ∀ x ∈ p0, x.block < W.heap.size := by obtain ⟨m, hm⟩ := k0; exact DataW.trod_lt m _ _ _ hm
  have k1 := h1
  have lt1 : ∀ x ∈ p1, x.block < W.heap.size := by obtain ⟨m, hm⟩ := k1; exact DataW.trod_lt m _ _ _ hm
  obtain ⟨a0, rfl, rfl, rfl, w0⟩ := open_string Try.underlying9 (hval 0 9 v0 rfl rfl) h0
  have s0 : a0.size ≤ 1048576 := by
    have := bulks.string_len hb0
    simp only [Array.length_toList] at this
    exact this
  obtain ⟨a1, len1, cap1, rfl⟩ := okWide_slice Try.underlying22 (hval 1 22 v1 rfl rfl)
  obtain ⟨z1, w1⟩ : ∃ ss, StrRowU W a1 len1 cap1 ss := by
    obtain ⟨fuel, hf⟩ := h1
    exact open_str_argU Try.underlying22 Try.underlying9 (by kernel_rfl) hf hb1
  clear hA0 hval0
  refine (walk a0 a1 len1 cap1 z1 W s0 w1).mono fun e W' ⟨he, bel⟩ => ?_
  subst he
  exact ⟨_, rfl, _, _, _, [], _, [], hW', trodAll_mk1 (shut_bool Try.underlying4 _), (trodAll_cons_mk (Below.trod laidOut (by kernel_rfl) (of_decide_eq_true (by kernel_rfl)) k0 bel lt0) (trodAll_cons_mk (Below.trod laidOut (by kernel_rfl) (of_decide_eq_true (by kernel_rfl)) k1 bel lt1) trodAll_mk0)), rfl, bel.frame _, fun h => by cases h⟩

theorem over : Rows.levelPlaysUptoRow.holds Try.pinned (Rows.OpenSpec.upto Rows.levelPlaysSpec) :=
  OpenClaim.holds_of_cond 3 Try.f3 rfl rfl rfl rfl rfl rfl rfl ⟨rfl, rfl, rfl, rfl, rfl⟩ rfl rfl rfl rfl rfl (by kernel_rfl) Try.func3 (by kernel_rfl)
    (of_decide_eq_true (by kernel_rfl)) (by unfold Func.isWrapper; first | (rw [if_pos (by decide +kernel)]; kernel_rfl) | (rw [if_neg (by decide +kernel)]; exact ⟨rfl, rfl⟩))
    (fun os started H enc _ F => lifted os started H enc F)

theorem proved : Rows.LevelPlaysUptoSaid := over
end Go.Proofs.Ytnlfefbeihkanaa.levelPlays
