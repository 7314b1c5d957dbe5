/-
  LevelBack: FOR EVERY INPUT the law returns true and leaves its arguments as they were.
-/
import Derived.Test.YtnlfefbeihkanaaSc
import Derived.Test.YtnlfefbeihkanaaRows
import Derived.WalkKit
import Derived.ProofKit
import Derived.OpenShut
import Derived.ShutString
import Derived.ChangeOld
import Derived.Below
import Derived.SizedLaws
import Derived.Lib.SmallJoins
import Derived.JoinedCond
import Derived.Test.YtnlfefbeihkanaaBulk
namespace Go.Proofs.Ytnlfefbeihkanaa.levelBack
open Go.ChangeShapes Go.WideShapes Go.ChangeAt Go.RowKit
open Go.ChangeMaps (open_string shut_string)
set_option linter.unusedVariables false

theorem own : ownKnob Try.prog.godebug = none := by kernel_rfl
theorem laidOut : laidOutB Try.prog = true := by kernel_rfl

def cntS (s : ByteArray) (k : Nat) : Nat := ((s.data.toList.take k).filter (· == 47)).length
theorem cntS_succ (s : ByteArray) (k : Nat) (hk : k < s.size) : cntS s (k + 1) = cntS s k + if gB s k = 47 then 1 else 0 := by
  obtain ⟨c, h1, h2⟩ := gB_get s k hk
  obtain ⟨hlt, he⟩ := List.getElem?_eq_some_iff.1 h1
  unfold cntS
  rw [List.take_succ_eq_append_getElem hlt, List.filter_append, List.length_append, he]
  congr 1
  rw [← h2]
  by_cases hc : c = 47
  · subst hc; rfl
  · have : ¬ c.toNat = 47 := fun e => hc (UInt8.toNat_inj.1 e)
    rw [if_neg this]
    have hb : (c == 47) = false := by simpa using hc
    simp [hb]
theorem cntS_end (s : ByteArray) : (spS s).length = 1 + cntS s s.size := by
  have h2 : s.data.toList.length = s.size := Array.length_toList
  unfold spS cntS
  rw [List.length_map, spl_length, List.take_of_length_le (by omega)]
  unfold slashes
  omega
theorem cntS_le (s : ByteArray) (k : Nat) : cntS s k ≤ s.size := by
  have h2 : s.data.toList.length = s.size := Array.length_toList
  unfold cntS
  refine Nat.le_trans (List.length_filter_le _ _) ?_
  rw [List.length_take]
  omega
theorem part_no {s x : ByteArray} (hx : x ∈ spS s) (k : Nat) (hk : k < x.size) : gB x k ≠ 47 := by
  obtain ⟨p, hp, rfl⟩ := List.mem_map.1 hx
  obtain ⟨c, h1, h2⟩ := gB_get _ k hk
  intro h
  have := spl_part _ p hp c (List.mem_of_getElem? h1)
  apply this
  apply UInt8.toNat_inj.1
  rw [h2, h]; rfl
theorem gB_idx (s : ByteArray) (k : Nat) (h : k < s.size) : (s[k]'h).toNat = gB s k := by
  unfold gB ByteArray.get!
  show (s.data[k]'h).toNat = (s.data[k]!).toNat
  rw [getElem!_pos s.data k h]
set_option maxHeartbeats 2000000 in
set_option maxRecDepth 100000 in
theorem walk (s : ByteArray) (w : World) (hs : s.size ≤ 1048576) : Calls Try.prog 4 #[.string s] w (Yes w) := by
  have SP := Lib.hid (split_any s w hs)
  have hpos := spS_pos s
  have hle := spS_le s
  have hsl : ∀ x ∈ spS s, x.size ≤ s.size := fun x hx => by
    obtain ⟨p, hp, rfl⟩ := List.mem_map.1 hx
    rw [bs_size]
    have := spl_sum _ p hp
    have h2 : s.data.toList.length = s.size := Array.length_toList
    omega
  have hend0 := cntS_end s
  go_enter Try.func4, Try.ntmps4
  go_wp2_with fail
  refine (SP.out).mono ?_
  rintro e w1 ⟨v, rfl, hown, b1⟩
  replace b1 := Lib.hid b1
  have J := Lib.hid fun w' (hb : Below w1.heap.size w1 w') => join_own s v w.heap.size w' hs (own_below hown hb)
  have hno := Lib.hid fun x (hx : x ∈ spS s) => part_no hx
  replace hsl := Lib.hid hsl
  obtain ⟨g, cap, rfl, -, hg, hcap, hcell⟩ := own_cells hown (by omega)
  replace hcell := Lib.hid hcell
  replace hend0 := Lib.hid hend0
  clear hown SP
  have hs' : (s.size : Int) ≤ 1048576 := by omega
  generalize spS s = ss at *
  have hl' : (ss.length : Int) ≤ 1048577 := by omega
  go_wp2
  go_loopw [4, 5] (fun n i wr => ∃ k : Nat, i = .int .i64 k ∧ k ≤ s.size ∧ n = .int .i64 ((1 + cntS s k : Nat) : Int) ∧ Below w1.heap.size w1 wr) (fun _ i _ => s.size - (intOf i).toNat)
  case atStart => exact ⟨0, rfl, by omega, by simp [cntS], Below.refl _ _⟩
  case round =>
    obtain ⟨k, rfl, hk, rfl, hb⟩ := hrel
    have hc6 := cntS_le s k
    have B2 := Lib.hid (b1.out.trans (hb.mono b1.out.size))
    replace hb := Lib.hid hb
    by_cases hend : k = s.size
    · subst hend
      rw [← hend0.out]
      go_wp2
      rename World => w2
      go_loopw [6, 7] (fun i _ wr => ∃ k : Nat, i = .int .i64 k ∧ k ≤ ss.length ∧ Below w1.heap.size w1 wr) (fun i _ _ => ss.length - (intOf i).toNat)
      case atStart => exact ⟨0, rfl, by omega, hb.out⟩
      case round =>
        obtain ⟨k, rfl, hk, hb2⟩ := hrel
        have B3 := Lib.hid (b1.out.trans (hb2.mono b1.out.size))
        replace hb2 := Lib.hid hb2
        by_cases hend2 : k = ss.length
        · subst hend2
          go_wp2_with fail
          refine (J.out _ hb2.out).mono ?_
          rintro e w3 ⟨rfl, b3⟩
          have B4 := Lib.hid (ext_trans B3.out b3)
          have hss : (s.toList == s.toList) = true := by simp
          have hend1 : (ss.length : Int) = 1 + (cntS s s.size : Int) := by have := hend0.out; omega
          clear b3
          go_wp2_with fail
          refine (awake17_any _).mono ?_
          rintro e w4 ⟨rfl, b4⟩
          go_wp2_with fail
          go_ret
          exact ⟨rfl, ext_trans B4.out b4⟩
        obtain ⟨x, hx⟩ : ∃ x, ss[k]? = some x := ⟨_, List.getElem?_eq_getElem (by omega)⟩
        have hno1 := Lib.hid (hno.out x (List.mem_of_getElem? hx))
        have hxs : (x.size : Int) ≤ 1048576 := by have := hsl.out x (List.mem_of_getElem? hx); omega
        have hxc := Lib.hid fun w' (hb : Below w1.heap.size w1 w') => (show w'.cell? ⟨g, k, none⟩ = some (.string x) by rw [hb.cell (by simpa using hg)]; exact hcell.out k x hx)
        have klt : (k : Int) < (ss.length : Int) := by omega
        replace hx := Lib.hid hx
        have hk2 : (k : Int) ≤ 1048577 := by omega
        go_wp2
        rename World => w5
        go_loopw [7] (fun i wr => ∃ m : Nat, i = .int .i64 m ∧ m ≤ x.size ∧ Below w1.heap.size w1 wr) (fun i _ => x.size - (intOf i).toNat)
        case atStart => exact ⟨0, rfl, by omega, hb2.out⟩
        case round =>
          obtain ⟨m, rfl, hm, hb6⟩ := hrel
          have c0 := hxc.out _ hb6
          replace hb6 := Lib.hid hb6
          by_cases hend3 : m = x.size
          · subst hend3
            go_wp2_with fail
            go_roundw
            case rel => exact ⟨k + 1, by simp, by omega, hb6.out⟩
            case measure => simp [intOf]; omega
          · have mlt : m < x.size := by omega
            have mlt' : (m : Int) < x.size := by omega
            have hq : (((x[m]'mlt).toNat : Int) == 47) = false := by
              rw [gB_idx, beq_eq_false_iff_ne]
              have := hno1.out m mlt
              omega
            go_wp2_with fail
            go_roundw
            case rel => exact ⟨m + 1, by simp, by omega, hb6.out⟩
            case measure => simp [intOf]; omega
    · have hlt : (k : Int) < s.size := by omega
      have hkn : k < s.size := by omega
      have hn := cntS_succ s k hkn
      by_cases h47 : gB s k = 47
      · have hq : (((s[k]'hkn).toNat : Int) == 47) = true := by rw [gB_idx, h47]; rfl
        rw [if_pos h47] at hn
        replace hn := Lib.hid hn
        replace h47 := Lib.hid h47
        generalize cntS s k = q at *
        have hq6 : (q : Int) ≤ 1048576 := by omega
        go_wp2_with fail
        go_roundw
        case rel => exact ⟨k + 1, by simp, by omega, by rw [hn.out]; simp; omega, hb.out⟩
        case measure => simp [intOf]; omega
      · have hq : (((s[k]'hkn).toNat : Int) == 47) = false := by rw [gB_idx, beq_eq_false_iff_ne]; omega
        rw [if_neg h47] at hn
        replace hn := Lib.hid hn
        replace h47 := Lib.hid h47
        generalize cntS s k = q at *
        go_wp2_with fail
        go_roundw
        case rel => exact ⟨k + 1, by simp, by omega, by rw [hn.out]; simp, hb.out⟩
        case measure => simp [intOf]; omega

set_option maxRecDepth 100000 in
theorem lifted (os : Os) (started : os.Started) (H : Type) (enc : TypeId × Value → H) (F : Stop.Interp) :
    ReturnsInHanded {} Try.checked os 4 .any ((Rows.OpenSpec.upto Rows.levelBackSpec).pre6 enc Try.prog Try.f4 Rows.levelBackUptoRow.domain false) (((Rows.OpenSpec.upto Rows.levelBackSpec).at F).post enc Try.prog Try.f4 false true false false) := by
  refine returnsInHanded_of_cond (C := Try.checked) (s := Rows.OpenSpec.upto Rows.levelBackSpec) (k := Rows.uptoSmall) rfl own started (by kernel_rfl) Try.func4
    (OpenSpec.witness (enc := enc) (C := Try.checked) (s := Rows.OpenSpec.upto Rows.levelBackSpec) (k := Rows.uptoSmall) rfl false ⟨#[], #[.string ByteArray.empty], []⟩ 8 (by kernel_rfl) (by kernel_rfl) (by kernel_rfl)
      (x := ([.lit (.string [])], [], [])) (by kernel_rfl) rfl (by kernel_rfl)) ?_
  intro W base args ds gs before hval0 hW hcnd hk _
  have hval : ∀ (j : Nat) t v, Try.f4.params[j]? = some t → args[j]? = some v → Value.okWide Try.prog W .any base t v := hval0
  have hW' := hW
  obtain ⟨p, q, hA0, hV, rfl, hfz, hnd⟩ := hW
  have hA : DataW.TrodAll enc Try.prog W 0 (fun _ => true) true Try.f4.params.toList args.toList ds p := hA0
  rw [Try.params4] at hA hval
  obtain ⟨v0, vs0, d0, ds0, p0, q0, hargs, rfl, rfl, h0, r0⟩ := trodAll_cons hA
  obtain ⟨rfl, rfl, rfl⟩ := trodAll_nil r0
  obtain rfl : args = #[v0] := by cases args; simp_all
  obtain ⟨rfl, rfl⟩ := trodVars_none hV
  have hb0 : Rows.uptoBulk d0 ≤ 1048576 := bulks.le hk (by simp)
  have k0 := h0
  have lt0 : ∀ x ∈ p0, x.block < W.heap.size := by obtain ⟨m, hm⟩ := k0; exact DataW.trod_lt m _ _ _ hm
  obtain ⟨a0, rfl, rfl, rfl, w0⟩ := open_string Try.underlying9 (hval 0 9 v0 rfl rfl) h0
  have s0 : a0.size ≤ 1048576 := by
    have := bulks.string_len hb0
    simp only [Array.length_toList] at this
    exact this
  clear hA0 hval0
  refine (walk a0 W s0).mono fun e W' ⟨he, bel⟩ => ?_
  subst he
  exact ⟨_, rfl, _, _, _, [], _, [], hW', trodAll_mk1 (shut_bool Try.underlying4 _), (trodAll_cons_mk (Below.trod laidOut (by kernel_rfl) (of_decide_eq_true (by kernel_rfl)) k0 bel lt0) trodAll_mk0), rfl, bel.frame _, fun h => by cases h⟩

theorem over : Rows.levelBackUptoRow.holds Try.pinned (Rows.OpenSpec.upto Rows.levelBackSpec) :=
  OpenClaim.holds_of_cond 4 Try.f4 rfl rfl rfl rfl rfl rfl rfl ⟨rfl, rfl, rfl, rfl, rfl⟩ rfl rfl rfl rfl rfl (by kernel_rfl) Try.func4 (by kernel_rfl)
    (of_decide_eq_true (by kernel_rfl)) (by unfold Func.isWrapper; first | (rw [if_pos (by decide +kernel)]; kernel_rfl) | (rw [if_neg (by decide +kernel)]; exact ⟨rfl, rfl⟩))
    (fun os started H enc _ F => lifted os started H enc F)

theorem proved : Rows.LevelBackUptoSaid := over
end Go.Proofs.Ytnlfefbeihkanaa.levelBack
