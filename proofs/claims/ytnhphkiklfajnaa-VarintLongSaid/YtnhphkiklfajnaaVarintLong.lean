/-
  VarintLong: FOR EVERY INPUT the law returns true and leaves its arguments as they were.
-/
import Derived.Test.YtnhphkiklfajnaaGl
import Derived.Test.YtnhphkiklfajnaaVb
import Derived.Test.YtnhphkiklfajnaaApp
import Derived.Test.YtnhphkiklfajnaaRows
import Derived.WalkKit
import Derived.ProofKit
import Derived.OpenShut
import Derived.ShutString
import Derived.ChangeOld
import Derived.Below
import Derived.SizedLaws
namespace Go.Proofs.Ytnhphkiklfajnaa.varintLong
open Go.ChangeShapes Go.WideShapes Go.ChangeAt Go.RowKit
open Go.ChangeMaps (open_string shut_string)
set_option linter.unusedVariables false

theorem own : ownKnob Try.prog.godebug = none := by kernel_rfl
theorem laidOut : laidOutB Try.prog = true := by kernel_rfl

def lenOf : Value → Nat
  | .slice _ n _ => n
  | _ => 0
def LongRel (B n p : Nat) (w : World) (bv : Value) (wr : World) : Prop :=
  ∃ (init : List Nat) (c g cap : Nat), bv = .slice (some ⟨g, 0, none⟩) (init.length + 1) cap ∧ init.length ≤ 9 ∧ p ≤ init.length ∧ Tells n init c ∧ wr.ownsRow B 5 1 bv (init.length + 1) (bl (init ++ [c])) ∧ Below B w wr
def OpenRel (B : Nat) (w : World) (bv i : Value) (wr : World) : Prop :=
  ∃ (k : Nat) (ad : Option Addr) (cp : Nat), bv = .slice ad k cp ∧ k ≤ 12 ∧ i = .int .i64 k ∧ wr.ownsRow B 5 1 bv k (bl (List.replicate k 128)) ∧ Below B w wr
theorem ownsRow_keep {w w' : World} {B e n : Nat} {v : Value} {xs : List Value} (h : w.ownsRow B e 1 v n xs) (hb : Below w.heap.size w w') : w'.ownsRow B e 1 v n xs := by
  obtain ⟨h1, h2⟩ := h
  refine ⟨h1, ?_⟩
  rcases h2 with h | ⟨g, cap, cur, hv, hb', hg, r⟩
  · exact .inl h
  · exact .inr ⟨g, cap, cur, hv, hb', (hb.block g (Array.getElem?_eq_some_iff.1 hg).1).trans hg, r⟩
theorem own_form {w : World} {B e n : Nat} {v : Value} {xs : List Value} (h : w.ownsRow B e 1 v (n + 1) xs) : ∃ g cap, v = .slice (some ⟨g, 0, none⟩) (n + 1) cap := by
  rcases h.2 with ⟨_, h0⟩ | ⟨g, cap, _, rfl, _⟩
  · omega
  · exact ⟨g, cap, rfl⟩
set_option maxHeartbeats 2000000 in
set_option maxRecDepth 100000 in
theorem walk (n : Int) (more : Int) (w : World) (b0 : 0 ≤ n ∧ n ≤ 18446744073709551615) (b1 : 0 ≤ more ∧ more ≤ 255) : Calls Try.prog 5 #[.int .u64 n, .int .u8 more] w (Yes w) := by
  obtain ⟨n, rfl⟩ := Int.eq_ofNat_of_zero_le b0.1
  obtain ⟨i0, hi, hz0, hz1, hz2⟩ := info_parts Try.info5
  have hn : n ≤ 18446744073709551615 := by omega
  obtain ⟨init, c, hp, ht, hil⟩ := tells_put n hn
  have HN := Lib.hid hn
  have HP := Lib.hid hp
  have HT := Lib.hid ht
  have hm0 : 0 ≤ more % 10 := by omega
  have hm1 : more % 10 ≤ 9 := by omega
  have hm2 := b1.1
  have hm3 := b1.2
  clear hn hp ht b0 b1
  go_enter Try.func5, Try.ntmps5
  go_wp2_with fail
  refine (put_any n w HN.out).mono ?_
  rintro e w1 ⟨v, rfl, hown, hb, hnn⟩
  rw [HP.out, List.length_append, List.length_singleton] at hown
  obtain ⟨g, cap, rfl⟩ := own_form hown
  have HO := Lib.hid hown
  have HB := Lib.hid hb
  clear hown hb hnn
  go_wp2_with fail
  go_loopw [5] (fun bv wr => LongRel w.heap.size n init.length w bv wr) (fun bv _ => 10 - lenOf bv)
  case atStart => exact ⟨init, c, g, cap, rfl, hil, Nat.le_refl _, HT.out, HO.out, HB.out⟩
  case round =>
    obtain ⟨ini, d, g1, cap1, rfl, hi9, hpi, ht1, ho1, hb1⟩ := hrel
    by_cases hc : (ini.length : Int) + 1 ≤ more % 10 ∧ ini.length + 1 < 9
    · obtain ⟨hc1, hc2⟩ := hc
      have c0 := ho1.cellAt ini.length (by omega)
      have f0 := ho1.frozenAt ini.length
      rw [show (bl (ini ++ [d]))[ini.length]? = some (.int .u8 (d : Int)) from by simp [bl]] at c0
      have hd := ht1.1
      have k0 : (0 : Int) ≤ ini.length := by omega
      have st := (ho1.stored ini.length (.int .u8 ((d % 128 + 128 : Nat) : Int))).1
      rw [bl_set, ← or_128' d (by omega)] at st
      have hlt := (ho1.lt g1 rfl).2
      have hge := (ho1.lt g1 rfl).1
      have HT1 := Lib.hid ht1
      have HB1 := Lib.hid hb1
      clear ho1 ht1 hb1
      have hcn : ∀ (j : Nat) (u : Value), [Value.int IntKind.u8 0][j]? = some u → ((wr.setCell ⟨g1, ini.length, none⟩ (.int .u8 (bits .or .u8 (d : Int) 128))).alloc (.cells #[.int .u8 0] 5)).cell? ((⟨wr.heap.size, 0, none⟩ : Addr).add j) = some u := by
        have := cell_one_new (wr.setCell ⟨g1, ini.length, none⟩ (.int .u8 (bits .or .u8 (d : Int) 128))) (.int .u8 0) 5
        simpa using this
      have hsz : w.heap.size ≤ wr.heap.size := HB1.out.size
      go_wp2_with (at_builtin; go_must (refine wpList_append_own _ rfl (.tmp 46) (.tmp 47) 23 rfl w.heap.size 5 i0 (.int .u8 0) 1 1 Try.underlying23 hi hz0 hz1 hz2 rfl (by decide) _ _ _ rfl (st.alloc (.cells #[.int .u8 0] 5)) ⟨wr.heap.size, 0, none⟩ 1 1 [.int .u8 0] rfl rfl hcn (by intro u hu; simp at hu; subst hu; rfl) (by unfold maxLen; omega) (by omega) (by simp; omega) ?_); intro v1 w2 hown1 hgrow1 hnil1; obtain ⟨g2, cap2, rfl⟩ := own_form hown1)
      have hb2 : Hid (Below w.heap.size w w2) := Lib.hid (((HB1.out.setCell hge _).alloc (by simp; omega) _).grown hgrow1 (by simp; omega) (fun k hk => by cases hk; exact hge))
      have HO1 := Lib.hid hown1
      clear hown1 hgrow1 hnil1 st hcn
      go_roundw
      case rel =>
        refine ⟨ini ++ [d % 128 + 128], 0, g2, cap2, by simp, by simp; omega, by simp; omega, HT1.out.more (by omega), ?_, hb2.out⟩
        have := HO1.out
        simp only [List.length_append, List.length_singleton]
        rw [show bl (ini ++ [d % 128 + 128] ++ [0]) = bl (ini ++ [d % 128 + 128]) ++ [.int .u8 0] from by simp [bl]]
        exact this
      case measure => simp [lenOf]; omega
    · have hd := ht1.1
      have hS := Src.of_own (l := ini ++ [d]) (by simpa using ho1)
      have hlt : ∀ x ∈ ini ++ [d], x < 256 := fun x hx => by
        rcases List.mem_append.1 hx with h | h
        · exact ht1.2.1 x h
        · simp at h; omega
      have G := Lib.hid (get_any _ _ 0 wr hS hlt (by simp; omega) (by omega))
      have hV : getV (ini ++ [d]) 0 = .tuple #[.int .u64 n, .int .i64 ((ini.length : Int) + 1), .int .i64 0] := by
        unfold getV
        rw [List.drop_zero, ht1.2.2]
        simp
      have HV := Lib.hid hV
      have HB1 := Lib.hid hb1
      have hil1 : ¬ (ini.length + 1 ≤ init.length) := by omega
      have hc' : ¬ ((ini.length : Int) + 1 ≤ more % 10) ∨ ((ini.length : Int) + 1 ≤ more % 10 ∧ ¬ ((ini.length : Int) + 1 < 9)) := by omega
      clear ht1 ho1 hb1 hS hlt hV hc
      rcases hc' with hc | ⟨hcA, hc⟩
      all_goals
        go_wp2_with fail
        refine G.out.mono ?_
        rintro e w2 ⟨rfl, hb2⟩
        rw [HV.out]
        have HB2 := Lib.hid (ext_trans HB1.out hb2)
        clear hb2
        go_wp2_with fail
        go_loopw [10, 11] (fun bv i wr => OpenRel w.heap.size w bv i wr) (fun _ i _ => 12 - (intOf i).toNat)
        case atStart => exact ⟨0, none, 0, rfl, by omega, rfl, World.ownsRow_nil _ _ _ _, HB2.out⟩
        case round =>
          obtain ⟨k, ad, cp, rfl, hk, rfl, ho, hb⟩ := hrel
          have hS := Src.of_own (l := List.replicate k 128) (by rw [List.length_replicate]; exact ho)
          have G2 := Lib.hid (get_any _ _ 0 wr hS (by intro x hx; rw [List.mem_replicate] at hx; omega) (by rw [List.length_replicate]; omega) (by omega))
          have HOV := Lib.hid (openV k (by omega))
          have HB3 := Lib.hid hb
          by_cases hk12 : k < 12
          · have HO3 := Lib.hid ho
            have hcn := fun W => cell_one_new W (.int .u8 128) 5
            clear ho hb hS
            by_cases hk10 : k < 10
            · go_wp2_with fail
              refine G2.out.mono ?_
              rintro e w3 ⟨rfl, hb3⟩
              rw [HOV.out, if_pos hk10]
              have ho3 := ownsRow_keep HO3.out hb3
              have hb4 := ext_trans HB3.out hb3
              have hsz := hb4.size
              have HB4 := Lib.hid hb4
              clear hb3 hb4
              go_wp2_with (at_builtin; go_must (refine wpList_append_own _ rfl (.tmp 100) (.tmp 101) 23 rfl w.heap.size 5 i0 (.int .u8 0) 1 1 Try.underlying23 hi hz0 hz1 hz2 rfl (by decide) _ _ _ rfl (ho3.alloc (.cells #[.int .u8 128] 5)) ⟨w3.heap.size, 0, none⟩ 1 1 [.int .u8 128] rfl rfl (hcn _) (by intro u hu; simp at hu; subst hu; rfl) (by unfold maxLen; omega) (by omega) (by simp; omega) ?_); intro v4 w4 hown4 hgrow4 hnil4; obtain ⟨g4, cap4, rfl⟩ := own_form hown4)
              have HB5 := Lib.hid ((HB4.out.alloc (by omega) (.cells #[.int .u8 128] 5)).grown hgrow4 (by simp; omega) (fun j hj => (ho3.lt j hj).1))
              have HO4 := Lib.hid hown4
              clear hown4 hgrow4 hnil4 ho3
              go_roundw
              case rel => exact ⟨k + 1, _, _, rfl, by omega, by go_num, by rw [List.replicate_succ', show bl (List.replicate k 128 ++ [128]) = bl (List.replicate k 128) ++ [.int .u8 128] from by simp [bl]]; exact HO4.out, HB5.out⟩
              case measure => simp [intOf]; omega
            · go_wp2_with fail
              refine G2.out.mono ?_
              rintro e w3 ⟨rfl, hb3⟩
              rw [HOV.out, if_neg hk10]
              have ho3 := ownsRow_keep HO3.out hb3
              have hb4 := ext_trans HB3.out hb3
              have hsz := hb4.size
              have HB4 := Lib.hid hb4
              clear hb3 hb4
              go_wp2_with (at_builtin; go_must (refine wpList_append_own _ rfl (.tmp 100) (.tmp 101) 23 rfl w.heap.size 5 i0 (.int .u8 0) 1 1 Try.underlying23 hi hz0 hz1 hz2 rfl (by decide) _ _ _ rfl (ho3.alloc (.cells #[.int .u8 128] 5)) ⟨w3.heap.size, 0, none⟩ 1 1 [.int .u8 128] rfl rfl (hcn _) (by intro u hu; simp at hu; subst hu; rfl) (by unfold maxLen; omega) (by omega) (by simp; omega) ?_); intro v4 w4 hown4 hgrow4 hnil4; obtain ⟨g4, cap4, rfl⟩ := own_form hown4)
              have HB5 := Lib.hid ((HB4.out.alloc (by omega) (.cells #[.int .u8 128] 5)).grown hgrow4 (by simp; omega) (fun j hj => (ho3.lt j hj).1))
              have HO4 := Lib.hid hown4
              clear hown4 hgrow4 hnil4 ho3
              go_roundw
              case rel => exact ⟨k + 1, _, _, rfl, by omega, by go_num, by rw [List.replicate_succ', show bl (List.replicate k 128 ++ [128]) = bl (List.replicate k 128) ++ [.int .u8 128] from by simp [bl]]; exact HO4.out, HB5.out⟩
              case measure => simp [intOf]; omega
          · obtain rfl : k = 12 := by omega
            clear ho hb hS G2 HOV
            go_wp2_with (go_at_call 21; refine (awake_any _).mono ?_; rintro e w' ⟨rfl, hbw⟩)
            go_ret
            exact ⟨rfl, ext_trans HB3.out hbw⟩

set_option maxRecDepth 100000 in
theorem lifted (os : Os) (started : os.Started) (H : Type) (enc : TypeId × Value → H) :
    ReturnsInHanded {} Try.checked os 5 .any (Rows.varintLongSpec.pre6 enc Try.prog Try.f5 Rows.varintLongRow.domain false) (Rows.varintLongSpec.post enc Try.prog Try.f5 false true false false) := by
  refine returnsInHanded_of_change_sized (C := Try.checked) own started (by kernel_rfl) Try.func5
    (ChangeSpec.witness6 (enc := enc) (C := Try.checked) false ⟨#[], #[.int .u64 0, .int .u8 0], []⟩ 8 (by kernel_rfl) (by kernel_rfl) (by kernel_rfl) (by kernel_rfl)) ?_
  intro W base args ds gs before hval0 hW hcnd hsz0 _
  have hsz : (DataW.weightsEach Try.prog (Try.f5.params.toList ++ Rows.varintLongSpec.plain.varTypes Try.prog) (ds ++ gs)).all (· ≤ reachBytes) = true := hsz0
  have hval : ∀ (j : Nat) t v, Try.f5.params[j]? = some t → args[j]? = some v → Value.okWide Try.prog W .any base t v := hval0
  have hW' := hW
  obtain ⟨p, q, hA0, hV, rfl, hfz, hnd⟩ := hW
  have hA : DataW.TrodAll enc Try.prog W 0 (fun _ => true) true Try.f5.params.toList args.toList ds p := hA0
  rw [Try.params5] at hA hval hsz
  obtain ⟨v0, vs0, d0, ds0, p0, q0, hargs, rfl, rfl, h0, r0⟩ := trodAll_cons hA
  obtain ⟨v1, vs1, d1, ds1, p1, q1, rfl, rfl, rfl, h1, r1⟩ := trodAll_cons r0
  obtain ⟨rfl, rfl, rfl⟩ := trodAll_nil r1
  obtain rfl : args = #[v0, v1] := by cases args; simp_all
  obtain ⟨rfl, rfl⟩ := trodVars_none hV
  have k0 := h0
  have lt0 : ∀ x ∈ p0, x.block < W.heap.size := by obtain ⟨m, hm⟩ := k0; exact DataW.trod_lt m _ _ _ hm
  have k1 := h1
  have lt1 : ∀ x ∈ p1, x.block < W.heap.size := by obtain ⟨m, hm⟩ := k1; exact DataW.trod_lt m _ _ _ hm
  obtain ⟨a0, rfl, rfl, rfl, w0⟩ := open_int Try.underlying22 (hval 0 22 v0 rfl rfl) h0
  have b0 := wf_u64 w0
  obtain ⟨a1, rfl, rfl, rfl, w1⟩ := open_int Try.underlying5 (hval 1 5 v1 rfl rfl) h1
  have b1 := wf_u8 w1
  clear hA0 hval0 hsz0
  refine (walk a0 a1 W b0 b1).mono fun e W' ⟨he, bel⟩ => ?_
  subst he
  exact ⟨_, rfl, _, _, _, [], _, [], hW', trodAll_mk1 (shut_bool Try.underlying4 _), (trodAll_cons_mk (Below.trod laidOut (by kernel_rfl) (of_decide_eq_true (by kernel_rfl)) k0 bel lt0) (trodAll_cons_mk (Below.trod laidOut (by kernel_rfl) (of_decide_eq_true (by kernel_rfl)) k1 bel lt1) trodAll_mk0)), rfl, bel.frame _, fun h => by cases h⟩

theorem over : Rows.varintLongRow.holds Try.pinned (OpenSpec.ofChange Rows.varintLongSpec) :=
  OpenClaim.holds_of_wide 5 Try.f5 rfl rfl rfl rfl rfl rfl rfl ⟨rfl, rfl, rfl, rfl, rfl⟩ rfl rfl rfl rfl rfl (by kernel_rfl) Try.func5 (by kernel_rfl)
    (of_decide_eq_true (by kernel_rfl)) (by unfold Func.isWrapper; first | (rw [if_pos (by decide +kernel)]; kernel_rfl) | (rw [if_neg (by decide +kernel)]; exact ⟨rfl, rfl⟩))
    (fun os started H enc _ => lifted os started H enc)

theorem proved : Rows.VarintLongSaid := over
end Go.Proofs.Ytnhphkiklfajnaa.varintLong
