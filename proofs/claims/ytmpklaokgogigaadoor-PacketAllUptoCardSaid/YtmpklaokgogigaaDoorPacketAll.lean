/-
  PacketAll: FOR EVERY INPUT the law returns true and leaves its arguments as they were; the package's tables are laid (a card).
-/
import Derived.Test.YtmpklaokgogigaaDoorMd
import Derived.Test.YtmpklaokgogigaaDoorTb
import Derived.Test.YtmpklaokgogigaaDoorCards
import Derived.Test.YtmpklaokgogigaaDoorTie
import Derived.Test.YtmpklaokgogigaaDoorBulk
import Derived.JoinedCond
import Derived.WalkKit
import Derived.ProofKit
import Derived.OpenShut
import Derived.ChangeOld
import Derived.Below
import Derived.SizedLaws
import Derived.Lib.SmallJoins
import Derived.Deep.DeepHandedRow
import Derived.Lib.LaidTab
namespace Go.Proofs.YtmpklaokgogigaaDoor.packetAll
set_option linter.unusedSimpArgs false
open Go.ChangeShapes Go.WideShapes Go.ChangeAt Go.RowKit
open Go.ChangeMaps (open_string shut_string)
set_option linter.unusedVariables false

theorem own : ownKnob Tryd.prog.godebug = none := by kernel_rfl
theorem laidOut : laidOutB Tryd.prog = true := by kernel_rfl

set_option maxHeartbeats 16000000 in
set_option maxRecDepth 100000 in
theorem walk (s : ByteArray) (w : World) (ht : Tabs w) (hs : s.size ≤ 1048576) : Calls Tryd.prog 4 #[.string s] w (Pac.YesW w) := by
  have H1 := Lib.hid (Pac.all_p s w ht (by omega))
  have H2 := Lib.hid (fun w => Pac.all_d s w (by omega))
  generalize Pac.allF s (txtL s) (s.size + 1) 0 [] = R at *
  obtain ⟨ps, at0, err⟩ := R
  have HT := Lib.hid ht
  clear ht hs
  go_enter Tryd.func4, Tryd.ntmps4
  go_wp2_with fail
  refine (H1.out).mono ?_
  rintro e w1 ⟨v1, L1, rfl, P1, e1, b1⟩
  obtain ⟨va, vc, rfl⟩ := own_slice P1.o
  replace P1 := Lib.hid P1
  replace b1 := Lib.hid b1
  go_wp2_with fail
  refine (H2.out _).mono ?_
  rintro e w2 ⟨v2, L2, rfl, P2, e2, b2⟩
  obtain ⟨vb, vd, rfl⟩ := own_slice P2.o
  have hlen : L2.length = L1.length := by rw [← List.length_map (f := Pac.Pt.p), e2, ← e1, List.length_map]
  have hsame : ∀ (k : Nat) (x y : Pac.Pt), L1[k]? = some x → L2[k]? = some y → y.p = x.p := by
    intro k x y hx hy
    have h1 : (L1.map Pac.Pt.p)[k]? = some x.p := by rw [List.getElem?_map, hx]; rfl
    have h2 : (L2.map Pac.Pt.p)[k]? = some y.p := by rw [List.getElem?_map, hy]; rfl
    rw [e1] at h1
    rw [e2] at h2
    have := h1.symm.trans h2
    simpa using this.symm
  have Q1 := Lib.hid (P1.out.ext b2)
  have Q2 : Hid (Pac.Pks w1.heap.size (.slice vb L2.length vd) L2 w2) := Lib.hid P2
  have hmax : L1.length ≤ 9223372036854775807 := by
    rcases Q1.out.o.2 with ⟨_, h⟩ | ⟨g, cap, cur, _, _, _, h1, h2, _⟩
    · omega
    · unfold maxLen at h2; omega
  rw [hlen]
  have B2 := Lib.hid (ext_trans b1.out b2)
  replace hsame := Lib.hid hsame
  replace hlen := Lib.hid hlen
  clear P1 P2 b1 b2 e1 e2 H1 H2
  have hm' : (L1.length : Int) ≤ 9223372036854775807 := by omega
  go_wp2_with fail
  go_loopw [9] (fun i wr => ∃ k : Nat, i = .int .i64 k ∧ k ≤ L1.length ∧ Below w2.heap.size w2 wr) (fun i _ => L1.length - (intOf i).toNat)
  case atStart => exact ⟨0, rfl, by omega, Below.refl _ _⟩
  case round =>
    obtain ⟨k, rfl, hk, hb⟩ := hrel
    replace hb := Lib.hid hb
    by_cases hend : k = L1.length
    · subst hend
      have BE := Lib.hid (B2.out.trans (hb.out.mono B2.out.size))
      have TE := Lib.hid (HT.out.keep BE.out)
      clear Q1 Q2 hsame hlen
      go_wp2_with fail
      refine (Pac.awake16_any _ TE.out).mono ?_
      rintro e w6 ⟨rfl, b6⟩
      have BF := Lib.hid (BE.out.trans (b6.mono BE.out.size))
      clear b6
      go_wp2_with fail
      go_ret
      exact ⟨rfl, BF.out⟩
    have klt : k < L1.length := by omega
    obtain ⟨x, hx⟩ : ∃ x, L1[k]? = some x := ⟨_, List.getElem?_eq_getElem klt⟩
    obtain ⟨y, hy⟩ : ∃ y, L2[k]? = some y := ⟨_, List.getElem?_eq_getElem (by rw [hlen.out]; exact klt)⟩
    have hp := hsame.out k x y hx hy
    have R1 := Q1.out.r x (List.mem_of_getElem? hx)
    have R2 := Q2.out.r y (List.mem_of_getElem? hy)
    obtain ⟨g1, q1, hv1, hg1, -, hr1⟩ := Q1.out.at hx
    obtain ⟨g2, q2, hv2, hg2, -, hr2⟩ := Q2.out.at hy
    obtain ⟨px, fx, cx⟩ := x
    obtain ⟨py, fy, cy⟩ := y
    simp only at hp
    subst hp
    simp only [Value.slice.injEq] at hv1 hv2
    obtain ⟨rfl, -, rfl⟩ := hv1
    obtain ⟨rfl, -, rfl⟩ := hv2
    have SM := Lib.hid (fun W (hW : Below w2.heap.size w2 W) => Pac.rsame_any py fx cx fy cy W (R1.f.keep hW (Nat.le_refl _)) (R1.c.keep hW (Nat.le_refl _)) (R2.f.keep hW (Nat.le_refl _)) (R2.c.keep hW (Nat.le_refl _)))
    have KS : Hid (∀ W, Below w2.heap.size w2 W → W.rangeAt g1 (k * 24) (py.v fx cx).toList ∧ W.rangeAt g2 (k * 24) (py.v fy cy).toList) := Lib.hid fun W hW =>
      ⟨fun j u hj => (hW.cell (by simpa using hg1)).trans (hr1 j u hj), fun j u hj => (hW.cell (by simpa using hg2)).trans (hr2 j u hj)⟩
    have sz1 : Hid ((Tryd.prog.info? 33).map (·.size) = some (py.v fx cx).toList.length) := Lib.hid (by kernel_rfl)
    have sz2 : Hid ((Tryd.prog.info? 33).map (·.size) = some (py.v fy cy).toList.length) := Lib.hid (by kernel_rfl)
    generalize py.v fx cx = cs1 at *
    generalize py.v fy cy = cs2 at *
    have klt' : (k : Int) < L1.length := by omega
    clear R1 R2 hr1 hr2 hx hy
    go_wp2_with fail
    refine wp_region_held_drew (S := fun W => W.rangeAt g1 (k * 24) cs1.toList ∧ W.rangeAt g2 (k * 24) cs2.toList) (by kernel_rfl) (KS.out _ (hb.out.trans ((ext_drew _).mono hb.out.size))) (fun hHeld => ?_)
    refine wpAnyH_take (i := 0) (oi := _) (v := ?zv0) rfl (by kernel_rfl) (by kernel_rfl) (by kernel_rfl) (fun _ _ _ h => h) (Or.inl ⟨by rfl, ?zy0⟩) (by assumption) ?zr0
    case zy0 => (intro w hSw; go_simp <;> with_reducible rfl)
    try simp only [Act.put, List.setIfInBounds_toArray, List.set_cons_zero, List.set_cons_succ]
    refine wpAnyH_take (i := 1) (oi := _) (v := ?zv1) rfl (by kernel_rfl) (by kernel_rfl) (by kernel_rfl) (fun _ _ _ h => h) (Or.inl ⟨by rfl, ?zy1⟩) (by assumption) ?zr1
    case zy1 => (intro w hSw; go_simp <;> with_reducible rfl)
    try simp only [Act.put, List.setIfInBounds_toArray, List.set_cons_zero, List.set_cons_succ]
    refine wpAnyH_take (i := 2) (oi := _) (v := ?zv2) rfl (by kernel_rfl) (by kernel_rfl) (by kernel_rfl) (fun _ _ _ h => h) (Or.inl ⟨by rfl, ?zy2⟩) (by assumption) ?zr2
    case zy2 => (intro w hSw; go_simp <;> with_reducible rfl)
    try simp only [Act.put, List.setIfInBounds_toArray, List.set_cons_zero, List.set_cons_succ]
    refine wpAnyH_take (i := 3) (oi := _) (v := .agg cs1) rfl (by kernel_rfl) (by kernel_rfl) (by kernel_rfl) (fun _ _ _ h => h) (yieldsIf_load_mid (by rfl) 33 _ rfl g1 (k * 24) (by rfl) cs1.toList _ (fun w hSw => hSw.1) Tryd.underlying33 rfl sz1.out) (by assumption) ?zr3
    try simp only [Act.put, List.setIfInBounds_toArray, List.set_cons_zero, List.set_cons_succ]
    refine wpAnyH_take (i := 4) (oi := _) (v := ?zv4) rfl (by kernel_rfl) (by kernel_rfl) (by kernel_rfl) (fun _ _ _ h => h) (Or.inl ⟨by rfl, ?zy4⟩) (by assumption) ?zr4
    case zy4 => (intro w hSw; go_simp <;> with_reducible rfl)
    try simp only [Act.put, List.setIfInBounds_toArray, List.set_cons_zero, List.set_cons_succ]
    refine wpAnyH_take (i := 5) (oi := _) (v := ?zv5) rfl (by kernel_rfl) (by kernel_rfl) (by kernel_rfl) (fun _ _ _ h => h) (Or.inl ⟨by rfl, ?zy5⟩) (by assumption) ?zr5
    case zy5 => (intro w hSw; go_simp <;> with_reducible rfl)
    try simp only [Act.put, List.setIfInBounds_toArray, List.set_cons_zero, List.set_cons_succ]
    refine wpAnyH_take (i := 6) (oi := _) (v := ?zv6) rfl (by kernel_rfl) (by kernel_rfl) (by kernel_rfl) (fun _ _ _ h => h) (Or.inl ⟨by rfl, ?zy6⟩) (by assumption) ?zr6
    case zy6 => (intro w hSw; go_simp <;> with_reducible rfl)
    try simp only [Act.put, List.setIfInBounds_toArray, List.set_cons_zero, List.set_cons_succ]
    refine wpAnyH_take (i := 7) (oi := _) (v := .agg cs2) rfl (by kernel_rfl) (by kernel_rfl) (by kernel_rfl) (fun _ _ _ h => h) (yieldsIf_load_mid (by rfl) 33 _ rfl g2 (k * 24) (by rfl) cs2.toList _ (fun w hSw => hSw.2) Tryd.underlying33 rfl sz2.out) (by assumption) ?zr7
    try simp only [Act.put, List.setIfInBounds_toArray, List.set_cons_zero, List.set_cons_succ]
    refine wpAnyH_ready (rs := [8]) (by kernel_rfl) (by simp) ?_
    refine AllReadyH.cons (o := _) rfl (fun K hK => ?_) AllReadyH.nil
    go_simp
    have hd := hb.out.trans ((ext_drew wr).mono hb.out.size)
    refine (SM.out _ hd).mono ?_
    rintro e w7 ⟨rfl, b7⟩
    go_wp2_with fail
    have B7 := hd.trans (b7.mono hd.size)
    refine hK _ _ (KS.out _ B7) (fun hHeld2 => ?_)
    replace B7 := Lib.hid B7
    clear hK K b7 hd
    try simp only [Act.put, List.setIfInBounds_toArray, List.set_cons_zero, List.set_cons_succ]
    refine wpAnyH_take (i := 9) (oi := _) (v := ?zv9) rfl (by kernel_rfl) (by kernel_rfl) (by kernel_rfl) (fun _ _ _ h => h) (Or.inl ⟨by rfl, ?zy9⟩) (by assumption) ?zr9
    case zy9 => (intro w hSw; go_simp <;> with_reducible rfl)
    try simp only [Act.put, List.setIfInBounds_toArray, List.set_cons_zero, List.set_cons_succ]
    refine wpAnyH_done (by kernel_rfl) ?_ _
    clear hHeld hHeld2 KS SM
    go_wp2_with fail
    go_roundw
    case rel => exact ⟨k + 1, by simp, by omega, B7.out⟩
    case measure => simp [intOf]; omega

set_option maxRecDepth 100000 in
theorem contract (F : Stop.Interp) (H : Type) (enc : TypeId × Value → H) (W : World) (base : Nat) (args : Array Value) (ds gs : List (DataW H)) (before : List MemPlace)
    (hval : ∀ (j : Nat) t v, Tryd.f4.params[j]? = some t → args[j]? = some v → Value.okWide Tryd.prog W .any base t v)
    (hW : DataW.Whole enc Tryd.prog Tryd.f4.params.toList Rows.packetAllSpec.vars false W args.toList ds gs before)
    (hk : Rows.uptoSmall H (ds ++ gs) = true)
    (hsz : (DataW.weightsEach Tryd.prog (Tryd.f4.params.toList ++ (Rows.OpenSpec.upto Rows.packetAllSpec).bare.plain.varTypes Tryd.prog) (ds ++ gs)).all (· ≤ reachBytes) = true) (hL : laidMetH Tryd.prog Rows.packetAllUptoRow.laid W) :
    Calls Tryd.prog 4 args W fun e W' => ∃ v, e = .returned v ∧ ((Rows.OpenSpec.upto Rows.packetAllSpec).at F).post enc Tryd.prog Tryd.f4 false true false false W args v W' := by
  have hW' := hW
  obtain ⟨p, q, hA0, hV, rfl, hfz, hnd⟩ := hW
  have hA : DataW.TrodAll enc Tryd.prog W 0 (fun _ => true) true Tryd.f4.params.toList args.toList ds p := hA0
  rw [Tryd.params4] at hA hval hsz
  obtain ⟨v0, vs0, d0, ds0, p0, q0, hargs, rfl, rfl, h0, r0⟩ := trodAll_cons hA
  obtain ⟨rfl, rfl, rfl⟩ := trodAll_nil r0
  obtain rfl : args = #[v0] := by cases args; simp_all
  obtain ⟨rfl, rfl⟩ := trodVars_none hV
  have hb0 : Rows.uptoBulk d0 ≤ 1048576 := bulks.le hk (by simp)
  have k0 := h0
  have lt0 : ∀ x ∈ p0, x.block < W.heap.size := by obtain ⟨m, hm⟩ := k0; exact DataW.trod_lt m _ _ _ hm
  obtain ⟨a0, rfl, rfl, rfl, w0⟩ := open_string Tryd.underlying9 (hval 0 9 v0 rfl rfl) h0
  have s0 : a0.size ≤ 1048576 := by
    have := bulks.string_len hb0
    simp only [Array.length_toList] at this
    exact this
  clear hA0
  refine (walk a0 W (tabs_of hL) s0).mono fun e W' ⟨he, bel⟩ => ?_
  subst he
  exact ⟨_, rfl, _, _, _, [], _, [], hW', trodAll_mk1 (shut_bool Tryd.underlying4 _), (trodAll_cons_mk (Below.trod laidOut (by kernel_rfl) (of_decide_eq_true (by kernel_rfl)) k0 bel lt0) trodAll_mk0), rfl, bel.frame _, fun h => by cases h⟩

/-- A world for the witness: the settled one, the tables holding what their initialisers lay. -/
noncomputable def laidWorld (os : Os) : World :=
  { World.holding Tryd.prog os ⟨#[], #[], []⟩ with heap := ((World.holding Tryd.prog os ⟨#[], #[], []⟩).heap.modify 0 (fun
      | .cells _ t frozen => .cells #[.int .u16 1, .int .u16 4, .int .u16 15423] t frozen
      | o => o)) }
theorem laid_met (os : Os) : laidMet Tryd.prog Rows.packetAllUptoRow.laid ((laidWorld os).forCall (fun _ _ => 0) ⟨#[], #[.string ByteArray.empty], []⟩).memory :=
  laidMet_of_run' 8 (by kernel_rfl) (by kernel_rfl)
theorem reads (os : Os) {H : Type} (enc : TypeId × Value → H) : ∃ places, DataW.whole enc Tryd.prog ((laidWorld os).forCall (fun _ _ => 0) ⟨#[], #[.string ByteArray.empty], []⟩).memory Tryd.f4.params.toList Rows.packetAllSpec.vars false #[Value.string ByteArray.empty].toList 8 = some ([.lit (.string [])], [], places) :=
  ⟨[], by kernel_rfl⟩

set_option maxRecDepth 100000 in
theorem lifted (os : Os) (started : os.Started) (H : Type) (enc : TypeId × Value → H) (F : Stop.Interp) :
    ReturnsInHanded {} Tryd.checked os 4 .any ((Rows.OpenSpec.upto Rows.packetAllSpec).preRow enc Tryd.prog Tryd.f4 Rows.packetAllUptoRow.domain false Rows.packetAllUptoRow.laid) (((Rows.OpenSpec.upto Rows.packetAllSpec).at F).post enc Tryd.prog Tryd.f4 false true false false) := by
  obtain ⟨places, hx⟩ := reads os enc
  refine returnsInHanded_of_row (C := Tryd.checked) (s := (Rows.OpenSpec.upto Rows.packetAllSpec)) own started (by kernel_rfl) Tryd.func4
    (witness_row_at (enc := enc) (C := Tryd.checked) false (laidWorld os) #[.string ByteArray.empty] rfl (by kernel_rfl) (by kernel_rfl) (by kernel_rfl)
      (OpenSpec.preRow_of_cond 8 hx (by kernel_rfl) (fun k hk => by cases hk; kernel_rfl) (by kernel_rfl) (laid_met os))) ?_
  intro W base args ds gs before hval hW _ hcnd hsz hL _ _
  exact contract F H enc W base args ds gs before hval hW (hcnd _ rfl) hsz hL

theorem said : Rows.PacketAllUptoSaid :=
  OpenClaim.holds_of_cond 4 Tryd.f4 rfl rfl rfl rfl rfl rfl rfl ⟨rfl, rfl, rfl, rfl, rfl⟩ rfl rfl rfl rfl rfl (by kernel_rfl) Tryd.func4 (by kernel_rfl)
    (of_decide_eq_true (by kernel_rfl)) (by unfold Func.isWrapper; first | (rw [if_pos (by decide +kernel)]; kernel_rfl) | (rw [if_neg (by decide +kernel)]; exact ⟨rfl, rfl⟩))
    (fun os started H enc _ F => by rw [OpenClaim.pre_eq_preRow]; exact lifted os started H enc F)

theorem plain (f : FuncId) (fn : Func) (hf : Tryd.pinned.checked.prog.funcNamed "crier/crierlaw16.PacketAll" = some f) (hfn : Tryd.pinned.checked.prog.funcs[f]? = some fn) :
    false = Tryd.pinned.checked.prog.looks [] ∧ ∀ (j : Nat) t, fn.params[j]? = some t → Tryd.pinned.checked.prog.wantsStandIn t = false := by
  obtain rfl : f = 4 := Option.some.inj ((show Tryd.prog.funcNamed "crier/crierlaw16.PacketAll" = some 4 by kernel_rfl).symm.trans hf) |>.symm
  obtain rfl : fn = Tryd.f4 := (Option.some.inj (Tryd.func4.symm.trans hfn)).symm
  refine ⟨by kernel_rfl, fun j t ht => ?_⟩
  rw [Tryd.params4] at ht
  obtain rfl : t = 9 := by have := Array.mem_of_getElem? ht; simpa using this
  exact (show Tryd.prog.wantsStandIn 9 = false by kernel_rfl)

/-- THE CARD. -/
theorem proved : Rows.PacketAllUptoCardSaid :=
  Claim7.holds_tied_plain_at .later [] _ _ _ _ said (fun _ h => by cases h) (by kernel_rfl) (fun _ h => by cases h) packetAllUpto_row_tie rfl ⟨rfl, rfl⟩ (by kernel_rfl) rfl plain (by kernel_rfl)
end Go.Proofs.YtmpklaokgogigaaDoor.packetAll
