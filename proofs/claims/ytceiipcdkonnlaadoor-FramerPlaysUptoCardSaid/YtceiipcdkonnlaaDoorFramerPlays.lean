/-
  FramerPlays: FOR EVERY INPUT the law returns true and leaves its arguments as they were; the package's tables are laid (a card).
-/
import Derived.Test.YtceiipcdkonnlaaDoorTk
import Derived.Test.YtceiipcdkonnlaaDoorSu
import Derived.Test.YtceiipcdkonnlaaDoorCards
import Derived.Test.YtceiipcdkonnlaaDoorTie
import Derived.Test.YtceiipcdkonnlaaDoorBulk
import Derived.JoinedCond
import Derived.WalkKit
import Derived.ProofKit
import Derived.OpenShut
import Derived.ChangeOld
import Derived.Below
import Derived.SizedLaws
import Derived.Lib.SmallJoins
import Derived.Deep.DeepHandedRow
import Derived.Lib.LaidTab
namespace Go.Proofs.YtceiipcdkonnlaaDoor.framerPlays
set_option linter.unusedSimpArgs false
open Go.ChangeShapes Go.WideShapes Go.ChangeAt Go.RowKit
open Go.ChangeMaps (open_string shut_string)
set_option linter.unusedVariables false

theorem own : ownKnob Tryd.prog.godebug = none := by kernel_rfl
theorem laidOut : laidOutB Tryd.prog = true := by kernel_rfl

/-- What a round has. -/
def FPl (w wr : World) (a0 : Addr) (f g : Nat) (i : Nat) (ss : List ByteArray) : Prop :=
  ∃ vf vg s, Pr w wr a0 f g vf vg s s ∧ s.l.length ≤ tot (ss.take i) ∧ 0 ≤ s.n ∧ s.n ≤ 4 * (i : Int)
theorem tot_snoc {ss : List ByteArray} {i : Nat} {x : ByteArray} (h : ss[i]? = some x) : tot (ss.take (i + 1)) = tot (ss.take i) + (x.size + 1) := by
  obtain ⟨hlt, he⟩ := List.getElem?_eq_some_iff.1 h
  rw [List.take_succ_eq_append_getElem hlt, he]
  generalize ss.take i = l
  induction l with
  | nil => simp [tot]
  | cons y l ih => simp only [List.cons_append, tot]; rw [ih]; omega
theorem feed_len (s : St) (x : ByteArray) : (s.feed x).l.length ≤ s.l.length + x.size ∧ (s.feed x).n = s.n := by
  unfold St.feed
  split
  · exact ⟨by simp [nb_length], rfl⟩
  · exact ⟨by omega, rfl⟩
/-- What the inner loop's round has. -/
def FIn (w wr : World) (a0 : Addr) (f g : Nat) (N L k : Nat) : Prop :=
  ∃ vf vg s, Pr w wr a0 f g vf vg s s ∧ s.l.length ≤ L ∧ 0 ≤ s.n ∧ s.n ≤ (N : Int) + k
set_option maxHeartbeats 32000000 in
set_option maxRecDepth 100000 in
theorem walk (a : Option Addr) (len cap : Nat) (ss : List ByteArray) (a1 : Option Addr) (len1 cap1 : Nat) (zs : List Int) (w : World) (ht : Tabs w) (hS : StrRowU w a len cap ss) (hZ : IsRow .u8 w a1 len1 cap1 zs) (h1 : cap1 * 1 ≤ 8388608) :
    Calls Tryd.prog 3 #[.slice a len cap, .slice a1 len1 cap1] w (Yes w) := by
  obtain ⟨a0, G⟩ := ht
  obtain ⟨hsl, hcp, htot, hcell⟩ := hS
  have hzl := hZ.len_le
  have hlc : len ≤ 1048576 := by have := len_tot ss; omega
  have hl' : (len : Int) ≤ 1048576 := by omega
  have hz' : (len1 : Int) ≤ 9223372036854775807 := by omega
  have HC := Lib.hid hcell
  have HT := Lib.hid htot
  have HZ := Lib.hid hZ.cellAt
  have HL := Lib.hid hsl
  have N1 := Lib.hid (f_new w)
  have AW := Lib.hid (fun W (hW : Gl a0 W) => awake12_any W hW)
  replace G := Lib.hid G
  clear hcell htot hZ hcp h1 hzl hsl
  go_enter Tryd.func3, Tryd.ntmps3
  go_wp2_with fail
  refine N1.out.mono ?_
  rintro e w1 ⟨rfl, m1, b1, z1⟩
  have P1 : Hid (Pr w (w1.alloc (.cells #[.slice none 0 0, .int .i64 0, .int .i64 0] 28)) a0 w.heap.size w1.heap.size (.slice none 0 0) (.slice none 0 0) ⟨[], 0, 0⟩ ⟨[], 0, 0⟩) := Lib.hid
    ⟨m1.ext (ext_alloc w1 _), ⟨heap_alloc_new w1 _, .inl (World.ownsRow_nil _ _ _ _), Nat.lt_succ_self _⟩, (fun k hk => by cases hk), b1.trans ((ext_alloc w1 _).mono b1.size), Nat.le_refl _, b1.size, fun h => absurd rfl h, by simp, (G.out.ext b1).ext (ext_alloc w1 _)⟩
  clear m1 b1 z1 N1
  go_wp2_with fail
  generalize w1.alloc _ = W1 at P1 ⊢
  generalize w1.heap.size = g at P1 ⊢
  go_loopw [7] (fun iv wr => ∃ i : Nat, iv = .int .i64 (i : Int) ∧ i ≤ len ∧ i ≤ 40 ∧ FPl w wr a0 w.heap.size g i ss) (fun iv _ => len - (intOf iv).toNat)
  case atStart => exact ⟨0, rfl, by omega, by omega, _, _, _, P1.out, by simp, by simp, by simp⟩
  case round =>
    obtain ⟨i, rfl, hi, hi4, HF⟩ := hrel
    obtain ⟨vf, vg, s, hp, hln, hn0, hn1⟩ := HF
    clear P1
    by_cases hlt : i < len ∧ i < len1 ∧ i < 40
    · obtain ⟨hlt0, hlt1, hlt2⟩ := hlt
      obtain ⟨x, hx⟩ : ∃ x, ss[i]? = some x := ⟨_, List.getElem?_eq_getElem (by rw [HL.out]; exact hlt0)⟩
      have htk : tot (ss.take (i + 1)) ≤ 1048576 := Nat.le_trans (tot_take ss (i + 1)) HT.out
      rw [tot_snoc hx] at htk
      obtain ⟨b, o, rfl, hbl, hcs⟩ := HC.out.resolve_left (by omega)
      have hcx : wr.cell? ⟨b, o + i, none⟩ = some (.string x) := (hp.bw.cell (p := ⟨b, o + i, none⟩) hbl).trans (hcs i x hx)
      obtain ⟨bz, oz, rfl, hbz, hcz⟩ := HZ.out.resolve_left (by omega)
      have hzz := (hcz i hlt1).1
      have hzw := wf_u8 (hcz i hlt1).2
      have hzr : wr.cell? ⟨bz, oz + i, none⟩ = some (.int .u8 (zs.getD i 0)) := (hp.bw.cell (p := ⟨bz, oz + i, none⟩) hbz).trans hzz
      obtain ⟨z, hz⟩ : ∃ z, z = zs.getD i 0 := ⟨_, rfl⟩
      rw [← hz] at hzr hzz hzw
      have hlt0' : (i : Int) < (len : Int) := by omega
      have hlt1' : (i : Int) < (len1 : Int) := by omega
      have hlt2' : (i : Int) < 40 := by omega
      have HP := Lib.hid hp
      have K1 := Lib.hid (p_feed hp x (by omega))
      have HLN := Lib.hid hln
      have HN := Lib.hid (show 0 ≤ s.n ∧ s.n ≤ 4 * (i : Int) from ⟨hn0, hn1⟩)
      have HTK := Lib.hid htk
      have HX := Lib.hid hx
      replace hz := Lib.hid hz
      clear hp hln hn0 hn1 hx htk
      go_wp2_with fail
      refine K1.out.mono ?_
      rintro e w2 ⟨rfl, v2, p2⟩
      have hcx2 : w2.cell? ⟨b, o + i, none⟩ = some (.string x) := (p2.bw.cell (p := ⟨b, o + i, none⟩) hbl).trans (hcs i x HX.out)
      have K2 := Lib.hid (d_feed p2 x (by have := HLN.out; have := HTK.out; omega))
      clear p2 K1 hcx
      go_wp2_with fail
      refine K2.out.mono ?_
      rintro e w3 ⟨rfl, v3, p3⟩
      have hFL := feed_len s x
      obtain ⟨s3, hs3⟩ : ∃ s3, s3 = s.feed x := ⟨_, rfl⟩
      rw [← hs3] at p3 hFL
      have P3 := Lib.hid p3
      have HI : Hid (FIn w w3 a0 w.heap.size g (4 * i) (tot (ss.take i) + x.size) 0) := Lib.hid ⟨_, _, _, p3, by have := HLN.out; omega, by rw [hFL.2]; exact HN.out.1, by rw [hFL.2]; have := HN.out.2; omega⟩
      clear p3 K2 hFL hs3 hcx2 hzr
      go_wp2_with fail
      obtain ⟨wo, hwo⟩ : ∃ wo : World, wo = wr := ⟨_, rfl⟩
      replace hwo := Lib.hid hwo
      have hcz' := Lib.hid hzz
      go_loopw [8] (fun kv wr => ∃ k : Nat, kv = .int .i64 (k : Int) ∧ (k : Int) ≤ z % 4 ∧ FIn w wr a0 w.heap.size g (4 * i) (tot (ss.take i) + x.size) k) (fun kv _ => (z % 4).toNat - (intOf kv).toNat)
      case atStart => exact ⟨0, rfl, by omega, HI.out⟩
      case round =>
        obtain ⟨k, rfl, hk, HK⟩ := hrel
        obtain ⟨uf, ug, t, hp, hln, hn0, hn1⟩ := HK
        clear HI P3
        have hzr : wr.cell? ⟨bz, oz + i, none⟩ = some (.int .u8 z) := (hp.bw.cell (p := ⟨bz, oz + i, none⟩) hbz).trans hcz'.out
        by_cases hkl : (k : Int) < z % 4
        · have hk20 : (k : Int) < 4 := by omega
          have K3 := Lib.hid (p_next hp (by have := HTK.out; omega) hn0 (by omega))
          obtain ⟨A, B', C, X, hA⟩ := next_agg t
          have HT4 := Lib.hid (next_n t)
          have HT5 := Lib.hid (next_len t)
          have HH := Lib.hid (show t.l.length ≤ tot (ss.take i) + x.size ∧ 0 ≤ t.n ∧ t.n ≤ ((4 * i : Nat) : Int) + k from ⟨hln, hn0, hn1⟩)
          rw [hA] at K3
          unfold ansV at K3
          clear hp hln hn0 hn1
          go_wp2_with fail
          refine K3.out.mono ?_
          rintro e w4 ⟨rfl, v4, p4⟩
          have P4 := Lib.hid (p4.ext (ext_alloc w4 (.cells #[.int .i64 A, .int .i64 B', .int .i64 C, .string X] 35)))
          have nr : ¬ FS g ug w4.heap.size := fun hk => by have := p4.fd.hi hk; omega
          have K4 := Lib.hid (d_next P4.out (by have := HTK.out; have := HH.out.1; omega) HH.out.2.1 (by have := HH.out.2.2; omega))
          rw [hA] at K4
          unfold ansV at K4
          replace nr := Lib.hid nr
          clear p4 K3
          go_wp2_with fail
          refine K4.out.mono ?_
          rintro e w5 ⟨rfl, ⟨v5, p5⟩, F5⟩
          have r5 : w5.heap[w4.heap.size]? = some (.cells #[.int .i64 A, .int .i64 B', .int .i64 C, .string X] 35 (0, 0)) := (F5.block w4.heap.size (by simp) nr.out).trans (heap_alloc_new w4 _)
          have l5 : w4.heap.size < w5.heap.size := (Array.getElem?_eq_some_iff.1 r5).1
          have d0 : w5.cell? ⟨w4.heap.size, 0, none⟩ = _ := cell_of_row _ _ 0 _ 35 (0, 0) r5
          have d1 : w5.cell? ⟨w4.heap.size, 1, none⟩ = _ := cell_of_row _ _ 1 _ 35 (0, 0) r5
          have d2 : w5.cell? ⟨w4.heap.size, 2, none⟩ = _ := cell_of_row _ _ 2 _ 35 (0, 0) r5
          have d3 : w5.cell? ⟨w4.heap.size, 3, none⟩ = _ := cell_of_row _ _ 3 _ 35 (0, 0) r5
          have P5 := Lib.hid (p5.ext (ext_alloc w5 (.cells #[.int .i64 A, .int .i64 B', .int .i64 C, .string X] 35)))
          clear p5 F5 r5 K4
          generalize t.next.2.2.1 = ok at *
          generalize t.next.2.2.2 = dd at *
          go_wp2_with fail
          go_roundw
          case rel => exact ⟨k + 1, by simp, by omega, _, _, _, P5.out, by have := HT5.out; have := HH.out.1; omega, by have := HT4.out; have := HH.out; omega, by have := HT4.out; have := HH.out; omega⟩
          case measure => simp [intOf]; omega
        · have hkz : ¬ (k : Int) < z % 4 := hkl
          obtain ⟨ua, uc, hua⟩ := hp.fd.wt.len
          subst hua
          have e0 := hp.fd.c0
          have e1 := hp.fd.c1
          have e2 := hp.fd.c2
          have HP := Lib.hid hp
          have HH := Lib.hid (show t.l.length ≤ tot (ss.take i) + x.size ∧ 0 ≤ t.n ∧ t.n ≤ ((4 * i : Nat) : Int) + k from ⟨hln, hn0, hn1⟩)
          have P1 : Hid (∀ q, Calls Tryd.prog 13 #[.pointer (some ⟨w.heap.size, 0, none⟩)] (wr.drewN q) fun e w' => e = .returned (.int .i64 (t.l.length : Nat)) ∧ w' = wr.drewN q) := Lib.hid fun q => (p_waits (hp.ext (ext_drewN wr q))).mono fun e w' ⟨he, hw⟩ => ⟨he, hw.symm⟩
          have P2 : Hid (∀ q, Calls Tryd.prog 14 #[.pointer (some ⟨w.heap.size, 0, none⟩)] (wr.drewN q) fun e w' => e = .returned (.int .i64 t.n) ∧ w' = wr.drewN q) := Lib.hid fun q => (p_taken (hp.ext (ext_drewN wr q))).mono fun e w' ⟨he, hw⟩ => ⟨he, hw.symm⟩
          by_cases hd : t.d = 0
          · have P3 : Hid (∀ q, Calls Tryd.prog 15 #[.pointer (some ⟨w.heap.size, 0, none⟩)] (wr.drewN q) fun e w' => e = .returned (.bool false) ∧ w' = wr.drewN q) := Lib.hid fun q => (p_live (hp.ext (ext_drewN wr q)) hd).mono fun e w' ⟨he, hw⟩ => ⟨he, hw.symm⟩
            rw [hd] at e2
            clear hp hln hn0 hn1
            go_wp2_with fail
            go_quiet (first | (go_at_call 13; exact Calls.quiet_of_same (P1.out _)) | (go_at_call 14; exact Calls.quiet_of_same (P2.out _)) | (go_at_call 15; exact Calls.quiet_of_same (P3.out _)))
            go_wp2_with fail
            go_roundw
            case rel => exact ⟨i + 1, by simp, by omega, by omega, _, _, _, HP.out.ext (ext_drewN _ _), by rw [tot_snoc HX.out]; have := HH.out.1; omega, HH.out.2.1, by have := HH.out.2.2; omega⟩
            case measure => simp [intOf]; omega
          · have P3 : Hid (∀ q, Calls Tryd.prog 15 #[.pointer (some ⟨w.heap.size, 0, none⟩)] (wr.drewN q) fun e w' => e = .returned (.bool true) ∧ w' = wr.drewN q) := Lib.hid fun q => (p_dead (hp.ext (ext_drewN wr q)) hd).mono fun e w' ⟨he, hw⟩ => ⟨he, hw.symm⟩
            have hd' : (((t.d : Nat) : Int) != 0) = true := by simpa using hd
            clear hp hln hn0 hn1
            go_wp2_with fail
            go_quiet (first | (go_at_call 13; exact Calls.quiet_of_same (P1.out _)) | (go_at_call 14; exact Calls.quiet_of_same (P2.out _)) | (go_at_call 15; exact Calls.quiet_of_same (P3.out _)))
            go_wp2_with fail
            go_roundw
            case rel => exact ⟨i + 1, by simp, by omega, by omega, _, _, _, HP.out.ext (ext_drewN _ _), by rw [tot_snoc HX.out]; have := HH.out.1; omega, HH.out.2.1, by have := HH.out.2.2; omega⟩
            case measure => simp [intOf]; omega
    · have B := Lib.hid hp.bw
      have GA := Lib.hid (AW.out _ hp.gl)
      clear hp hln hn0 hn1
      by_cases h1 : i < len
      · have h1' : (i : Int) < (len : Int) := by omega
        by_cases h2 : i < len1
        · have h2' : (i : Int) < (len1 : Int) := by omega
          have h3' : ¬ (i : Int) < 40 := by omega
          go_wp2_with fail
          refine GA.out.mono ?_
          rintro e w5 ⟨rfl, b5⟩
          go_wp2_with fail
          go_ret
          exact ⟨rfl, B.out.trans (b5.mono B.out.size)⟩
        · have h2' : ¬ (i : Int) < (len1 : Int) := by omega
          go_wp2_with fail
          refine GA.out.mono ?_
          rintro e w5 ⟨rfl, b5⟩
          go_wp2_with fail
          go_ret
          exact ⟨rfl, B.out.trans (b5.mono B.out.size)⟩
      · have h1' : ¬ (i : Int) < (len : Int) := by omega
        go_wp2_with fail
        refine GA.out.mono ?_
        rintro e w5 ⟨rfl, b5⟩
        go_wp2_with fail
        go_ret
        exact ⟨rfl, B.out.trans (b5.mono B.out.size)⟩

set_option maxRecDepth 100000 in
theorem contract (F : Stop.Interp) (H : Type) (enc : TypeId × Value → H) (W : World) (base : Nat) (args : Array Value) (ds gs : List (DataW H)) (before : List MemPlace)
    (hval : ∀ (j : Nat) t v, Tryd.f3.params[j]? = some t → args[j]? = some v → Value.okWide Tryd.prog W .any base t v)
    (hW : DataW.Whole enc Tryd.prog Tryd.f3.params.toList Rows.framerPlaysSpec.vars false W args.toList ds gs before)
    (hk : Rows.uptoSmall H (ds ++ gs) = true)
    (hsz : (DataW.weightsEach Tryd.prog (Tryd.f3.params.toList ++ (Rows.OpenSpec.upto Rows.framerPlaysSpec).bare.plain.varTypes Tryd.prog) (ds ++ gs)).all (· ≤ reachBytes) = true) (hL : laidMetH Tryd.prog Rows.framerPlaysUptoRow.laid W) :
    Calls Tryd.prog 3 args W fun e W' => ∃ v, e = .returned v ∧ ((Rows.OpenSpec.upto Rows.framerPlaysSpec).at F).post enc Tryd.prog Tryd.f3 false true false false W args v W' := by
  have hW' := hW
  obtain ⟨p, q, hA0, hV, rfl, hfz, hnd⟩ := hW
  have hA : DataW.TrodAll enc Tryd.prog W 0 (fun _ => true) true Tryd.f3.params.toList args.toList ds p := hA0
  rw [Tryd.params3] at hA hval hsz
  obtain ⟨v0, vs0, d0, ds0, p0, q0, hargs, rfl, rfl, h0, r0⟩ := trodAll_cons hA
  obtain ⟨v1, vs1, d1, ds1, p1, q1, rfl, rfl, rfl, h1, r1⟩ := trodAll_cons r0
  obtain ⟨rfl, rfl, rfl⟩ := trodAll_nil r1
  obtain rfl : args = #[v0, v1] := by cases args; simp_all
  obtain ⟨rfl, rfl⟩ := trodVars_none hV
  have hb0 : Rows.uptoBulk d0 ≤ 1048576 := bulks.le hk (by simp)
  have hb1 : Rows.uptoBulk d1 ≤ 1048576 := bulks.le hk (by simp)
  have k0 := h0
  have lt0 : ∀ x ∈ p0, x.block < W.heap.size := by obtain ⟨m, hm⟩ := k0; exact DataW.trod_lt m _ _ _ hm
  have k1 := h1
  have lt1 : ∀ x ∈ p1, x.block < W.heap.size := by obtain ⟨m, hm⟩ := k1; exact DataW.trod_lt m _ _ _ hm
  obtain ⟨a0, len0, cap0, rfl⟩ := okWide_slice Tryd.underlying22 (hval 0 22 v0 rfl rfl)
  obtain ⟨z0, w0⟩ : ∃ ss, StrRowU W a0 len0 cap0 ss := by
    obtain ⟨fuel, hf⟩ := h0
    exact open_str_argU Tryd.underlying22 Tryd.underlying9 (by kernel_rfl) hf hb0
  obtain ⟨a1, len1, cap1, rfl⟩ := okWide_slice Tryd.underlying23 (hval 1 23 v1 rfl rfl)
  obtain ⟨z1, w1, s1⟩ : ∃ zs, IsRow .u8 W a1 len1 cap1 zs ∧ cap1 * 1 ≤ 8388608 := by
    obtain ⟨fuel, hf⟩ := h1
    rcases open_ints Tryd.underlying23 Tryd.underlying5 (by kernel_rfl) hf with ⟨hcs, _⟩ | ⟨x, l, c, zs, hcs, _, hl, hm, hz, hx, hcell, hwz⟩
    · simp [Value.cells] at hcs
      obtain ⟨rfl, rfl, rfl⟩ := hcs
      exact ⟨[], .inl ⟨rfl, rfl, rfl, rfl⟩, by omega⟩
    · simp [Value.cells] at hcs
      obtain ⟨rfl, rfl, rfl⟩ := hcs
      have hz' : zs.length = cap1 := by simpa using hz
      have hd : d1 = .slice (lits .u8 (zs.take len1)) (lits .u8 (zs.drop len1)) := congrArg Prod.fst hx
      have hroom := bulks.slice_len (x := lits .u8 (zs.take len1)) (y := lits .u8 (zs.drop len1)) (by rw [← hd]; exact hb1)
      simp only [lits, List.length_map, List.length_take, List.length_drop] at hroom
      exact ⟨zs, .inr ⟨_, rfl, hl, hm, hz', hcell, hwz⟩, by omega⟩
  clear hA0
  refine (walk a0 len0 cap0 z0 a1 len1 cap1 z1 W (tabs_of hL) w0 w1 s1).mono fun e W' ⟨he, bel⟩ => ?_
  subst he
  exact ⟨_, rfl, _, _, _, [], _, [], hW', trodAll_mk1 (shut_bool Tryd.underlying4 _), (trodAll_cons_mk (Below.trod laidOut (by kernel_rfl) (of_decide_eq_true (by kernel_rfl)) k0 bel lt0) (trodAll_cons_mk (Below.trod laidOut (by kernel_rfl) (of_decide_eq_true (by kernel_rfl)) k1 bel lt1) trodAll_mk0)), rfl, bel.frame _, fun h => by cases h⟩

/-- A world for the witness. -/
noncomputable def laidWorld (os : Os) : World := laidW os
theorem laid_met (os : Os) : laidMetH Tryd.prog Rows.framerPlaysUptoRow.laid ((laidWorld os).forCall (fun _ _ => 0) ⟨#[], #[.slice none 0 0, .slice none 0 0], []⟩).memory := laidW_met os _
theorem reads (os : Os) {H : Type} (enc : TypeId × Value → H) : ∃ places, DataW.whole enc Tryd.prog ((laidWorld os).forCall (fun _ _ => 0) ⟨#[], #[.slice none 0 0, .slice none 0 0], []⟩).memory Tryd.f3.params.toList Rows.framerPlaysSpec.vars false #[Value.slice none 0 0, .slice none 0 0].toList 8 = some ([.nil, .nil], [], places) :=
  ⟨[], by kernel_rfl⟩

set_option maxRecDepth 100000 in
theorem lifted (os : Os) (started : os.Started) (H : Type) (enc : TypeId × Value → H) (F : Stop.Interp) :
    ReturnsInHanded {} Tryd.checked os 3 .any ((Rows.OpenSpec.upto Rows.framerPlaysSpec).preRow enc Tryd.prog Tryd.f3 Rows.framerPlaysUptoRow.domain false Rows.framerPlaysUptoRow.laid) (((Rows.OpenSpec.upto Rows.framerPlaysSpec).at F).post enc Tryd.prog Tryd.f3 false true false false) := by
  obtain ⟨places, hx⟩ := reads os enc
  refine returnsInHanded_of_row (C := Tryd.checked) (s := (Rows.OpenSpec.upto Rows.framerPlaysSpec)) own started (by kernel_rfl) Tryd.func3
    (witness_row_at (enc := enc) (C := Tryd.checked) false (laidWorld os) #[.slice none 0 0, .slice none 0 0] rfl (by kernel_rfl) (by kernel_rfl) (by kernel_rfl)
      (OpenSpec.preRow_of_cond 8 hx (by kernel_rfl) (fun k hk => by cases hk; kernel_rfl) (by kernel_rfl) (laid_met os))) ?_
  intro W base args ds gs before hval hW _ hcnd hsz hL _ _
  exact contract F H enc W base args ds gs before hval hW (hcnd _ rfl) hsz hL

theorem said : Rows.FramerPlaysUptoSaid :=
  OpenClaim.holds_of_cond 3 Tryd.f3 rfl rfl rfl rfl rfl rfl rfl ⟨rfl, rfl, rfl, rfl, rfl⟩ rfl rfl rfl rfl rfl (by kernel_rfl) Tryd.func3 (by kernel_rfl)
    (of_decide_eq_true (by kernel_rfl)) (by unfold Func.isWrapper; first | (rw [if_pos (by decide +kernel)]; kernel_rfl) | (rw [if_neg (by decide +kernel)]; exact ⟨rfl, rfl⟩))
    (fun os started H enc _ F => by rw [OpenClaim.pre_eq_preRow]; exact lifted os started H enc F)

theorem plain (f : FuncId) (fn : Func) (hf : Tryd.pinned.checked.prog.funcNamed "crier/crierlaw12.FramerPlays" = some f) (hfn : Tryd.pinned.checked.prog.funcs[f]? = some fn) :
    true = Tryd.pinned.checked.prog.looks [] ∧ ∀ (j : Nat) t, fn.params[j]? = some t → Tryd.pinned.checked.prog.wantsStandIn t = false := by
  obtain rfl : f = 3 := Option.some.inj ((show Tryd.prog.funcNamed "crier/crierlaw12.FramerPlays" = some 3 by kernel_rfl).symm.trans hf) |>.symm
  obtain rfl : fn = Tryd.f3 := (Option.some.inj (Tryd.func3.symm.trans hfn)).symm
  refine ⟨by kernel_rfl, fun j t ht => ?_⟩
  rw [Tryd.params3] at ht
  have : t = 22 ∨ t = 23 := by have := Array.mem_of_getElem? ht; simp at this; first | exact this | omega | grind
  rcases this with rfl | rfl
  · exact (show Tryd.prog.wantsStandIn 22 = false by kernel_rfl)
  · exact (show Tryd.prog.wantsStandIn 23 = false by kernel_rfl)

/-- THE CARD. -/
theorem proved : Rows.FramerPlaysUptoCardSaid :=
  Claim7.holds_tied_plain_at .later [] _ _ _ _ said (fun _ h => by cases h) (by kernel_rfl) (fun _ h => by cases h) framerPlaysUpto_row_tie rfl ⟨rfl, rfl⟩ (by kernel_rfl) rfl plain (by kernel_rfl)
end Go.Proofs.YtceiipcdkonnlaaDoor.framerPlays
