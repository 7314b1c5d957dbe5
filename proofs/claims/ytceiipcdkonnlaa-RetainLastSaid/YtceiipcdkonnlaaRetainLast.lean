/-
  RetainLast: FOR EVERY INPUT the law returns true and leaves its arguments as they were.
-/
import Derived.Test.YtceiipcdkonnlaaRe
import Derived.Test.YtceiipcdkonnlaaRows
import Derived.WalkKit
import Derived.Deep.RegionHeld3
import Derived.ProofKit
import Derived.OpenShut
import Derived.ShutString
import Derived.ChangeOld
import Derived.Below
import Derived.SizedLaws
import Derived.Lib.SmallJoins
namespace Go.Proofs.Ytceiipcdkonnlaa.retainLast
set_option linter.unusedSimpArgs false
set_option linter.unusedVariables false
open Go.ChangeShapes Go.WideShapes Go.ChangeAt Go.RowKit
open Go.ChangeMaps (open_string shut_string)
set_option linter.unusedVariables false

theorem own : ownKnob Try.prog.godebug = none := by kernel_rfl
theorem laidOut : laidOutB Try.prog = true := by kernel_rfl

open Go.Maps Go.WideMaps
set_option maxHeartbeats 16000000 in
set_option maxRecDepth 100000 in
theorem walk (a : Option Addr) (len cap : Nat) (A : List Mg) (T : ByteArray) (w : World) (h0 : MsAt w (.slice a len cap) A) (ok0 : ∀ f ∈ A, f.ok) (hT : T.size ≤ 140737488351232) :
    Calls Try.prog 6 #[.slice a len cap, .string T] w (Yes w) := by
  obtain ⟨x0, y0, hv0, hl0, hc⟩ := id h0
  simp only [Value.slice.injEq] at hv0
  obtain ⟨rfl, rfl, rfl⟩ := hv0
  have hl0' : (A.length : Int) ≤ 9223372036854775807 := by omega
  replace h0 := Lib.hid h0
  replace hc := Lib.hid hc
  replace ok0 := Lib.hid ok0
  have HT := Lib.hid hT
  clear hT hl0
  have S0 := Lib.hid (rl_start w A.length T)
  go_enter Try.func6, Try.ntmps6
  go_wp2_with fail
  refine (new_any w).mono ?_
  rintro e w1 ⟨rfl, rfl⟩
  go_wp2_with fail
  generalize (((w.alloc (.map #[] 0)).alloc (.cells #[.map (some w.heap.size)] 84)).alloc (.cells #[.string ⟨#[]⟩, .string ⟨#[]⟩, .int .i64 0, .bool false] 30)) = w2 at *
  go_loopw [7] (fun iv wr => ∃ (k : Nat) (D : DataW Value) (lt lx : ByteArray) (lq : Int) (lr : Bool), iv = .int .i64 (k : Int) ∧ Rl w wr A.length T k D lt lx lq lr) (fun iv _ => A.length - (intOf iv).toNat)
  case atStart => exact ⟨0, _, _, _, _, _, rfl, S0.out⟩
  case round =>
    obtain ⟨k, D, lt, lx, lq, lr, rfl, I⟩ := hrel
    by_cases hlt : k < A.length ∧ k < 60
    · obtain ⟨hlt0, hlt1⟩ := hlt
      obtain ⟨f, hf⟩ : ∃ f, A[k]? = some f := ⟨_, List.getElem?_eq_getElem hlt0⟩
      obtain ⟨ft, fx, fok⟩ := ok0.out f (List.mem_of_getElem? hf)
      obtain ⟨b, o, rfl, hb0, c0, c1, c2, c3⟩ := msAt_at hf I.bw hc.out
      have CS := Lib.hid (fun W (hb : Below w.heap.size w W) => (show W.cell? ⟨b, o + k * 4, none⟩ = some (.string f.a0) ∧ W.cell? ⟨b, o + k * 4 + 1, none⟩ = some (.string f.a1) ∧ W.cell? ⟨b, o + k * 4 + 2, none⟩ = some (.int .i64 f.a2) ∧ W.cell? ⟨b, o + k * 4 + 3, none⟩ = some (.bool f.a3) from by
        obtain ⟨b', o', e', -, d⟩ := msAt_at hf hb hc.out
        simp only [Option.some.injEq, Addr.mk.injEq, and_true] at e'
        obtain ⟨rfl, rfl⟩ := e'
        exact d))
      have K1 := Lib.hid (keep_any wr (w.heap.size + 1) w.heap.size w.heap.size k D f.a0 f.a1 f.a2 f.a3 I.sv (by omega) (Nat.le_refl _) (by omega) ft)
      have hlt0' : (k : Int) < (A.length : Int) := by omega
      have hlt1' : (k : Int) < 60 := by omega
      replace I := Lib.hid I
      replace hf := Lib.hid hf
      clear ft fx fok
      go_wp2_with fail
      refine K1.out.mono ?_
      rintro e w3 ⟨rfl, sv3, b3, els3⟩
      clear c0 c1 c2 c3 K1
      obtain ⟨c0, c1, c2, c3⟩ := CS.out w3 (I.out.bw.trans b3)
      have hse := str_eq f.a0 T
      by_cases hh : f.a0 = T ∧ kE D f.a0 f.a1 = 0
      · obtain ⟨h1, h2⟩ := hh
        rw [decide_eq_true h1] at hse
        have m3 := (els3 _ I.out.ms.lt (by omega)).trans I.out.ms
        have J := Lib.hid (fun (w4 : World) (hm : MsgAt w4 (w.heap.size + 1 + 1) f.a0 f.a1 f.a2 f.a3) (h4 : Below (w.heap.size + 1 + 1) w3 w4) => (Rl.last (w2 := w4) (r := f.a3) (h1 ▸ I.out) hlt0 hlt1 sv3 b3 h2 hm h4))
        rw [h2]
        obtain ⟨d0, d1, d2, d3, -⟩ := MsgAt.cells m3
        obtain ⟨z0, z1, z2, z3⟩ := MsgAt.froz m3
        replace m3 := Lib.hid m3
        replace h1 := Lib.hid h1
        replace h2 := Lib.hid h2
        replace I := Lib.hid I.out.kn
        clear sv3 b3 els3
        go_wp2_with fail
        go_roundw
        case rel =>
          have J' := J.out _ (MsgAt.set4 m3.out f.a0 f.a1 f.a2 f.a3) (MsgAt.below4 w3 _ _ _ _ _)
          rw [h1.out] at J'
          rw [h1.out]
          exact ⟨k + 1, _, _, _, _, _, by simp, J'⟩
        case measure => simp [intOf]; omega
      · have hE : decide (f.a0 = T) = false ∨ kE D f.a0 f.a1 ≠ 0 := by
          by_cases h1 : f.a0 = T
          · exact .inr (fun h2 => hh ⟨h1, h2⟩)
          · exact .inl (decide_eq_false h1)
        have J := Lib.hid (I.out.kept (q := f.a2) hlt0 hlt1 sv3 b3 els3 (hE.imp (fun h => fun e => by rw [e] at h; simp at h) id))
        generalize kD D f.a0 f.a1 f.a2 = D3 at *
        generalize kE D f.a0 f.a1 = E at *
        generalize kH D f.a0 f.a1 = hb3 at *
        generalize decide (f.a0 = T) = eq at *
        clear sv3 b3 els3 hh
        cases eq with
        | false =>
          clear hE
          go_wp2_with fail
          go_roundw
          case rel => exact ⟨k + 1, _, _, _, _, _, by simp, J.out⟩
          case measure => simp [intOf]; omega
        | true =>
          have hE' : (E == 0) = false := by simpa using hE
          clear hE
          go_wp2_with fail
          go_roundw
          case rel => exact ⟨k + 1, _, _, _, _, _, by simp, J.out⟩
          case measure => simp [intOf]; omega
    · obtain ⟨ga, gb, gc, gd, gat, gc1⟩ := get_any wr (w.heap.size + 1) w.heap.size k D T I.sv HT.out
      have lx1 := size1 (s := lx)
      by_cases hb1 : k < A.length
      all_goals
        first
          | have hb2 : ¬ (k : Int) < 60 := by omega
            have hb1' : (k : Int) < A.length := by omega
          | have hb2 : ¬ (k : Int) < (A.length : Int) := by omega
        replace I := Lib.hid I
        unfold mV at gat gc1
        clear hlt
        by_cases hx0 : lx.size = 0
        · obtain rfl := size0 hx0
          have hn := I.out.no rfl
          rw [atKey_of_not_has hn (.held zM : DataW Value)] at gat
          rw [hn] at gc1
          obtain ⟨rfl, rfl, rfl, rfl⟩ : ⟨#[]⟩ = ga ∧ ⟨#[]⟩ = gb ∧ 0 = gc ∧ false = gd := by simpa [zM] using gat
          replace gc1 := Lib.hid gc1
          replace hn := Lib.hid hn
          clear gat lx1
          go_wp2_with fail
          refine gc1.out.mono ?_
          rintro e w3 ⟨rfl, b3⟩
          have m3 := I.out.ms.keep b3 I.out.ms.lt
          have l3 := m3.lt
          have m4 := m3.keep (ext_alloc w3 (.cells #[.string ⟨#[]⟩, .string ⟨#[]⟩, .int .i64 0, .bool false] 30)) l3
          obtain ⟨d0, d1, d2, d3, -⟩ := m4.cells
          have B4 := Lib.hid (I.out.bw.trans ((b3.trans (ext_alloc w3 (.cells #[.string ⟨#[]⟩, .string ⟨#[]⟩, .int .i64 0, .bool false] 30) |>.mono b3.size)).mono I.out.bw.size))
          replace b3 := Lib.hid b3
          replace m3 := Lib.hid m3
          replace m4 := Lib.hid m4
          go_wp2_with fail
          refine (awake_any _).mono ?_
          rintro e w5 ⟨rfl, b5⟩
          go_wp2_with fail
          go_ret
          exact ⟨rfl, B4.out.trans (b5.mono B4.out.size)⟩
        · have hne := lx1 hx0
          obtain ⟨hy, hz⟩ := I.out.yes hx0
          rw [hz] at gat
          rw [hy] at gc1
          obtain ⟨rfl, rfl, rfl, rfl⟩ : lt = ga ∧ lx = gb ∧ lq = gc ∧ true = gd := by simpa [mV] using gat
          replace gc1 := Lib.hid gc1
          replace hx0 := Lib.hid hx0
          clear gat lx1 hz hy
          go_wp2_with fail
          refine gc1.out.mono ?_
          rintro e w3 ⟨rfl, b3⟩
          have m3 := I.out.ms.keep b3 I.out.ms.lt
          have l3 := m3.lt
          have m4 := m3.keep (ext_alloc w3 (.cells #[.string lt, .string lx, .int .i64 lq, .bool true] 30)) l3
          obtain ⟨d0, d1, d2, d3, -⟩ := m4.cells
          obtain ⟨z0, z1, z2, z3⟩ := m4.froz
          obtain ⟨y0, y1, y2, y3⟩ := m3.froz
          have m5 := (m3.set3 true).keep (ext_alloc (w3.setCell ⟨w.heap.size + 1 + 1, 3, none⟩ (.bool true)) (.cells #[.string lt, .string lx, .int .i64 lq, .bool true] 30)) (by simpa using l3)
          obtain ⟨x0, x1, x2, x3, -⟩ := m5.cells
          replace m5 := Lib.hid m5
          have B3 := I.out.bw.trans (b3.mono I.out.bw.size)
          have B4 := Lib.hid (B3.trans (((Below.refl w.heap.size w3).setCell (p := ⟨w.heap.size + 1 + 1, 3, none⟩) (by simp; omega) (.bool true)).alloc (by simp; omega) (.cells #[.string lt, .string lx, .int .i64 lq, .bool true] 30)))
          clear B3
          replace b3 := Lib.hid b3
          replace m3 := Lib.hid m3
          replace m4 := Lib.hid m4
          go_wp2_with fail
          refine (awake_any _).mono ?_
          rintro e w5 ⟨rfl, b5⟩
          go_wp2_with fail
          go_ret
          exact ⟨rfl, B4.out.trans (b5.mono B4.out.size)⟩

set_option maxRecDepth 100000 in
theorem lifted (os : Os) (started : os.Started) (H : Type) (enc : TypeId × Value → H) :
    ReturnsInHanded {} Try.checked os 6 .any (Rows.retainLastSpec.pre6 enc Try.prog Try.f6 Rows.retainLastRow.domain false) (Rows.retainLastSpec.post enc Try.prog Try.f6 false true false false) := by
  refine returnsInHanded_of_change_sized (C := Try.checked) own started (by kernel_rfl) Try.func6
    (ChangeSpec.witness6 (enc := enc) (C := Try.checked) false ⟨#[], #[.slice none 0 0, .string ByteArray.empty], []⟩ 8 (by kernel_rfl) (by kernel_rfl) (by kernel_rfl) (by kernel_rfl)) ?_
  intro W base args ds gs before hval0 hW hcnd hsz0 _
  have hsz : (DataW.weightsEach Try.prog (Try.f6.params.toList ++ Rows.retainLastSpec.plain.varTypes Try.prog) (ds ++ gs)).all (· ≤ reachBytes) = true := hsz0
  have hval : ∀ (j : Nat) t v, Try.f6.params[j]? = some t → args[j]? = some v → Value.okWide Try.prog W .any base t v := hval0
  have hW' := hW
  obtain ⟨p, q, hA0, hV, rfl, hfz, hnd⟩ := hW
  have hA : DataW.TrodAll enc Try.prog W 0 (fun _ => true) true Try.f6.params.toList args.toList ds p := hA0
  rw [Try.params6] at hA hval hsz
  obtain ⟨v0, vs0, d0, ds0, p0, q0, hargs, rfl, rfl, h0, r0⟩ := trodAll_cons hA
  obtain ⟨v1, vs1, d1, ds1, p1, q1, rfl, rfl, rfl, h1, r1⟩ := trodAll_cons r0
  obtain ⟨rfl, rfl, rfl⟩ := trodAll_nil r1
  obtain rfl : args = #[v0, v1] := by cases args; simp_all
  obtain ⟨rfl, rfl⟩ := trodVars_none hV
  have k0 := h0
  have lt0 : ∀ x ∈ p0, x.block < W.heap.size := by obtain ⟨m, hm⟩ := k0; exact DataW.trod_lt m _ _ _ hm
  have k1 := h1
  have lt1 : ∀ x ∈ p1, x.block < W.heap.size := by obtain ⟨m, hm⟩ := k1; exact DataW.trod_lt m _ _ _ hm
  obtain ⟨a0, len0, cap0, rfl⟩ := okWide_slice Try.underlying38 (hval 0 38 v0 rfl rfl)
  obtain ⟨z0, w0, s0⟩ : ∃ l : List Mg, MsAt W (.slice a0 len0 cap0) l ∧ ∀ f ∈ l, f.ok := by
    obtain ⟨fuel, hf⟩ := h0
    exact open_ms hf (fun n hn => by
      have hm := List.all_eq_true.1 hsz n (DataW.weights_mem_each (j := 0) (t := 38) rfl rfl _ hn)
      simpa [reachBytes] using of_decide_eq_true hm)
  obtain ⟨a1, rfl, rfl, rfl, w1⟩ := open_string Try.underlying9 (hval 1 9 v1 rfl rfl) h1
  have s1 : a1.size ≤ 140737488351232 := by
    have := sized_string hsz (j := 1) (t := 9) rfl rfl
    simp only [Array.length_toList, reachBytes] at this
    exact this
  clear hA0 hval0 hsz0
  refine (walk a0 len0 cap0 z0 a1 W w0 s0 s1).mono fun e W' ⟨he, bel⟩ => ?_
  subst he
  exact ⟨_, rfl, _, _, _, [], _, [], hW', trodAll_mk1 (shut_bool Try.underlying4 _), (trodAll_cons_mk (Below.trod laidOut (by kernel_rfl) (of_decide_eq_true (by kernel_rfl)) k0 bel lt0) (trodAll_cons_mk (Below.trod laidOut (by kernel_rfl) (of_decide_eq_true (by kernel_rfl)) k1 bel lt1) trodAll_mk0)), rfl, bel.frame _, fun h => by cases h⟩

theorem over : Rows.retainLastRow.holds Try.pinned (OpenSpec.ofChange Rows.retainLastSpec) :=
  OpenClaim.holds_of_wide 6 Try.f6 rfl rfl rfl rfl rfl rfl rfl ⟨rfl, rfl, rfl, rfl, rfl⟩ rfl rfl rfl rfl rfl (by kernel_rfl) Try.func6 (by kernel_rfl)
    (of_decide_eq_true (by kernel_rfl)) (by unfold Func.isWrapper; first | (rw [if_pos (by decide +kernel)]; kernel_rfl) | (rw [if_neg (by decide +kernel)]; exact ⟨rfl, rfl⟩))
    (fun os started H enc _ => lifted os started H enc)

theorem proved : Rows.RetainLastSaid := over
end Go.Proofs.Ytceiipcdkonnlaa.retainLast
