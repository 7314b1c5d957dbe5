/-
  SeqsCounts: FOR EVERY INPUT the law returns true and leaves its arguments as they were.
-/
import Derived.Test.YtaannopaipjcoabSc
import Derived.Test.YtaannopaipjcoabRows
import Derived.WalkKit
import Derived.ProofKit
import Derived.OpenShut
import Derived.ShutString
import Derived.ChangeOld
import Derived.Below
import Derived.SizedLaws
namespace Go.Proofs.Ytaannopaipjcoab.seqsCounts
open Go.ChangeShapes Go.WideShapes Go.ChangeAt Go.RowKit
open Go.ChangeMaps (open_string shut_string)
set_option linter.unusedVariables false

theorem own : ownKnob Try.prog.godebug = none := by kernel_rfl
theorem laidOut : laidOutB Try.prog = true := by kernel_rfl

def CountRel (B : Nat) (w : World) (b len : Nat) (t i : Value) (wr : World) : Prop :=
  ∃ k n : Nat, k ≤ 80 ∧ k ≤ len ∧ n ≤ k ∧ i = .int .i64 k ∧ t = .int .i64 n ∧ RowAt wr B true (((b : Int) + 1 + n) % 256) ∧ Below B w wr

set_option maxRecDepth 100000 in
theorem walk (b : Int) (a : Option Addr) (len cap : Nat) (z : List Int) (w : World) (hb : 0 ≤ b ∧ b ≤ 255) (w1 : IsRow .u8 w a len cap z) (s1 : cap * 1 ≤ 140737488351232) :
    Calls Try.prog 5 #[.int .u8 b, .slice a len cap] w (Yes w) := by
  obtain ⟨m, rfl⟩ := Int.eq_ofNat_of_zero_le hb.1
  have hm : m ≤ 255 := by omega
  clear hb
  obtain ⟨hl, hlc⟩ := w1.len_le
  obtain ⟨hB, he, h256⟩ := w1.bytes
  obtain ⟨l, hdef⟩ : ∃ l, l = (z.take len).map Int.toNat := ⟨_, rfl⟩
  rw [← hdef] at hB he h256
  clear hdef w1
  obtain ⟨a', cap', hv, _, hh⟩ := hB
  rw [he] at hv hh
  obtain ⟨rfl, _, rfl⟩ : a = a' ∧ len = len ∧ cap = cap' := by simpa using hv
  have HE := Lib.hid he
  clear he hv
  have R0 := new_row w
  go_enter Try.func5, Try.ntmps5
  go_wp2_with fail
  refine (new_any _).mono ?_
  rintro e w' ⟨rfl, rfl⟩
  go_wp2_with fail
  refine (take_none w.heap.size m 0 _ R0 (by omega) (by omega)).mono ?_
  rintro e w' ⟨rfl, rfl⟩
  go_wp2_with fail
  refine (begin_ok w.heap.size false m 0 _ R0 (by omega) (by omega)).mono ?_
  rintro e w1 ⟨rfl, rfl⟩
  have R1 := R0.step (((m : Int) + 1) % 256)
  have B1 := stepW_below (ext_alloc w (.cells #[.bool true, .bool false, .int .u8 0] 43)) (Nat.le_refl _) (((m : Int) + 1) % 256)
  obtain ⟨w2, hw2⟩ : ∃ w2, w2 = stepW (w.alloc (.cells #[.bool true, .bool false, .int .u8 0] 43)) w.heap.size (((m : Int) + 1) % 256) := ⟨_, rfl⟩
  rw [← hw2] at R1 B1 ⊢
  clear hw2 R0
  go_wp2_with fail
  go_loopw [6, 7] (fun t i wr => CountRel w.heap.size w m len t i wr) (fun _ i _ => 80 - (intOf i).toNat)
  case atStart => exact ⟨0, 0, by omega, by omega, by omega, rfl, rfl, by simpa using R1, B1⟩
  case round =>
    obtain ⟨k, n, hk, hkl, hn, rfl, rfl, hR, hnx⟩ := hrel
    have q0 : 0 ≤ ((m : Int) + 1 + n) % 256 := by omega
    have q1 : ((m : Int) + 1 + n) % 256 ≤ 255 := by omega
    have HR := Lib.hid hR
    clear hR R1 B1
    by_cases hlt : k < len ∧ k < 80
    · obtain ⟨hlt1, hlt2⟩ := hlt
      have hcell : ∃ b0 o, a = some ⟨b0, o, none⟩ ∧ b0 < w.heap.size ∧ w.cell? ⟨b0, o + k, none⟩ = some (.int .u8 ((l.getD k 0 : Nat) : Int)) := by
        rcases hh with rfl | ⟨b0, o, h1, h2, h3⟩
        · have := HE.out; simp at this; omega
        · exact ⟨b0, o, h1, h2, h3 k hlt1⟩
      obtain ⟨b0, o, rfl, hb0, hc⟩ := hcell
      clear hh
      have hc1 : wr.cell? ⟨b0, o + k, none⟩ = some (.int .u8 ((l.getD k 0 : Nat) : Int)) := by rw [hnx.cell (by simpa using hb0)]; exact hc
      have hx : l.getD k 0 ≤ 255 := by
        rw [List.getD_eq_getElem?_getD]
        cases e : l[k]? with
        | none => simp
        | some x => have := h256 x (List.mem_of_getElem? e); simp; omega
      clear hc h256
      obtain ⟨c, hc⟩ : ∃ c, c = l.getD k 0 := ⟨_, rfl⟩
      rw [← hc] at hc1 hx
      clear hc
      by_cases hev : k % 2 = 0
      · have hev' : ((k : Int) % 2 == 0) = true := by rw [beq_iff_eq]; omega
        have HV := Lib.hid hev
        clear hev
        have hst := HR.out.step ((((m : Int) + 1 + n) % 256 + 1) % 256)
        rw [show (((m : Int) + 1 + n) % 256 + 1) % 256 = ((m : Int) + 1 + ((n : Int) + 1)) % 256 from by omega] at hst
        have HST := Lib.hid hst
        clear hst
        go_wp2_with fail
        refine (take_ok w.heap.size (((m : Int) + 1 + n) % 256) _ HR.out q0 q1).mono ?_
        rintro e w' ⟨rfl, rfl⟩
        rw [show (((m : Int) + 1 + n) % 256 + 1) % 256 = ((m : Int) + 1 + ((n : Int) + 1)) % 256 from by omega]
        go_wp2_with fail
        refine (want_ok w.heap.size (((m : Int) + 1 + ((n : Int) + 1)) % 256) _ HST.out (by omega) (by omega)).mono ?_
        rintro e w' ⟨rfl, rfl⟩
        go_wp2_with fail
        go_roundw
        case rel => exact ⟨k + 1, n + 1, by omega, by omega, by omega, by go_num, by go_num, by simpa using HST.out, stepW_below hnx (Nat.le_refl _) _⟩
        case measure => simp [intOf]; omega
      · have hev' : ((k : Int) % 2 == 0) = false := by rw [beq_eq_false_iff_ne]; omega
        have HV := Lib.hid hev
        clear hev
        by_cases hcq : (c : Int) = ((m : Int) + 1 + n) % 256
        · have hcb : ((c : Int) == ((m : Int) + 1 + n) % 256) = true := by rw [beq_iff_eq]; exact hcq
          have hRc : RowAt wr w.heap.size true (c : Int) := by rw [hcq]; exact HR.out
          have hst := HR.out.step ((((m : Int) + 1 + n) % 256 + 1) % 256)
          have hco : ((c : Int) + 1) % 256 = ((m : Int) + 1 + ((n : Int) + 1)) % 256 := by omega
          rw [show (((m : Int) + 1 + n) % 256 + 1) % 256 = ((m : Int) + 1 + ((n : Int) + 1)) % 256 from by omega] at hst
          have HST := Lib.hid hst
          have HRC := Lib.hid hRc
          have HCO := Lib.hid hco
          have HCQ := Lib.hid hcq
          clear hst hRc hco hcq
          go_wp2_with fail
          refine (take_ok w.heap.size (c : Int) _ HRC.out (by omega) (by omega)).mono ?_
          rintro e w' ⟨rfl, rfl⟩
          rw [HCO.out]
          go_wp2_with fail
          refine (want_ok w.heap.size (((m : Int) + 1 + ((n : Int) + 1)) % 256) _ HST.out (by omega) (by omega)).mono ?_
          rintro e w' ⟨rfl, rfl⟩
          go_wp2_with fail
          go_roundw
          case rel => exact ⟨k + 1, n + 1, by omega, by omega, by omega, by go_num, by go_num, by simpa using HST.out, stepW_below hnx (Nat.le_refl _) _⟩
          case measure => simp [intOf]; omega
        · have hcb : ((c : Int) == ((m : Int) + 1 + n) % 256) = false := by rw [beq_eq_false_iff_ne]; exact hcq
          go_wp2_with fail
          refine (take_no w.heap.size (c : Int) (((m : Int) + 1 + n) % 256) _ HR.out q0 q1 (by omega) (by omega) hcq).mono ?_
          rintro e w' ⟨rfl, rfl⟩
          go_wp2_with fail
          refine (want_ok w.heap.size (((m : Int) + 1 + (n : Int)) % 256) _ HR.out (by omega) (by omega)).mono ?_
          rintro e w' ⟨rfl, rfl⟩
          go_wp2_with fail
          go_roundw
          case rel => exact ⟨k + 1, n, by omega, by omega, by omega, by go_num, rfl, HR.out, hnx⟩
          case measure => simp [intOf]; omega
    · by_cases h1 : k < len
      · have h2 : ¬ k < 80 := by omega
        clear hlt
        go_wp2_with fail
        refine (awake_any _).mono ?_
        rintro e w' ⟨rfl, hb⟩
        go_wp2
        go_ret
        exact ⟨rfl, ext_trans hnx hb⟩
      · clear hlt
        go_wp2_with fail
        refine (awake_any _).mono ?_
        rintro e w' ⟨rfl, hb⟩
        go_wp2
        go_ret
        exact ⟨rfl, ext_trans hnx hb⟩

set_option maxRecDepth 100000 in
theorem lifted (os : Os) (started : os.Started) (H : Type) (enc : TypeId × Value → H) :
    ReturnsInHanded {} Try.checked os 5 .any (Rows.seqsCountsSpec.pre6 enc Try.prog Try.f5 Rows.seqsCountsRow.domain false) (Rows.seqsCountsSpec.post enc Try.prog Try.f5 false true false false) := by
  refine returnsInHanded_of_change_sized (C := Try.checked) own started (by kernel_rfl) Try.func5
    (ChangeSpec.witness6 (enc := enc) (C := Try.checked) false ⟨#[], #[.int .u8 0, .slice none 0 0], []⟩ 8 (by kernel_rfl) (by kernel_rfl) (by kernel_rfl) (by kernel_rfl)) ?_
  intro W base args ds gs before hval0 hW hcnd hsz0 _
  have hsz : (DataW.weightsEach Try.prog (Try.f5.params.toList ++ Rows.seqsCountsSpec.plain.varTypes Try.prog) (ds ++ gs)).all (· ≤ reachBytes) = true := hsz0
  have hval : ∀ (j : Nat) t v, Try.f5.params[j]? = some t → args[j]? = some v → Value.okWide Try.prog W .any base t v := hval0
  have hW' := hW
  obtain ⟨p, q, hA0, hV, rfl, hfz, hnd⟩ := hW
  have hA : DataW.TrodAll enc Try.prog W 0 (fun _ => true) true Try.f5.params.toList args.toList ds p := hA0
  rw [Try.params5] at hA hval hsz
  obtain ⟨v0, vs0, d0, ds0, p0, q0, hargs, rfl, rfl, h0, r0⟩ := trodAll_cons hA
  obtain ⟨v1, vs1, d1, ds1, p1, q1, rfl, rfl, rfl, h1, r1⟩ := trodAll_cons r0
  obtain ⟨rfl, rfl, rfl⟩ := trodAll_nil r1
  obtain rfl : args = #[v0, v1] := by cases args; simp_all
  obtain ⟨rfl, rfl⟩ := trodVars_none hV
  have k0 := h0
  have lt0 : ∀ x ∈ p0, x.block < W.heap.size := by obtain ⟨m, hm⟩ := k0; exact DataW.trod_lt m _ _ _ hm
  have k1 := h1
  have lt1 : ∀ x ∈ p1, x.block < W.heap.size := by obtain ⟨m, hm⟩ := k1; exact DataW.trod_lt m _ _ _ hm
  obtain ⟨a0, rfl, rfl, rfl, w0⟩ := open_int Try.underlying5 (hval 0 5 v0 rfl rfl) h0
  have b0 := wf_u8 w0
  obtain ⟨a1, len1, cap1, rfl⟩ := okWide_slice Try.underlying22 (hval 1 22 v1 rfl rfl)
  obtain ⟨z1, w1, s1⟩ : ∃ zs, IsRow .u8 W a1 len1 cap1 zs ∧ cap1 * 1 ≤ 140737488351232 := by
    obtain ⟨fuel, hf⟩ := h1
    rcases open_ints Try.underlying22 Try.underlying5 (by kernel_rfl) hf with ⟨hcs, _⟩ | ⟨x, l, c, zs, hcs, _, hl, hm, hz, hx, hcell, hwz⟩
    · simp [Value.cells] at hcs
      obtain ⟨rfl, rfl, rfl⟩ := hcs
      exact ⟨[], .inl ⟨rfl, rfl, rfl, rfl⟩, by omega⟩
    · simp [Value.cells] at hcs
      obtain ⟨rfl, rfl, rfl⟩ := hcs
      have hz' : zs.length = cap1 := by simpa using hz
      have hd : d1 = .slice (lits .u8 (zs.take len1)) (lits .u8 (zs.drop len1)) := congrArg Prod.fst hx
      have hroom := sized_slice hsz (j := 1) (t := 22) (e := 5) rfl (by rw [hd]; rfl) Try.underlying22
      rw [show Try.prog.bytesOf 5 = 1 from by kernel_rfl] at hroom
      simp only [lits, List.length_map, List.length_take, List.length_drop, reachBytes] at hroom
      exact ⟨zs, .inr ⟨_, rfl, hl, hm, hz', hcell, hwz⟩, by omega⟩
  clear hA0 hval0 hsz0
  refine (walk a0 a1 len1 cap1 z1 W b0 w1 s1).mono fun e W' ⟨he, bel⟩ => ?_
  subst he
  exact ⟨_, rfl, _, _, _, [], _, [], hW', trodAll_mk1 (shut_bool Try.underlying4 _), (trodAll_cons_mk (Below.trod laidOut (by kernel_rfl) (of_decide_eq_true (by kernel_rfl)) k0 bel lt0) (trodAll_cons_mk (Below.trod laidOut (by kernel_rfl) (of_decide_eq_true (by kernel_rfl)) k1 bel lt1) trodAll_mk0)), rfl, bel.frame _, fun h => by cases h⟩

theorem over : Rows.seqsCountsRow.holds Try.pinned (OpenSpec.ofChange Rows.seqsCountsSpec) :=
  OpenClaim.holds_of_wide 5 Try.f5 rfl rfl rfl rfl rfl rfl rfl ⟨rfl, rfl, rfl, rfl, rfl⟩ rfl rfl rfl rfl rfl (by kernel_rfl) Try.func5 (by kernel_rfl)
    (of_decide_eq_true (by kernel_rfl)) (by unfold Func.isWrapper; first | (rw [if_pos (by decide +kernel)]; kernel_rfl) | (rw [if_neg (by decide +kernel)]; exact ⟨rfl, rfl⟩))
    (fun os started H enc _ => lifted os started H enc)

theorem proved : Rows.SeqsCountsSaid := over
end Go.Proofs.Ytaannopaipjcoab.seqsCounts
