/-
  VarintBack: FOR EVERY INPUT the law returns true and leaves its arguments as they were.
-/
import Derived.Test.YtnhphkiklfajnaaGe
import Derived.Test.YtnhphkiklfajnaaVb
import Derived.Test.YtnhphkiklfajnaaApp
import Derived.Test.YtnhphkiklfajnaaRows
import Derived.WalkKit
import Derived.ProofKit
import Derived.OpenShut
import Derived.ShutString
import Derived.ChangeOld
import Derived.Below
import Derived.SizedLaws
import Derived.JoinedCond
import Derived.Test.YtnhphkiklfajnaaBulk
namespace Go.Proofs.Ytnhphkiklfajnaa.varintBack
open Go.ChangeShapes Go.WideShapes Go.ChangeAt Go.RowKit
open Go.ChangeMaps (open_string shut_string)
set_option linter.unusedVariables false

theorem own : ownKnob Try.prog.godebug = none := by kernel_rfl
theorem laidOut : laidOutB Try.prog = true := by kernel_rfl

theorem grown_ext {B : Nat} {w w' : World} {v : Value} {n : Nat} {xs : List Value} {e : TypeId} (hown : w.ownsRow B e 1 v n xs) (hg : w.grownBy w' v.ownBlock) (hB : B ≤ w.heap.size) : Below B w w' :=
  (Below.refl _ _).grown hg hB (fun k hk => (hown.lt k hk).1)

theorem ownsRow_keep {w w' : World} {B e n : Nat} {v : Value} {xs : List Value} (h : w.ownsRow B e 1 v n xs) (hb : Below w.heap.size w w') : w'.ownsRow B e 1 v n xs := by
  obtain ⟨h1, h2⟩ := h
  refine ⟨h1, ?_⟩
  rcases h2 with h | ⟨g, cap, cur, hv, hb', hg, r⟩
  · exact .inl h
  · exact .inr ⟨g, cap, cur, hv, hb', (hb.block g (Array.getElem?_eq_some_iff.1 hg).1).trans hg, r⟩

set_option maxHeartbeats 1000000 in
set_option maxRecDepth 100000 in
theorem main (n : Nat) (s1 s2 : Value) (la lb : List Nat) (w : World) (hn : n ≤ 18446744073709551615) (hA : BytesAt w s1 la) (hB : BytesAt w s2 lb) (ha : la.length ≤ 8388608) (hb : lb.length ≤ 8388608) (h1 : ∀ x ∈ la, x < 256) (h2 : ∀ x ∈ lb, x < 256) :
    Calls Try.prog 4 #[.int .u64 n, s1, s2] w (Yes w) := by
  obtain ⟨i0, hi, hz0, hz1, hz2⟩ := info_parts Try.info5
  obtain ⟨a1, cap1, e1, _, _⟩ := id hA
  subst e1
  have hpl : n < 128 ^ 10 := by omega
  have hpn := putL_length 9 n hpl hn
  have hpb := putL_byte 9 n hpl
  have hs := sz_le n hn
  have hgp := get_put 9 0 n 0 lb rfl hpl (by omega)
  have hA0 := hA.keep (ext_alloc w (.cells #[] 5)) (Nat.le_refl _)
  have hown0 : (w.alloc (.cells #[] 5)).ownsRow w.heap.size 5 1 (.slice (some ⟨w.heap.size, 0, none⟩) 0 0) ([] : List Nat).length (bl []) := World.ownsRow_lit w #[] 0 (Nat.le_refl _) (by unfold maxLen; omega) rfl
  obtain ⟨p, hp⟩ : ∃ p, p = putL 9 n := ⟨_, rfl⟩
  rw [← hp] at hpn hpb hgp
  have HP := Lib.hid hp
  have HGP := Lib.hid hgp
  have HPN := Lib.hid hpn
  have hpl10 : p.length ≤ 10 := by omega
  have HN := Lib.hid hn
  clear hn hp hgp hpn hpl
  go_enter Try.func4, Try.ntmps4
  go_wp2_with (first
    | (at_builtin; go_must (refine wpList_append_bytes _ rfl (.tmp 11) (.tmp 12) 23 rfl w.heap.size 5 i0 Try.underlying23 hi hz0 hz1 hz2 _ [] la rfl hown0 hA0 (by simp; omega) (by simp) ?_); intro v1 w1 hown1 hgrow1 hnil1))
  have hb1 := grown_ext hown0 hgrow1 (by simp)
  have b1 : Below w.heap.size w w1 := (ext_alloc w (.cells #[] 5)).trans hb1
  rw [List.nil_append] at hown1
  clear hown0 hA0 hgrow1 hb1 hnil1
  refine (put_any n w1 HN.out).mono ?_
  rintro e w2 ⟨v, rfl, hownp, hbp, hnnp⟩
  rw [← HP.out] at hownp
  have hL1 := BytesAt.of_own hownp
  have b2 : Below w.heap.size w w2 := b1.trans (hbp.mono b1.size)
  have hown1' : w2.ownsRow w.heap.size 5 1 v1 la.length (bl la) := by
    refine ownsRow_keep hown1 hbp
  clear hownp hown1 hbp b1
  go_wp2_with (first
    | (at_builtin; refine wpList_append_bytes _ rfl (.tmp 13) (.tmp 15) 23 rfl w.heap.size 5 i0 Try.underlying23 hi hz0 hz1 hz2 _ la p rfl hown1' hL1 (by omega) b2.size ?_; intro v2 w3 hown2 hgrow2 hnil2; have b3 := b2.trans (grown_ext hown1' hgrow2 b2.size); have hB2 := hB.keep b3 (Nat.le_refl _); clear hgrow2 hnil2)
    | (at_builtin; go_must (refine wpList_append_bytes _ rfl (.tmp 16) (.tmp 17) 23 rfl w.heap.size 5 i0 Try.underlying23 hi hz0 hz1 hz2 _ (la ++ p) lb rfl hown2 hB2 (by simp; omega) b3.size ?_); intro v3 w4 hown3 hgrow3 hnil3; have b4 := b3.trans (grown_ext hown2 hgrow3 b3.size); clear hgrow3 hnil3 hown1' hL1 hB2 hown2))
  have hS := Src.of_own hown3
  have hlt : ∀ x ∈ la ++ p ++ lb, x < 256 := by
    intro x hx
    rcases List.mem_append.1 hx with h | h
    · rcases List.mem_append.1 h with h | h
      · exact h1 x h
      · exact hpb x h
    · exact h2 x h
  have G := Lib.hid (get_any v3 (la ++ p ++ lb) la.length w4 hS hlt (by simp; omega) (by simp))
  have hV : getV (la ++ p ++ lb) la.length = .tuple #[.int .u64 n, .int .i64 ((la.length : Int) + (sz n : Int)), .int .i64 0] := by
    unfold getV
    rw [List.append_assoc, List.drop_left, HGP.out]
    simp [HPN.out]
  have HV := Lib.hid hV
  clear hV hS hlt hown3 b2 b3 hpb h1 h2
  refine G.out.mono ?_
  rintro e w5 ⟨rfl, b5⟩
  rw [HV.out]
  have B4 := Lib.hid b4
  have B5 := Lib.hid b5
  have hsz1 : (sz n : Int) ≤ 10 := by omega
  have hla : (la.length : Int) ≤ 8388608 := by omega
  have hla0 : (0 : Int) ≤ la.length := by omega
  have hsz0 : (0 : Int) ≤ sz n := by omega
  clear b4 b5
  go_wp2_with (go_at_call 16; refine (size_any n _ HN.out).mono ?_; rintro e w' ⟨rfl, rfl⟩)
  refine (put_any n w5 HN.out).mono ?_
  rintro e w6 ⟨v', rfl, hownp, hbp, hnnp⟩
  rw [← HP.out] at hownp
  obtain ⟨g, cap, hv, _⟩ := own_at hownp hnnp
  rw [HPN.out] at hv
  rw [hv]
  have B6 := Lib.hid hbp
  clear hbp hownp hnnp hv
  go_wp2_with (first | (go_at_call 16; refine (size_any n _ HN.out).mono ?_; rintro e w' ⟨rfl, rfl⟩) | (go_at_call 21; refine (awake_any _).mono ?_; rintro e w' ⟨rfl, hbw⟩))
  go_ret
  exact ⟨rfl, ext_trans (ext_trans (ext_trans B4.out B5.out) B6.out) hbw⟩
theorem walk (n : Int) (a1 : Option Addr) (len1 cap1 : Nat) (z1 : List Int) (a2 : Option Addr) (len2 cap2 : Nat) (z2 : List Int) (w : World) (b0 : 0 ≤ n ∧ n ≤ 18446744073709551615)
    (w1 : IsRow .u8 w a1 len1 cap1 z1) (s1 : cap1 * 1 ≤ 8388608) (w2 : IsRow .u8 w a2 len2 cap2 z2) (s2 : cap2 * 1 ≤ 8388608) :
    Calls Try.prog 4 #[.int .u64 n, .slice a1 len1 cap1, .slice a2 len2 cap2] w (Yes w) := by
  obtain ⟨m, rfl⟩ := Int.eq_ofNat_of_zero_le b0.1
  obtain ⟨hB1, he1, h1⟩ := w1.bytes
  obtain ⟨hB2, he2, h2⟩ := w2.bytes
  have l1 := w1.len_le
  have l2 := w2.len_le
  exact main m _ _ _ _ w (by omega) hB1 hB2 (by omega) (by omega) h1 h2

set_option maxRecDepth 100000 in
theorem lifted (os : Os) (started : os.Started) (H : Type) (enc : TypeId × Value → H) (F : Stop.Interp) :
    ReturnsInHanded {} Try.checked os 4 .any ((Rows.OpenSpec.upto Rows.varintBackSpec).pre6 enc Try.prog Try.f4 Rows.varintBackUptoRow.domain false) (((Rows.OpenSpec.upto Rows.varintBackSpec).at F).post enc Try.prog Try.f4 false true false false) := by
  refine returnsInHanded_of_cond (C := Try.checked) (s := Rows.OpenSpec.upto Rows.varintBackSpec) (k := Rows.uptoSmall) rfl own started (by kernel_rfl) Try.func4
    (OpenSpec.witness (enc := enc) (C := Try.checked) (s := Rows.OpenSpec.upto Rows.varintBackSpec) (k := Rows.uptoSmall) rfl false ⟨#[], #[.int .u64 0, .slice none 0 0, .slice none 0 0], []⟩ 8 (by kernel_rfl) (by kernel_rfl) (by kernel_rfl)
      (x := ([.lit (.int .u64 0), .nil, .nil], [], [])) (by kernel_rfl) rfl (by kernel_rfl)) ?_
  intro W base args ds gs before hval0 hW hcnd hk _
  have hval : ∀ (j : Nat) t v, Try.f4.params[j]? = some t → args[j]? = some v → Value.okWide Try.prog W .any base t v := hval0
  have hW' := hW
  obtain ⟨p, q, hA0, hV, rfl, hfz, hnd⟩ := hW
  have hA : DataW.TrodAll enc Try.prog W 0 (fun _ => true) true Try.f4.params.toList args.toList ds p := hA0
  rw [Try.params4] at hA hval
  obtain ⟨v0, vs0, d0, ds0, p0, q0, hargs, rfl, rfl, h0, r0⟩ := trodAll_cons hA
  obtain ⟨v1, vs1, d1, ds1, p1, q1, rfl, rfl, rfl, h1, r1⟩ := trodAll_cons r0
  obtain ⟨v2, vs2, d2, ds2, p2, q2, rfl, rfl, rfl, h2, r2⟩ := trodAll_cons r1
  obtain ⟨rfl, rfl, rfl⟩ := trodAll_nil r2
  obtain rfl : args = #[v0, v1, v2] := by cases args; simp_all
  obtain ⟨rfl, rfl⟩ := trodVars_none hV
  have hb0 : Rows.uptoBulk d0 ≤ 1048576 := bulks.le hk (by simp)
  have hb1 : Rows.uptoBulk d1 ≤ 1048576 := bulks.le hk (by simp)
  have hb2 : Rows.uptoBulk d2 ≤ 1048576 := bulks.le hk (by simp)
  have k0 := h0
  have lt0 : ∀ x ∈ p0, x.block < W.heap.size := by obtain ⟨m, hm⟩ := k0; exact DataW.trod_lt m _ _ _ hm
  have k1 := h1
  have lt1 : ∀ x ∈ p1, x.block < W.heap.size := by obtain ⟨m, hm⟩ := k1; exact DataW.trod_lt m _ _ _ hm
  have k2 := h2
  have lt2 : ∀ x ∈ p2, x.block < W.heap.size := by obtain ⟨m, hm⟩ := k2; exact DataW.trod_lt m _ _ _ hm
  obtain ⟨a0, rfl, rfl, rfl, w0⟩ := open_int Try.underlying22 (hval 0 22 v0 rfl rfl) h0
  have b0 := wf_u64 w0
  obtain ⟨a1, len1, cap1, rfl⟩ := okWide_slice Try.underlying23 (hval 1 23 v1 rfl rfl)
  obtain ⟨z1, w1, s1⟩ : ∃ zs, IsRow .u8 W a1 len1 cap1 zs ∧ cap1 * 1 ≤ 8388608 := by
    obtain ⟨fuel, hf⟩ := h1
    rcases open_ints Try.underlying23 Try.underlying5 (by kernel_rfl) hf with ⟨hcs, _⟩ | ⟨x, l, c, zs, hcs, _, hl, hm, hz, hx, hcell, hwz⟩
    · simp [Value.cells] at hcs
      obtain ⟨rfl, rfl, rfl⟩ := hcs
      exact ⟨[], .inl ⟨rfl, rfl, rfl, rfl⟩, by omega⟩
    · simp [Value.cells] at hcs
      obtain ⟨rfl, rfl, rfl⟩ := hcs
      have hz' : zs.length = cap1 := by simpa using hz
      have hd : d1 = .slice (lits .u8 (zs.take len1)) (lits .u8 (zs.drop len1)) := congrArg Prod.fst hx
      have hroom := bulks.slice_len (x := lits .u8 (zs.take len1)) (y := lits .u8 (zs.drop len1)) (by rw [← hd]; exact hb1)
      simp only [lits, List.length_map, List.length_take, List.length_drop] at hroom
      exact ⟨zs, .inr ⟨_, rfl, hl, hm, hz', hcell, hwz⟩, by omega⟩
  obtain ⟨a2, len2, cap2, rfl⟩ := okWide_slice Try.underlying23 (hval 2 23 v2 rfl rfl)
  obtain ⟨z2, w2, s2⟩ : ∃ zs, IsRow .u8 W a2 len2 cap2 zs ∧ cap2 * 1 ≤ 8388608 := by
    obtain ⟨fuel, hf⟩ := h2
    rcases open_ints Try.underlying23 Try.underlying5 (by kernel_rfl) hf with ⟨hcs, _⟩ | ⟨x, l, c, zs, hcs, _, hl, hm, hz, hx, hcell, hwz⟩
    · simp [Value.cells] at hcs
      obtain ⟨rfl, rfl, rfl⟩ := hcs
      exact ⟨[], .inl ⟨rfl, rfl, rfl, rfl⟩, by omega⟩
    · simp [Value.cells] at hcs
      obtain ⟨rfl, rfl, rfl⟩ := hcs
      have hz' : zs.length = cap2 := by simpa using hz
      have hd : d2 = .slice (lits .u8 (zs.take len2)) (lits .u8 (zs.drop len2)) := congrArg Prod.fst hx
      have hroom := bulks.slice_len (x := lits .u8 (zs.take len2)) (y := lits .u8 (zs.drop len2)) (by rw [← hd]; exact hb2)
      simp only [lits, List.length_map, List.length_take, List.length_drop] at hroom
      exact ⟨zs, .inr ⟨_, rfl, hl, hm, hz', hcell, hwz⟩, by omega⟩
  clear hA0 hval0
  refine (walk a0 a1 len1 cap1 z1 a2 len2 cap2 z2 W b0 w1 s1 w2 s2).mono fun e W' ⟨he, bel⟩ => ?_
  subst he
  exact ⟨_, rfl, _, _, _, [], _, [], hW', trodAll_mk1 (shut_bool Try.underlying4 _), (trodAll_cons_mk (Below.trod laidOut (by kernel_rfl) (of_decide_eq_true (by kernel_rfl)) k0 bel lt0) (trodAll_cons_mk (Below.trod laidOut (by kernel_rfl) (of_decide_eq_true (by kernel_rfl)) k1 bel lt1) (trodAll_cons_mk (Below.trod laidOut (by kernel_rfl) (of_decide_eq_true (by kernel_rfl)) k2 bel lt2) trodAll_mk0))), rfl, bel.frame _, fun h => by cases h⟩

theorem over : Rows.varintBackUptoRow.holds Try.pinned (Rows.OpenSpec.upto Rows.varintBackSpec) :=
  OpenClaim.holds_of_cond 4 Try.f4 rfl rfl rfl rfl rfl rfl rfl ⟨rfl, rfl, rfl, rfl, rfl⟩ rfl rfl rfl rfl rfl (by kernel_rfl) Try.func4 (by kernel_rfl)
    (of_decide_eq_true (by kernel_rfl)) (by unfold Func.isWrapper; first | (rw [if_pos (by decide +kernel)]; kernel_rfl) | (rw [if_neg (by decide +kernel)]; exact ⟨rfl, rfl⟩))
    (fun os started H enc _ F => lifted os started H enc F)

theorem proved : Rows.VarintBackUptoSaid := over
end Go.Proofs.Ytnhphkiklfajnaa.varintBack
