/-
  FixedBack: FOR EVERY INPUT the law returns true and leaves its arguments as they were.
-/
import Derived.Test.YtnhphkiklfajnaaFc
import Derived.Test.YtnhphkiklfajnaaRows
import Derived.WalkKit
import Derived.ProofKit
import Derived.OpenShut
import Derived.ShutString
import Derived.ChangeOld
import Derived.Below
import Derived.SizedLaws
import Derived.JoinedCond
import Derived.Test.YtnhphkiklfajnaaBulk
namespace Go.Proofs.Ytnhphkiklfajnaa.fixedBack
open Go.ChangeShapes Go.WideShapes Go.ChangeAt Go.RowKit
open Go.ChangeMaps (open_string shut_string)
set_option linter.unusedVariables false

theorem own : ownKnob Try.prog.godebug = none := by kernel_rfl
theorem laidOut : laidOutB Try.prog = true := by kernel_rfl

def Laid (B : Nat) (l : List Nat) (w0 w : World) (v : Value) : Prop := BytesAt w v l ∧ Below B w0 w
theorem grown_ext {B : Nat} {w w' : World} {v : Value} {n : Nat} {xs : List Value} {e : TypeId} (hown : w.ownsRow B e 1 v n xs) (hg : w.grownBy w' v.ownBlock) (hB : B ≤ w.heap.size) : Below B w w' :=
  (Below.refl _ _).grown hg hB (fun k hk => (hown.lt k hk).1)

theorem put4_wrap (n : Nat) (w : World) : Calls Try.prog 26 #[.int .u32 (IntKind.u32.wrap (n : Int))] w fun e w' => e = .returned (.slice (some ⟨w.heap.size, 0, none⟩) 4 4) ∧ w.alloc (.cells (row4 (n % 4294967296)) 5) = w' := by
  have h := put4_any (n % 4294967296) w (by omega)
  rw [show ((n % 4294967296 : Nat) : Int) = IntKind.u32.wrap (n : Int) from by rw [IntKind.wrap_u32']; omega] at h
  exact h
theorem wrap_eq (n : Nat) : ((n % 4294967296 : Nat) : Int) = IntKind.u32.wrap (n : Int) := by rw [IntKind.wrap_u32']; omega
set_option maxHeartbeats 1000000 in
set_option maxRecDepth 100000 in
theorem main (n : Nat) (s1 s2 : Value) (la lb : List Nat) (w : World) (hn : n ≤ 18446744073709551615) (hA : BytesAt w s1 la) (hB : BytesAt w s2 lb) (ha : la.length ≤ 8388608) (hb : lb.length ≤ 8388608) (h1 : ∀ x ∈ la, x < 256) (h2 : ∀ x ∈ lb, x < 256) :
    Calls Try.prog 9 #[.int .u64 n, s1, s2] w (Yes w) := by
  obtain ⟨i0, hi, hz0, hz1, hz2⟩ := info_parts Try.info5b
  obtain ⟨a1, cap1, e1, _, _⟩ := id hA
  subst e1
  have hA0 := hA.keep (ext_alloc w (.cells #[] 5)) (Nat.le_refl _)
  have hown0 : (w.alloc (.cells #[] 5)).ownsRow w.heap.size 5 1 (.slice (some ⟨w.heap.size, 0, none⟩) 0 0) ([] : List Nat).length (bl []) := World.ownsRow_lit w #[] 0 (Nat.le_refl _) (by unfold maxLen; omega) rfl
  have HN := Lib.hid hn
  clear hn
  go_enter Try.func9, Try.ntmps9
  go_wp2_with (first
    | (at_builtin; go_must (refine wpList_append_bytes _ rfl (.tmp 15) (.tmp 16) 23 rfl w.heap.size 5 i0 Try.underlying23 hi hz0 hz1 hz2 _ [] la rfl hown0 hA0 (by simp; omega) (by simp) ?_); intro v1 w1 hown1 hgrow1 hnil1))
  have hb1 := grown_ext hown0 hgrow1 (by simp)
  obtain ⟨m, hm⟩ : ∃ m, m = n % 4294967296 := ⟨_, rfl⟩
  have hm4 : m ≤ 4294967295 := by omega
  have b1 : Below w.heap.size w w1 := (ext_alloc w (.cells #[] 5)).trans hb1
  rw [List.nil_append] at hown1
  clear hown0 hA0 hgrow1 hb1 hnil1
  refine (put4_wrap n _).mono ?_
  rintro e w' ⟨rfl, rfl⟩
  rw [← hm]
  have hown1' := hown1.alloc (.cells (row4 m) 5)
  have hL1 := BytesAt_lit w1 (r4 m) (row4 m) 4 (row4_bl m) rfl
  have b1' : Below w.heap.size w (w1.alloc (.cells (row4 m) 5)) := b1.trans ((ext_alloc _ _).mono b1.size)
  have HM := Lib.hid hm
  clear hm hown1
  go_wp2_with (first
    | (at_builtin; refine wpList_append_bytes _ rfl (.tmp 17) (.tmp 20) 23 rfl w.heap.size 5 i0 Try.underlying23 hi hz0 hz1 hz2 _ la (r4 m) rfl hown1' hL1 (by simp [r4]; omega) b1'.size ?_; intro v2 w2 hown2 hgrow2 hnil2; have b2 := b1'.trans (grown_ext hown1' hgrow2 b1'.size); have hB2 := hB.keep b2 (Nat.le_refl _); clear hgrow2 hnil2)
    | (at_builtin; refine wpList_append_bytes _ rfl (.tmp 21) (.tmp 22) 23 rfl w.heap.size 5 i0 Try.underlying23 hi hz0 hz1 hz2 _ (la ++ r4 m) lb rfl hown2 hB2 (by simp [r4]; omega) b2.size ?_; intro v3 w3 hown3 hgrow3 hnil3; have b3 := b2.trans (grown_ext hown2 hgrow3 b2.size); clear hgrow3 hnil3 hown1' hL1 hB2 hown2; have hA3 := (hA.keep b3 (Nat.le_refl _)).keep (ext_alloc w3 (.cells #[] 5)) (Nat.le_refl _); have hB3 := hB.keep b3 (Nat.le_refl _); have c0 := ext_alloc w3 (.cells #[] 5); have hown3' : (w3.alloc (.cells #[] 5)).ownsRow w3.heap.size 5 1 (.slice (some ⟨w3.heap.size, 0, none⟩) 0 0) ([] : List Nat).length (bl []) := World.ownsRow_lit w3 #[] 0 (Nat.le_refl _) (by unfold maxLen; omega) rfl)
    | (at_builtin; go_must (refine wpList_append_bytes _ rfl (.tmp 24) (.tmp 25) 23 rfl w3.heap.size 5 i0 Try.underlying23 hi hz0 hz1 hz2 _ [] la rfl hown3' hA3 (by simp; omega) c0.size ?_); intro v4 w4 hown4 hgrow4 hnil4; have c1 := c0.trans (grown_ext hown3' hgrow4 c0.size)))
  rw [List.nil_append] at hown4
  clear hown3' hgrow4 hnil4 hA3 c0
  have HB3 := Lib.hid b3
  have HO3 := Lib.hid (BytesAt.of_own hown3)
  clear b3 hown3
  refine (put8_any n _ HN.out).mono ?_
  rintro e w' ⟨rfl, rfl⟩
  have hown4' := hown4.alloc (.cells (row8 n) 5)
  have hL4 := BytesAt_lit w4 (r8 n) (row8 n) 8 (row8_bl n) rfl
  have c1' : Below w3.heap.size w3 (w4.alloc (.cells (row8 n) 5)) := c1.trans ((ext_alloc _ _).mono c1.size)
  clear hown4 c1
  go_wp2_with (first
    | (at_builtin; refine wpList_append_bytes _ rfl (.tmp 26) (.tmp 28) 23 rfl w3.heap.size 5 i0 Try.underlying23 hi hz0 hz1 hz2 _ la (r8 n) rfl hown4' hL4 (by simp [r8]; omega) c1'.size ?_; intro v5 w5 hown5 hgrow5 hnil5; have c2 := c1'.trans (grown_ext hown4' hgrow5 c1'.size); have hB5 := hB3.keep c2 (Nat.le_refl _); clear hgrow5 hnil5)
    | (at_builtin; go_must (refine wpList_append_bytes _ rfl (.tmp 29) (.tmp 30) 23 rfl w3.heap.size 5 i0 Try.underlying23 hi hz0 hz1 hz2 _ (la ++ r8 n) lb rfl hown5 hB5 (by simp [r8]; omega) c2.size ?_); intro v6 w6 hown6 hgrow6 hnil6; have c3 := c2.trans (grown_ext hown5 hgrow6 c2.size); clear hgrow6 hnil6))
  have hV3 := HO3.out.keep c3 (Nat.le_refl _)
  have hV6 := BytesAt.of_own hown6
  have C3 := Lib.hid c3
  clear hown6 c3 c2 c1' hB5 hB3 hown5 hown4' hL4
  have G4 := fun W => get4_mid v3 la lb m W
  have G8 := fun W => get8_mid v6 la lb n W
  have P4 := Lib.hid (G4 w6 hV3 hm4 h1 h2 (by simp [r4]; omega))
  have P8 := Lib.hid (G8 w6 hV6 HN.out h1 h2 (by simp [r8]; omega))
  clear G4 G8 hV3 hV6
  refine P4.out.mono ?_
  rintro e w' ⟨rfl, rfl⟩
  go_wp2_with fail
  refine P8.out.mono ?_
  rintro e w' ⟨rfl, rfl⟩
  have HM2 := wrap_eq n
  rw [← HM.out] at HM2
  go_wp2_with fail
  refine (awake2_any _).mono ?_
  rintro e w' ⟨rfl, hb⟩
  go_wp2
  go_ret
  exact ⟨rfl, ext_trans (ext_trans HB3.out C3.out) hb⟩
theorem walk (n : Int) (a1 : Option Addr) (len1 cap1 : Nat) (z1 : List Int) (a2 : Option Addr) (len2 cap2 : Nat) (z2 : List Int) (w : World) (b0 : 0 ≤ n ∧ n ≤ 18446744073709551615)
    (w1 : IsRow .u8 w a1 len1 cap1 z1) (s1 : cap1 * 1 ≤ 8388608) (w2 : IsRow .u8 w a2 len2 cap2 z2) (s2 : cap2 * 1 ≤ 8388608) :
    Calls Try.prog 9 #[.int .u64 n, .slice a1 len1 cap1, .slice a2 len2 cap2] w (Yes w) := by
  obtain ⟨m, rfl⟩ := Int.eq_ofNat_of_zero_le b0.1
  obtain ⟨hB1, he1, h1⟩ := w1.bytes
  obtain ⟨hB2, he2, h2⟩ := w2.bytes
  have l1 := w1.len_le
  have l2 := w2.len_le
  exact main m _ _ _ _ w (by omega) hB1 hB2 (by omega) (by omega) h1 h2

set_option maxRecDepth 100000 in
theorem lifted (os : Os) (started : os.Started) (H : Type) (enc : TypeId × Value → H) (F : Stop.Interp) :
    ReturnsInHanded {} Try.checked os 9 .any ((Rows.OpenSpec.upto Rows.fixedBackSpec).pre6 enc Try.prog Try.f9 Rows.fixedBackUptoRow.domain false) (((Rows.OpenSpec.upto Rows.fixedBackSpec).at F).post enc Try.prog Try.f9 false true false false) := by
  refine returnsInHanded_of_cond (C := Try.checked) (s := Rows.OpenSpec.upto Rows.fixedBackSpec) (k := Rows.uptoSmall) rfl own started (by kernel_rfl) Try.func9
    (OpenSpec.witness (enc := enc) (C := Try.checked) (s := Rows.OpenSpec.upto Rows.fixedBackSpec) (k := Rows.uptoSmall) rfl false ⟨#[], #[.int .u64 0, .slice none 0 0, .slice none 0 0], []⟩ 8 (by kernel_rfl) (by kernel_rfl) (by kernel_rfl)
      (x := ([.lit (.int .u64 0), .nil, .nil], [], [])) (by kernel_rfl) rfl (by kernel_rfl)) ?_
  intro W base args ds gs before hval0 hW hcnd hk _
  have hval : ∀ (j : Nat) t v, Try.f9.params[j]? = some t → args[j]? = some v → Value.okWide Try.prog W .any base t v := hval0
  have hW' := hW
  obtain ⟨p, q, hA0, hV, rfl, hfz, hnd⟩ := hW
  have hA : DataW.TrodAll enc Try.prog W 0 (fun _ => true) true Try.f9.params.toList args.toList ds p := hA0
  rw [Try.params9] at hA hval
  obtain ⟨v0, vs0, d0, ds0, p0, q0, hargs, rfl, rfl, h0, r0⟩ := trodAll_cons hA
  obtain ⟨v1, vs1, d1, ds1, p1, q1, rfl, rfl, rfl, h1, r1⟩ := trodAll_cons r0
  obtain ⟨v2, vs2, d2, ds2, p2, q2, rfl, rfl, rfl, h2, r2⟩ := trodAll_cons r1
  obtain ⟨rfl, rfl, rfl⟩ := trodAll_nil r2
  obtain rfl : args = #[v0, v1, v2] := by cases args; simp_all
  obtain ⟨rfl, rfl⟩ := trodVars_none hV
  have hb0 : Rows.uptoBulk d0 ≤ 1048576 := bulks.le hk (by simp)
  have hb1 : Rows.uptoBulk d1 ≤ 1048576 := bulks.le hk (by simp)
  have hb2 : Rows.uptoBulk d2 ≤ 1048576 := bulks.le hk (by simp)
  have k0 := h0
  have lt0 : ∀ x ∈ p0, x.block < W.heap.size := by obtain ⟨m, hm⟩ := k0; exact DataW.trod_lt m _ _ _ hm
  have k1 := h1
  have lt1 : ∀ x ∈ p1, x.block < W.heap.size := by obtain ⟨m, hm⟩ := k1; exact DataW.trod_lt m _ _ _ hm
  have k2 := h2
  have lt2 : ∀ x ∈ p2, x.block < W.heap.size := by obtain ⟨m, hm⟩ := k2; exact DataW.trod_lt m _ _ _ hm
  obtain ⟨a0, rfl, rfl, rfl, w0⟩ := open_int Try.underlying22 (hval 0 22 v0 rfl rfl) h0
  have b0 := wf_u64 w0
  obtain ⟨a1, len1, cap1, rfl⟩ := okWide_slice Try.underlying23 (hval 1 23 v1 rfl rfl)
  obtain ⟨z1, w1, s1⟩ : ∃ zs, IsRow .u8 W a1 len1 cap1 zs ∧ cap1 * 1 ≤ 8388608 := by
    obtain ⟨fuel, hf⟩ := h1
    rcases open_ints Try.underlying23 Try.underlying5 (by kernel_rfl) hf with ⟨hcs, _⟩ | ⟨x, l, c, zs, hcs, _, hl, hm, hz, hx, hcell, hwz⟩
    · simp [Value.cells] at hcs
      obtain ⟨rfl, rfl, rfl⟩ := hcs
      exact ⟨[], .inl ⟨rfl, rfl, rfl, rfl⟩, by omega⟩
    · simp [Value.cells] at hcs
      obtain ⟨rfl, rfl, rfl⟩ := hcs
      have hz' : zs.length = cap1 := by simpa using hz
      have hd : d1 = .slice (lits .u8 (zs.take len1)) (lits .u8 (zs.drop len1)) := congrArg Prod.fst hx
      have hroom := bulks.slice_len (x := lits .u8 (zs.take len1)) (y := lits .u8 (zs.drop len1)) (by rw [← hd]; exact hb1)
      simp only [lits, List.length_map, List.length_take, List.length_drop] at hroom
      exact ⟨zs, .inr ⟨_, rfl, hl, hm, hz', hcell, hwz⟩, by omega⟩
  obtain ⟨a2, len2, cap2, rfl⟩ := okWide_slice Try.underlying23 (hval 2 23 v2 rfl rfl)
  obtain ⟨z2, w2, s2⟩ : ∃ zs, IsRow .u8 W a2 len2 cap2 zs ∧ cap2 * 1 ≤ 8388608 := by
    obtain ⟨fuel, hf⟩ := h2
    rcases open_ints Try.underlying23 Try.underlying5 (by kernel_rfl) hf with ⟨hcs, _⟩ | ⟨x, l, c, zs, hcs, _, hl, hm, hz, hx, hcell, hwz⟩
    · simp [Value.cells] at hcs
      obtain ⟨rfl, rfl, rfl⟩ := hcs
      exact ⟨[], .inl ⟨rfl, rfl, rfl, rfl⟩, by omega⟩
    · simp [Value.cells] at hcs
      obtain ⟨rfl, rfl, rfl⟩ := hcs
      have hz' : zs.length = cap2 := by simpa using hz
      have hd : d2 = .slice (lits .u8 (zs.take len2)) (lits .u8 (zs.drop len2)) := congrArg Prod.fst hx
      have hroom := bulks.slice_len (x := lits .u8 (zs.take len2)) (y := lits .u8 (zs.drop len2)) (by rw [← hd]; exact hb2)
      simp only [lits, List.length_map, List.length_take, List.length_drop] at hroom
      exact ⟨zs, .inr ⟨_, rfl, hl, hm, hz', hcell, hwz⟩, by omega⟩
  clear hA0 hval0
  refine (walk a0 a1 len1 cap1 z1 a2 len2 cap2 z2 W b0 w1 s1 w2 s2).mono fun e W' ⟨he, bel⟩ => ?_
  subst he
  exact ⟨_, rfl, _, _, _, [], _, [], hW', trodAll_mk1 (shut_bool Try.underlying4 _), (trodAll_cons_mk (Below.trod laidOut (by kernel_rfl) (of_decide_eq_true (by kernel_rfl)) k0 bel lt0) (trodAll_cons_mk (Below.trod laidOut (by kernel_rfl) (of_decide_eq_true (by kernel_rfl)) k1 bel lt1) (trodAll_cons_mk (Below.trod laidOut (by kernel_rfl) (of_decide_eq_true (by kernel_rfl)) k2 bel lt2) trodAll_mk0))), rfl, bel.frame _, fun h => by cases h⟩

theorem over : Rows.fixedBackUptoRow.holds Try.pinned (Rows.OpenSpec.upto Rows.fixedBackSpec) :=
  OpenClaim.holds_of_cond 9 Try.f9 rfl rfl rfl rfl rfl rfl rfl ⟨rfl, rfl, rfl, rfl, rfl⟩ rfl rfl rfl rfl rfl (by kernel_rfl) Try.func9 (by kernel_rfl)
    (of_decide_eq_true (by kernel_rfl)) (by unfold Func.isWrapper; first | (rw [if_pos (by decide +kernel)]; kernel_rfl) | (rw [if_neg (by decide +kernel)]; exact ⟨rfl, rfl⟩))
    (fun os started H enc _ F => lifted os started H enc F)

theorem proved : Rows.FixedBackUptoSaid := over
end Go.Proofs.Ytnhphkiklfajnaa.fixedBack
