/-
  InboxOnce: FOR EVERY INPUT the law returns true and leaves its arguments as they were.
-/
import Derived.Test.YtaannopaipjcoaaIh
import Derived.Test.YtaannopaipjcoaaRows
import Derived.WalkKit
import Derived.ProofKit
import Derived.OpenShut
import Derived.ShutString
import Derived.ChangeOld
import Derived.Below
import Derived.SizedLaws
namespace Go.Proofs.Ytaannopaipjcoaa.inboxOnce
open Go.ChangeShapes Go.WideShapes Go.ChangeAt Go.RowKit
open Go.ChangeMaps (open_string shut_string)
set_option linter.unusedVariables false

theorem own : ownKnob Try.prog.godebug = none := by kernel_rfl
theorem laidOut : laidOutB Try.prog = true := by kernel_rfl

theorem not_found {t : Int} {l : List Int} (hs : Sorted l) (h : t ∉ l) : foundIn t l = false := by
  cases e : foundIn t l with
  | false => rfl
  | true => exact absurd ((foundIn_iff hs).1 e) h
theorem sorted_nodup {A M : List Int} {t : Int} (hs : Sorted (A ++ t :: M)) : t ∉ A ++ M := by
  intro hm
  obtain ⟨i, hi, he⟩ := List.getElem_of_mem hm
  have hg : (A ++ M).getD i 0 = t := by rw [List.getD_eq_getElem?_getD, List.getElem?_eq_getElem hi]; exact he
  have hi' : i < A.length + M.length := by simpa using hi
  by_cases h : i < A.length
  · have := hs i A.length h (by simp)
    rw [getD_append_left A _ i h, getD_append_right A _ _ (Nat.le_refl _), Nat.sub_self, List.getD_cons_zero] at this
    rw [getD_append_left A _ i h] at hg
    omega
  · have := hs A.length (i + 1) (by omega) (by simp; omega)
    rw [getD_append_right A _ _ (Nat.le_refl _), Nat.sub_self, List.getD_cons_zero, getD_append_right A _ (i + 1) (by omega), show i + 1 - A.length = (i - A.length) + 1 from by omega, List.getD_cons_succ] at this
    rw [getD_append_right A _ i (by omega)] at hg
    omega
theorem take_mid (A M R : List Int) (z : Int) (c : Nat) (h : (A ++ M).length = c) : (A ++ (M ++ z :: R)).take c = A ++ M := by
  rw [← List.append_assoc, List.take_append_of_le_length (by omega), List.take_of_length_le (by omega)]
theorem take_ins (A M R : List Int) (t : Int) (c : Nat) (h : (A ++ M).length = c) : (A ++ t :: (M ++ R)).take (c + 1) = A ++ t :: M := by
  rw [← List.cons_append, ← List.append_assoc, List.take_append_of_le_length (by simp at h ⊢; omega), List.take_of_length_le (by simp at h ⊢; omega)]

/-- An inbox in block g that rises and has n. -/
def Has (w : World) (g : Nat) (n : Int) : Prop := ∃ (xs : List Int) (c : Nat), Box w g xs c ∧ Sorted (xs.take c) ∧ n ∈ xs.take c
def Some2 (B g : Nat) (n : Int) (w : World) (e : Ending) (w' : World) : Prop := ∃ x y, e = .returned (.tuple #[.bool x, .int .i64 y]) ∧ Has w' g n ∧ Below B w w'
def Some1 (B g : Nat) (n : Int) (w : World) (e : Ending) (w' : World) : Prop := ∃ x, e = .returned (.bool x) ∧ Has w' g n ∧ Below B w w'
theorem box_len {w : World} {g c : Nat} {xs : List Int} (h : Box w g xs c) : (xs.take c).length = c := by rw [List.length_take, h.len]; have := h.le; omega

theorem come_some {B g : Nat} {n t : Int} (w : World) (hBg : B ≤ g) (h : Has w g n) (h0 : 1 ≤ t) (h1 : t ≤ 65535) :
    Calls Try.prog 30 #[.pointer (some ⟨g, 0, none⟩), .int .i64 t] w (Some2 B g n w) := by
  obtain ⟨xs, c, hb, hs, hn⟩ := h
  by_cases ht : t ∈ xs.take c
  · refine (come_there g c xs t w hb hs h0 h1 ((foundIn_iff hs).2 ht)).mono ?_
    rintro e w' ⟨k, rfl, rfl⟩
    exact ⟨_, _, rfl, ⟨xs, c, hb.drewN k, hs, hn⟩, below_drewN (Below.refl _ _) k⟩
  · by_cases hc : c < 16
    · refine (come_new B g c xs t w hBg hb hs hc h0 h1 (not_found hs ht)).mono ?_
      rintro e w' ⟨rfl, A, M, R, htk, hA, hb', hbl⟩
      have hl : (A ++ M).length = c := by rw [← htk]; exact box_len hb
      have hp := pos_of t _ hs
      rw [← hA, htk] at hp
      rw [htk] at hs ht hn
      refine ⟨_, _, rfl, ⟨_, _, hb', ?_, ?_⟩, hbl⟩
      · rw [take_ins A M R t c hl]; exact sorted_in hs hp ht
      · rw [take_ins A M R t c hl]
        rcases List.mem_append.1 hn with h | h
        · exact List.mem_append_left _ h
        · exact List.mem_append_right _ (List.mem_cons_of_mem _ h)
    · obtain rfl : c = 16 := by have := hb.le; omega
      refine (come_full g xs t w hb hs h0 h1 (not_found hs ht)).mono ?_
      rintro e w' ⟨k, rfl, rfl⟩
      exact ⟨_, _, rfl, ⟨xs, 16, hb.drewN k, hs, hn⟩, below_drewN (Below.refl _ _) k⟩
theorem done_some {B g : Nat} {n t : Int} (w : World) (hBg : B ≤ g) (h : Has w g n) (hne : t ≠ n) :
    Calls Try.prog 28 #[.pointer (some ⟨g, 0, none⟩), .int .i64 t] w (Some1 B g n w) := by
  obtain ⟨xs, c, hb, hs, hn⟩ := h
  by_cases ht : t ∈ xs.take c
  · refine (done_yes B g c xs t w hBg hb hs ((foundIn_iff hs).2 ht)).mono ?_
    rintro e w' ⟨rfl, A, M, R, z, htk, hb', hbl⟩
    have hl : (A ++ M).length = c - 1 := by
      have := box_len hb
      rw [htk] at this
      simp at this ⊢
      omega
    rw [htk] at hs hn
    refine ⟨_, rfl, ⟨_, _, hb', ?_, ?_⟩, hbl⟩
    · rw [take_mid A M R z _ hl]; exact sorted_out hs
    · rw [take_mid A M R z _ hl]
      rcases List.mem_append.1 hn with h | h
      · exact List.mem_append_left _ h
      · rcases List.mem_cons.1 h with h | h
        · exact absurd h.symm hne
        · exact List.mem_append_right _ h
  · refine (done_no g c xs t w hb hs (not_found hs ht)).mono ?_
    rintro e w' ⟨k, rfl, rfl⟩
    exact ⟨_, rfl, ⟨xs, c, hb.drewN k, hs, hn⟩, below_drewN (Below.refl _ _) k⟩
theorem come_again {B g : Nat} {n : Int} (w : World) (h : Has w g n) (h0 : 1 ≤ n) (h1 : n ≤ 65535) :
    Calls Try.prog 30 #[.pointer (some ⟨g, 0, none⟩), .int .i64 n] w fun e w' => e = .returned (.tuple #[.bool false, .int .i64 0]) ∧ Has w' g n ∧ Below B w w' := by
  obtain ⟨xs, c, hb, hs, hn⟩ := h
  refine (come_there g c xs n w hb hs h0 h1 ((foundIn_iff hs).2 hn)).mono ?_
  rintro e w' ⟨k, rfl, rfl⟩
  exact ⟨rfl, ⟨xs, c, hb.drewN k, hs, hn⟩, below_drewN (Below.refl _ _) k⟩
theorem len_has {g : Nat} {n : Int} (w : World) (h : Has w g n) :
    Calls Try.prog 33 #[.pointer (some ⟨g, 0, none⟩)] w fun e w' => ∃ c : Nat, c ≤ 16 ∧ e = .returned (.int .i64 c) ∧ w = w' := by
  obtain ⟨xs, c, hb, hs, hn⟩ := h
  exact (len_any g c xs w hb).mono fun _ _ ⟨he, hw⟩ => ⟨c, hb.le, he, hw⟩
/-- Behind its end: n is not there, and there is room. -/
def Gone (w : World) (g : Nat) (n : Int) : Prop := ∃ (xs : List Int) (c : Nat), Box w g xs c ∧ Sorted (xs.take c) ∧ n ∉ xs.take c ∧ c < 16
theorem done_first {B g : Nat} {n : Int} (w : World) (hBg : B ≤ g) (h : Has w g n) :
    Calls Try.prog 28 #[.pointer (some ⟨g, 0, none⟩), .int .i64 n] w fun e w' => e = .returned (.bool true) ∧ Gone w' g n ∧ Below B w w' := by
  obtain ⟨xs, c, hb, hs, hn⟩ := h
  refine (done_yes B g c xs n w hBg hb hs ((foundIn_iff hs).2 hn)).mono ?_
  rintro e w' ⟨rfl, A, M, R, z, htk, hb', hbl⟩
  have hl : (A ++ M).length + 1 = c := by
    have := box_len hb
    rw [htk] at this
    simp at this ⊢
    omega
  have hc := hb.le
  rw [htk] at hs
  refine ⟨rfl, ⟨_, _, hb', ?_, ?_, by omega⟩, hbl⟩
  · rw [take_mid A M R z _ (by omega)]; exact sorted_out hs
  · rw [take_mid A M R z _ (by omega)]; exact sorted_nodup hs
theorem done_second {B g : Nat} {n : Int} (w : World) (h : Gone w g n) :
    Calls Try.prog 28 #[.pointer (some ⟨g, 0, none⟩), .int .i64 n] w fun e w' => e = .returned (.bool false) ∧ Gone w' g n ∧ Below B w w' := by
  obtain ⟨xs, c, hb, hs, hn, hc⟩ := h
  refine (done_no g c xs n w hb hs (not_found hs hn)).mono ?_
  rintro e w' ⟨k, rfl, rfl⟩
  exact ⟨rfl, ⟨xs, c, hb.drewN k, hs, hn, hc⟩, below_drewN (Below.refl _ _) k⟩
theorem come_last {B g : Nat} {n : Int} (w : World) (hBg : B ≤ g) (h : Gone w g n) (h0 : 1 ≤ n) (h1 : n ≤ 65535) :
    Calls Try.prog 30 #[.pointer (some ⟨g, 0, none⟩), .int .i64 n] w fun e w' => e = .returned (.tuple #[.bool true, .int .i64 0]) ∧ Has w' g n ∧ Below B w w' := by
  obtain ⟨xs, c, hb, hs, hn, hc⟩ := h
  refine (come_new B g c xs n w hBg hb hs hc h0 h1 (not_found hs hn)).mono ?_
  rintro e w' ⟨rfl, A, M, R, htk, hA, hb', hbl⟩
  have hl : (A ++ M).length = c := by rw [← htk]; exact box_len hb
  have hp := pos_of n _ hs
  rw [← hA, htk] at hp
  rw [htk] at hs hn
  refine ⟨rfl, ⟨_, _, hb', ?_, ?_⟩, hbl⟩
  · rw [take_ins A M R n c hl]; exact sorted_in hs hp hn
  · rw [take_ins A M R n c hl]; simp

def OnceRel (B : Nat) (n : Int) (len : Nat) (w : World) (i : Value) (wr : World) : Prop :=
  ∃ k : Nat, k ≤ 40 ∧ k ≤ len ∧ i = .int .i64 k ∧ Has wr B n ∧ Below B w wr

set_option maxHeartbeats 4000000 in
set_option maxRecDepth 100000 in
theorem walk (f : Int) (a : Option Addr) (len cap : Nat) (z : List Int) (w : World) (b0 : 0 ≤ f ∧ f ≤ 65535) (h1 : IsRow .u16 w a len cap z) (s1 : cap * 2 ≤ 140737488351232) :
    Calls Try.prog 8 #[.int .u16 f, .slice a len cap] w (Yes w) := by
  obtain ⟨hl, hlc⟩ := h1.len_le
  have C1 := Lib.hid h1.cellAt
  clear h1
  have f0 : 0 ≤ f := b0.1
  have f1 : f ≤ 65535 := b0.2
  have r0 : 0 ≤ f % 65535 := by omega
  have r1 : f % 65535 ≤ 65534 := by omega
  clear b0
  go_enter Try.func8, Try.ntmps8
  go_wp2_with fail
  refine (new24_any w).mono ?_
  rintro e w1 ⟨rfl, hb1, b1⟩
  have HB1 := Lib.hid hb1
  clear hb1
  go_wp2_with fail
  obtain ⟨n, hn⟩ : ∃ n : Int, n = 1 + f % 65535 := ⟨_, rfl⟩
  have n0 : 1 ≤ n := by omega
  have n1 : n ≤ 65535 := by omega
  rw [← hn]
  clear hn r0 r1
  refine (come_last w1 (Nat.le_refl _) ⟨_, 0, HB1.out, sorted_nil, by simp, by omega⟩ n0 n1).mono ?_
  rintro e w2 ⟨rfl, hh, b2⟩
  have HH := Lib.hid hh
  clear hh
  go_wp2_with fail
  go_loopw [9] (fun i wr => OnceRel w.heap.size n len w i wr) (fun i _ => 40 - (intOf i).toNat)
  case atStart => exact ⟨0, by omega, by omega, rfl, HH.out, b1.trans b2⟩
  case round =>
    obtain ⟨k, hk, hkl, rfl, hh, hnx⟩ := hrel
    have HX := Lib.hid hh
    have HNX := Lib.hid hnx
    clear hh HH b1 b2 HB1
    by_cases hlt : k < len ∧ k < 40
    · obtain ⟨hlt1, hlt2⟩ := hlt
      have hc1 : ∃ b0 o, a = some ⟨b0, o, none⟩ ∧ wr.cell? ⟨b0, o + k, none⟩ = some (.int .u16 (z.getD k 0)) ∧ 0 ≤ z.getD k 0 ∧ z.getD k 0 ≤ 65535 := by
        rcases C1.out with h | ⟨b0, o, ha, hb, h⟩
        · omega
        · exact ⟨b0, o, ha, (hnx.cell (by simpa using hb)).trans (h k hlt1).1, wf_u16 (h k hlt1).2⟩
      obtain ⟨b1, o1, rfl, hcell, c0, c9⟩ := hc1
      obtain ⟨c, hc⟩ : ∃ c, c = z.getD k 0 := ⟨_, rfl⟩
      rw [← hc] at hcell c0 c9
      clear hc C1 hnx
      have d0 : 0 ≤ c % 65535 := by omega
      have d1 : c % 65535 ≤ 65534 := by omega
      by_cases heq : 1 + c % 65535 = n
      · have hb : (1 + c % 65535 == n) = true := beq_iff_eq.2 heq
        have HEQ := Lib.hid heq
        clear heq
        go_wp2_with fail
        go_roundw
        case rel => exact ⟨k + 1, by omega, by omega, by go_num, HX.out, HNX.out⟩
        case measure => simp [intOf]; omega
      · have hb : (1 + c % 65535 == n) = false := beq_eq_false_iff_ne.2 heq
        have HEQ := Lib.hid heq
        clear heq
        by_cases hm : (k : Int) % 3 = 2
        · have hm2 : ((k : Int) % 3 == 2) = true := beq_iff_eq.2 hm
          clear hm
          go_wp2_with fail
          refine (done_some wr (Nat.le_refl _) HX.out HEQ.out).mono ?_
          rintro e w3 ⟨x, rfl, hh, b3⟩
          go_wp2_with fail
          refine (come_again (B := w.heap.size) w3 hh n0 n1).mono ?_
          rintro e w4 ⟨rfl, hh4, b4⟩
          clear hh
          go_wp2_with fail
          refine (len_has w4 hh4).mono ?_
          rintro e w5 ⟨q, hq, rfl, rfl⟩
          go_wp2_with fail
          go_roundw
          case rel => exact ⟨k + 1, by omega, by omega, by go_num, hh4, HNX.out.trans (b3.trans b4)⟩
          case measure => simp [intOf]; omega
        · have hm2 : ((k : Int) % 3 == 2) = false := beq_eq_false_iff_ne.2 hm
          clear hm
          go_wp2_with fail
          refine (come_some wr (Nat.le_refl _) HX.out (by omega) (by omega)).mono ?_
          rintro e w3 ⟨x, y, rfl, hh, b3⟩
          go_wp2_with fail
          refine (come_again (B := w.heap.size) w3 hh n0 n1).mono ?_
          rintro e w4 ⟨rfl, hh4, b4⟩
          clear hh
          go_wp2_with fail
          refine (len_has w4 hh4).mono ?_
          rintro e w5 ⟨q, hq, rfl, rfl⟩
          go_wp2_with fail
          go_roundw
          case rel => exact ⟨k + 1, by omega, by omega, by go_num, hh4, HNX.out.trans (b3.trans b4)⟩
          case measure => simp [intOf]; omega
    · clear hnx
      by_cases c1 : k < len
      · have c2 : ¬ k < 40 := by omega
        clear hlt
        go_wp2_with fail
        refine (done_first wr (Nat.le_refl _) HX.out).mono ?_
        rintro e w3 ⟨rfl, hg3, b3⟩
        go_wp2_with fail
        refine (done_second (B := w.heap.size) w3 hg3).mono ?_
        rintro e w4 ⟨rfl, hg4, b4⟩
        clear hg3
        go_wp2_with fail
        refine (come_last w4 (Nat.le_refl _) hg4 n0 n1).mono ?_
        rintro e w5 ⟨rfl, hh5, b5⟩
        clear hg4 hh5
        go_wp2_with fail
        refine (awake24_any _).mono ?_
        rintro e w6 ⟨rfl, hb6⟩
        go_wp2
        go_ret
        exact ⟨rfl, ext_trans (HNX.out.trans (b3.trans (b4.trans b5))) hb6⟩
      · clear hlt
        go_wp2_with fail
        refine (done_first wr (Nat.le_refl _) HX.out).mono ?_
        rintro e w3 ⟨rfl, hg3, b3⟩
        go_wp2_with fail
        refine (done_second (B := w.heap.size) w3 hg3).mono ?_
        rintro e w4 ⟨rfl, hg4, b4⟩
        clear hg3
        go_wp2_with fail
        refine (come_last w4 (Nat.le_refl _) hg4 n0 n1).mono ?_
        rintro e w5 ⟨rfl, hh5, b5⟩
        clear hg4 hh5
        go_wp2_with fail
        refine (awake24_any _).mono ?_
        rintro e w6 ⟨rfl, hb6⟩
        go_wp2
        go_ret
        exact ⟨rfl, ext_trans (HNX.out.trans (b3.trans (b4.trans b5))) hb6⟩

set_option maxRecDepth 100000 in
theorem lifted (os : Os) (started : os.Started) (H : Type) (enc : TypeId × Value → H) :
    ReturnsInHanded {} Try.checked os 8 .any (Rows.inboxOnceSpec.pre6 enc Try.prog Try.f8 Rows.inboxOnceRow.domain false) (Rows.inboxOnceSpec.post enc Try.prog Try.f8 false true false false) := by
  refine returnsInHanded_of_change_sized (C := Try.checked) own started (by kernel_rfl) Try.func8
    (ChangeSpec.witness6 (enc := enc) (C := Try.checked) false ⟨#[], #[.int .u16 0, .slice none 0 0], []⟩ 8 (by kernel_rfl) (by kernel_rfl) (by kernel_rfl) (by kernel_rfl)) ?_
  intro W base args ds gs before hval0 hW hcnd hsz0 _
  have hsz : (DataW.weightsEach Try.prog (Try.f8.params.toList ++ Rows.inboxOnceSpec.plain.varTypes Try.prog) (ds ++ gs)).all (· ≤ reachBytes) = true := hsz0
  have hval : ∀ (j : Nat) t v, Try.f8.params[j]? = some t → args[j]? = some v → Value.okWide Try.prog W .any base t v := hval0
  have hW' := hW
  obtain ⟨p, q, hA0, hV, rfl, hfz, hnd⟩ := hW
  have hA : DataW.TrodAll enc Try.prog W 0 (fun _ => true) true Try.f8.params.toList args.toList ds p := hA0
  rw [Try.params8] at hA hval hsz
  obtain ⟨v0, vs0, d0, ds0, p0, q0, hargs, rfl, rfl, h0, r0⟩ := trodAll_cons hA
  obtain ⟨v1, vs1, d1, ds1, p1, q1, rfl, rfl, rfl, h1, r1⟩ := trodAll_cons r0
  obtain ⟨rfl, rfl, rfl⟩ := trodAll_nil r1
  obtain rfl : args = #[v0, v1] := by cases args; simp_all
  obtain ⟨rfl, rfl⟩ := trodVars_none hV
  have k0 := h0
  have lt0 : ∀ x ∈ p0, x.block < W.heap.size := by obtain ⟨m, hm⟩ := k0; exact DataW.trod_lt m _ _ _ hm
  have k1 := h1
  have lt1 : ∀ x ∈ p1, x.block < W.heap.size := by obtain ⟨m, hm⟩ := k1; exact DataW.trod_lt m _ _ _ hm
  obtain ⟨a0, rfl, rfl, rfl, w0⟩ := open_int Try.underlying57 (hval 0 57 v0 rfl rfl) h0
  have b0 := wf_u16 w0
  obtain ⟨a1, len1, cap1, rfl⟩ := okWide_slice Try.underlying58 (hval 1 58 v1 rfl rfl)
  obtain ⟨z1, w1, s1⟩ : ∃ zs, IsRow .u16 W a1 len1 cap1 zs ∧ cap1 * 2 ≤ 140737488351232 := by
    obtain ⟨fuel, hf⟩ := h1
    rcases open_ints Try.underlying58 Try.underlying57 (by kernel_rfl) hf with ⟨hcs, _⟩ | ⟨x, l, c, zs, hcs, _, hl, hm, hz, hx, hcell, hwz⟩
    · simp [Value.cells] at hcs
      obtain ⟨rfl, rfl, rfl⟩ := hcs
      exact ⟨[], .inl ⟨rfl, rfl, rfl, rfl⟩, by omega⟩
    · simp [Value.cells] at hcs
      obtain ⟨rfl, rfl, rfl⟩ := hcs
      have hz' : zs.length = cap1 := by simpa using hz
      have hd : d1 = .slice (lits .u16 (zs.take len1)) (lits .u16 (zs.drop len1)) := congrArg Prod.fst hx
      have hroom := sized_slice hsz (j := 1) (t := 58) (e := 57) rfl (by rw [hd]; rfl) Try.underlying58
      rw [show Try.prog.bytesOf 57 = 2 from by kernel_rfl] at hroom
      simp only [lits, List.length_map, List.length_take, List.length_drop, reachBytes] at hroom
      exact ⟨zs, .inr ⟨_, rfl, hl, hm, hz', hcell, hwz⟩, by omega⟩
  clear hA0 hval0 hsz0
  refine (walk a0 a1 len1 cap1 z1 W b0 w1 s1).mono fun e W' ⟨he, bel⟩ => ?_
  subst he
  exact ⟨_, rfl, _, _, _, [], _, [], hW', trodAll_mk1 (shut_bool Try.underlying4 _), (trodAll_cons_mk (Below.trod laidOut (by kernel_rfl) (of_decide_eq_true (by kernel_rfl)) k0 bel lt0) (trodAll_cons_mk (Below.trod laidOut (by kernel_rfl) (of_decide_eq_true (by kernel_rfl)) k1 bel lt1) trodAll_mk0)), rfl, bel.frame _, fun h => by cases h⟩

theorem over : Rows.inboxOnceRow.holds Try.pinned (OpenSpec.ofChange Rows.inboxOnceSpec) :=
  OpenClaim.holds_of_wide 8 Try.f8 rfl rfl rfl rfl rfl rfl rfl ⟨rfl, rfl, rfl, rfl, rfl⟩ rfl rfl rfl rfl rfl (by kernel_rfl) Try.func8 (by kernel_rfl)
    (of_decide_eq_true (by kernel_rfl)) (by unfold Func.isWrapper; first | (rw [if_pos (by decide +kernel)]; kernel_rfl) | (rw [if_neg (by decide +kernel)]; exact ⟨rfl, rfl⟩))
    (fun os started H enc _ => lifted os started H enc)

theorem proved : Rows.InboxOnceSaid := over
end Go.Proofs.Ytaannopaipjcoaa.inboxOnce
