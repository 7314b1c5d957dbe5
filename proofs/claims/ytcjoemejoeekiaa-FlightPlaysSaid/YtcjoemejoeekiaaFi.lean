/-
  LAYER 23: the document's Send, empty; do.
-/
import Derived.Test.YtcjoemejoeekiaaFh
namespace Go.Proofs.Ytcjoemejoeekiaa.Fli
open Go.RowKit Que Hp Ids
section
variable {A S : Nat → Prop} {w w' : World} {f g x : Nat} {T : List Bool} {L : List Se} {v : Value}
theorem xs_end {Wx w1 : World} {u : Value} (hx : Below w.heap.size w Wx) (hg : Wx.grownBy w1 none) : Far (fun k => k = x) w (w1.setCell ⟨x, 0, none⟩ u) :=
  ((Far.of_ext hx).trans (Far.of_grown (S := fun k => k = x) hg (fun k _ e => by cases e)) (fun k _ h => h)).trans (Far.of_grown (S := fun k => k = x) set_grownX (fun k _ e => by simpa using e.symm)) (fun k _ h => h)
set_option maxHeartbeats 8000000 in
set_option maxRecDepth 100000 in
theorem x_send (h : X0 w x) (t y : ByteArray) (q : Int) (r : Bool) : Calls Try.prog 48 #[.pointer (some ⟨x, 0, none⟩), .agg #[.string t, .string y, .int .i64 q, .bool r]] w fun e w' => ∃ a c, e = .returned (.tuple #[.int .i64 a, .int .i64 c]) ∧ Far (fun k => k = x) w w' := by
  obtain ⟨i3, hi3, hz0, hz1, hz2⟩ := info_parts info70
  have hb := ext_alloc w (.cells #[.string t, .string y, .int .i64 q, .bool r] 65)
  have hX := h.far (S := fun _ => False) (Far.of_ext hb) id
  have xlt := (Array.getElem?_eq_some_iff.1 h).1
  by_cases hq : q = 1 ∨ q = 2
  · have hrow : (w.alloc (.cells #[.string t, .string y, .int .i64 q, .bool r] 65)).heap[w.heap.size]? = some (.cells #[.string t, .string y, .int .i64 q, .bool r] 65 (0, 0)) := heap_alloc_new w _
    have FN := Lib.hid (x_find hX 1)
    have c0 : (w.alloc (.cells #[.string t, .string y, .int .i64 q, .bool r] 65)).cell? ⟨x, 0, none⟩ = some (.slice none 0 0) := cell_of_row _ x 0 _ 62 (0, 0) hX
    have f0 : (w.alloc (.cells #[.string t, .string y, .int .i64 q, .bool r] 65)).frozen? ⟨x, 0, none⟩ = false := frozen_of_row _ x 0 _ 62 hX
    have xlt1 : x < (w.alloc (.cells #[.string t, .string y, .int .i64 q, .bool r] 65)).heap.size := by simp; omega
    have b0 := cell_of_row _ w.heap.size 0 _ 65 (0, 0) hrow
    have b1 := cell_of_row _ w.heap.size 1 _ 65 (0, 0) hrow
    have b2 := cell_of_row _ w.heap.size 2 _ 65 (0, 0) hrow
    have b3 := cell_of_row _ w.heap.size 3 _ 65 (0, 0) hrow
    simp only [List.getElem?_toArray, List.getElem?_cons_zero, List.getElem?_cons_succ] at b0 b1 b2 b3
    have hb' := Lib.hid hb
    have KB : Hid (∀ W' : World, W'.ownsRow 0 70 6 (.slice none 0 0) 0 []) := Lib.hid fun W' => World.ownsRow_nil _ _ _ _
    clear h hX hb hrow
    rcases hq with rfl | rfl
    · go_enter Try.func48, Try.ntmps48
      go_wp2_with fail
      generalize w.alloc (.cells #[.string t, .string y, .int .i64 1, .bool r] 65) = W at *
      go_loopw [6] (fun iv wr => iv = .int .i64 1 ∧ W = wr) (fun iv _ => 0)
      case atStart => exact ⟨rfl, rfl⟩
      case round =>
        obtain ⟨rfl, rfl⟩ := hrel
        go_wp2_with fail
        refine FN.out.mono ?_
        rintro e w1 ⟨rfl, rfl⟩
        have KN : Hid (∀ W' : World, W'.heap[W.heap.size]? = some (.cells #[.int .i64 1, .int .i64 1, .string t, .string y, .int .i64 1, .bool r] 70 (0, 0)) → ∀ j u, (Se.cells ⟨1, 1, t, y, 1, r⟩)[j]? = some u → W'.cell? ((⟨W.heap.size, 0, none⟩ : Addr).add j) = some u) := Lib.hid (by
          intro W' hW' j u hj
          have := cell_of_row W' W.heap.size j _ 70 (0, 0) hW'
          rw [add_off', Nat.zero_add, this, ← hj]
          simp [Se.cells])
        go_wp2_with fail
        go_region_law (go_must (refine step_append_lies _ rfl (.tmp 35) (.tmp 40) 60 rfl 0 70 i3 zS 6 64 Try.underlying60 hi3 hz0 hz1 hz2 rfl (by decide) (.slice none 0 0) 0 [] rfl (KB.out _) ⟨W.heap.size, 0, none⟩ 1 1 (Se.cells ⟨1, 1, t, y, 1, r⟩) rfl rfl (KN.out _ (by first | exact heap_alloc_new W _ | exact heap_alloc_new W.drew _)) (by intro u hu; simp [Se.cells] at hu; rcases hu with rfl | rfl | rfl | rfl | rfl | rfl <;> rfl) (by decide) (by unfold maxLen; omega) (by omega) (by simp) (W.heap.size + 1) (by simp) ?_); intro gg cap w3 hown1 hgrow hat hlt1; have hc1 := (hgrow.cell_far ⟨x, 0, none⟩ (by simp; omega) (by simp [Value.ownBlock])); have hf1 := (hgrow.frozen_far ⟨x, 0, none⟩ (by simp; omega) (by simp [Value.ownBlock])); replace hat := Lib.hid hat; replace hgrow := Lib.hid hgrow; replace hown1 := Lib.hid hown1)
        all_goals go_wp2
        all_goals go_ret2
        all_goals exact ⟨_, _, rfl, xs_end (by first | exact ext_trans hb'.out (ext_trans (ext_alloc W _) (ext_drew _)) | exact ext_trans hb'.out (ext_alloc W _) | exact ext_trans hb'.out (ext_trans (ext_drew W) (ext_alloc W.drew _))) hgrow.out⟩
    · go_enter Try.func48, Try.ntmps48
      go_wp2_with fail
      generalize w.alloc (.cells #[.string t, .string y, .int .i64 2, .bool r] 65) = W at *
      go_loopw [6] (fun iv wr => iv = .int .i64 1 ∧ W = wr) (fun iv _ => 0)
      case atStart => exact ⟨rfl, rfl⟩
      case round =>
        obtain ⟨rfl, rfl⟩ := hrel
        go_wp2_with fail
        refine FN.out.mono ?_
        rintro e w1 ⟨rfl, rfl⟩
        have KN : Hid (∀ W' : World, W'.heap[W.heap.size]? = some (.cells #[.int .i64 1, .int .i64 2, .string t, .string y, .int .i64 2, .bool r] 70 (0, 0)) → ∀ j u, (Se.cells ⟨1, 2, t, y, 2, r⟩)[j]? = some u → W'.cell? ((⟨W.heap.size, 0, none⟩ : Addr).add j) = some u) := Lib.hid (by
          intro W' hW' j u hj
          have := cell_of_row W' W.heap.size j _ 70 (0, 0) hW'
          rw [add_off', Nat.zero_add, this, ← hj]
          simp [Se.cells])
        go_wp2_with fail
        go_region_law (go_must (refine step_append_lies _ rfl (.tmp 35) (.tmp 40) 60 rfl 0 70 i3 zS 6 64 Try.underlying60 hi3 hz0 hz1 hz2 rfl (by decide) (.slice none 0 0) 0 [] rfl (KB.out _) ⟨W.heap.size, 0, none⟩ 1 1 (Se.cells ⟨1, 2, t, y, 2, r⟩) rfl rfl (KN.out _ (by first | exact heap_alloc_new W _ | exact heap_alloc_new W.drew _)) (by intro u hu; simp [Se.cells] at hu; rcases hu with rfl | rfl | rfl | rfl | rfl | rfl <;> rfl) (by decide) (by unfold maxLen; omega) (by omega) (by simp) (W.heap.size + 1) (by simp) ?_); intro gg cap w3 hown1 hgrow hat hlt1; have hc1 := (hgrow.cell_far ⟨x, 0, none⟩ (by simp; omega) (by simp [Value.ownBlock])); have hf1 := (hgrow.frozen_far ⟨x, 0, none⟩ (by simp; omega) (by simp [Value.ownBlock])); replace hat := Lib.hid hat; replace hgrow := Lib.hid hgrow; replace hown1 := Lib.hid hown1)
        all_goals go_wp2
        all_goals go_ret2
        all_goals exact ⟨_, _, rfl, xs_end (by first | exact ext_trans hb'.out (ext_trans (ext_alloc W _) (ext_drew _)) | exact ext_trans hb'.out (ext_alloc W _) | exact ext_trans hb'.out (ext_trans (ext_drew W) (ext_alloc W.drew _))) hgrow.out⟩
  · have q1 : (q != 1) = true := by simp; exact fun e => hq (.inl e)
    have q2 : (q != 2) = true := by simp; exact fun e => hq (.inr e)
    have Z : Hid (Far (fun k => k = x) w (w.alloc (.cells #[.string t, .string y, .int .i64 q, .bool r] 65))) := Lib.hid (Far.of_ext hb)
    clear h hX hb hq
    go_enter Try.func48, Try.ntmps48
    go_wp2
    go_ret2
    exact ⟨_, _, rfl, Z.out⟩
def Dd (A : Nat → Prop) (w W : World) (f g : Nat) : Prop := ∃ T' L', Fs A W f g T' L' ∧ Kp A w W ∧ Inv L'
theorem Dd.ext (h : Dd A w w' f g) {W : World} (hb : Below w'.heap.size w' W) : Dd A w W f g := by
  obtain ⟨T', L', s, k, i⟩ := h
  exact ⟨T', L', s.ext hb, k.trans (Kp.of_ext hb), i⟩
def DoP (A0 : Nat → Prop) (w : World) (f g : Nat) (e : Ending) (w' : World) : Prop := ∃ b T' L', e = .returned (.bool b) ∧ Fs A0 w' f g T' L' ∧ Kp A0 w w' ∧ Inv L'
theorem dd_end {A0 : Nat → Prop} {w1 W : World} (hb : Below w.heap.size w w1) (hA : ∀ k, A0 k → A k) (h : Dd A w1 W f g) : ∃ T' L', Fs A0 W f g T' L' ∧ Kp A0 w W ∧ Inv L' := by
  obtain ⟨T', L', s, k, i⟩ := h
  exact ⟨T', L', s.weaken hA, (Kp.of_ext hb).trans (k.mono (fun j _ hj hA0 => hj (hA j hA0))), i⟩
set_option maxHeartbeats 16000000 in
set_option maxRecDepth 100000 in
theorem do_any {A0 : Nat → Prop} (h : Fs (fun k => A0 k ∨ k = x) w f g T L) (hi : Inv L) (hx : X0 w x) (hxn : ¬ A0 x) (K n : Int) (t y : ByteArray) (q : Int) (r : Bool) :
    Calls Try.prog 29 #[.pointer (some ⟨f, 0, none⟩), .pointer (some ⟨x, 0, none⟩), .agg #[.int .i64 K, .int .i64 n, .string t, .string y, .int .i64 q, .bool r]] w (DoP A0 w f g) := by
  have hb := ext_alloc w (.cells #[.int .i64 K, .int .i64 n, .string t, .string y, .int .i64 q, .bool r] 67)
  have hrow : (w.alloc (.cells #[.int .i64 K, .int .i64 n, .string t, .string y, .int .i64 q, .bool r] 67)).heap[w.heap.size]? = some (.cells #[.int .i64 K, .int .i64 n, .string t, .string y, .int .i64 q, .bool r] 67 (0, 0)) := heap_alloc_new w _
  have h1 : Fs (fun k => A0 k ∨ k = x ∨ k = w.heap.size) (w.alloc (.cells #[.int .i64 K, .int .i64 n, .string t, .string y, .int .i64 q, .bool r] 67)) f g T L := h.more hb (by
    rintro k (hk | hk | rfl)
    · exact .inl (.inl hk)
    · exact .inl (.inr hk)
    · exact .inr ⟨Nat.le_refl _, by simp⟩)
  have hX := hx.far (S := fun _ => False) (Far.of_ext hb) id
  have hlt1 : w.heap.size < (w.alloc (.cells #[.int .i64 K, .int .i64 n, .string t, .string y, .int .i64 q, .bool r] 67)).heap.size := by simp
  have b0 := cell_of_row _ w.heap.size 0 _ 67 (0, 0) hrow
  have b1 := cell_of_row _ w.heap.size 1 _ 67 (0, 0) hrow
  have b2 := cell_of_row _ w.heap.size 2 _ 67 (0, 0) hrow
  have b3 := cell_of_row _ w.heap.size 3 _ 67 (0, 0) hrow
  have b4 := cell_of_row _ w.heap.size 4 _ 67 (0, 0) hrow
  have b5 := cell_of_row _ w.heap.size 5 _ 67 (0, 0) hrow
  simp only [List.getElem?_toArray, List.getElem?_cons_zero, List.getElem?_cons_succ] at b0 b1 b2 b3 b4 b5
  have END := Lib.hid (fun W (d : Dd (fun k => A0 k ∨ k = x ∨ k = w.heap.size) (w.alloc (.cells #[.int .i64 K, .int .i64 n, .string t, .string y, .int .i64 q, .bool r] 67)) W f g) => dd_end (A0 := A0) (w := w) (ext_alloc w _) (fun k hk => .inl hk) d)
  have KB : Hid (∀ W, Kp (fun k => A0 k ∨ k = x ∨ k = w.heap.size) (w.alloc (.cells #[.int .i64 K, .int .i64 n, .string t, .string y, .int .i64 q, .bool r] 67)) W → X0 W x ∧ W.heap[w.heap.size]? = some (.cells #[.int .i64 K, .int .i64 n, .string t, .string y, .int .i64 q, .bool r] 67 (0, 0))) := Lib.hid fun W k => ⟨hX.far k (fun e => e (.inr (.inl rfl))), (k.block _ hlt1 (fun e => e (.inr (.inr rfl)))).trans hrow⟩
  replace h1 := Lib.hid h1
  replace hi := Lib.hid hi
  replace hlt1 := Lib.hid hlt1
  clear h hx hX hb hrow
  by_cases hK : K = 0 ∨ K = 1
  · have PS := Lib.hid (p_send h1.out hi.out t y q r)
    rcases hK with rfl | rfl
    all_goals
      go_enter Try.func29, Try.ntmps29
      go_wp2_with fail
      refine PS.out.mono ?_
      rintro e w2 ⟨a, c, T', L', rfl, s2, k2, i2⟩
      obtain ⟨x2, r2⟩ := KB.out w2 k2
      have c2 := cell_of_row _ w.heap.size 2 _ 67 (0, 0) r2
      have c3 := cell_of_row _ w.heap.size 3 _ 67 (0, 0) r2
      have c4 := cell_of_row _ w.heap.size 4 _ 67 (0, 0) r2
      have c5 := cell_of_row _ w.heap.size 5 _ 67 (0, 0) r2
      simp only [List.getElem?_toArray, List.getElem?_cons_zero, List.getElem?_cons_succ] at c2 c3 c4 c5
      have XS := Lib.hid (x_send x2 t y q r)
      have FIN : Hid (∀ w3, Far (fun k => k = x) w2 w3 → ∃ T' L', Fs A0 w3 f g T' L' ∧ Kp A0 w w3 ∧ Inv L') := Lib.hid fun w3 F => by
        have s3 := s2.far F (fun k e => .inr (.inl e))
        obtain ⟨T1, L1, z1, z2, z3⟩ := END.out w2 ⟨T', L', s2, k2, i2⟩
        exact ⟨T', L', s3.weaken (fun k hk => .inl hk), z2.trans (F.mono (fun k _ e hA => hxn (e ▸ hA))), i2⟩
      clear s2 k2 i2 x2 r2 PS KB END b0 b1 b2 b3 b4 b5
      go_wp2_with fail
      refine XS.out.mono ?_
      rintro e w3 ⟨a', c', rfl, F3⟩
      have Z := Lib.hid (FIN.out w3 F3)
      clear F3 XS FIN
      by_cases ha : a = a'
      · subst ha
        go_wp2_with fail
        go_ret
        obtain ⟨T1, L1, z1, z2, z3⟩ := Z.out
        exact ⟨_, T1, L1, rfl, z1, z2, z3⟩
      · have ha' : (a == a') = false := by simpa using ha
        clear ha
        go_wp2_with fail
        go_ret
        obtain ⟨T1, L1, z1, z2, z3⟩ := Z.out
        exact ⟨_, T1, L1, rfl, z1, z2, z3⟩
  · have k0 : (K == 0) = false := by simp; exact fun e => hK (.inl e)
    have k1 : (K == 1) = false := by simp; exact fun e => hK (.inr e)
    clear hK
    by_cases hK2 : K = 2
    · subst hK2
      have P1 : Hid (∀ W, Below (w.alloc (.cells #[.int .i64 2, .int .i64 n, .string t, .string y, .int .i64 q, .bool r] 67)).heap.size (w.alloc (.cells #[.int .i64 2, .int .i64 n, .string t, .string y, .int .i64 q, .bool r] 67)) W → Calls Try.prog 37 #[.pointer (some ⟨f, 0, none⟩), .int .i64 n] W fun e w' => ∃ b, e = .returned (.bool b) ∧ Dd (fun k => A0 k ∨ k = x ∨ k = w.heap.size) (w.alloc (.cells #[.int .i64 2, .int .i64 n, .string t, .string y, .int .i64 q, .bool r] 67)) w' f g) := Lib.hid fun W hW => (p_ack (h1.out.ext hW) hi.out n).mono fun e w' ⟨b, T', L', he, s, k, i⟩ => ⟨b, he, T', L', s, (Kp.of_ext hW).trans k, i⟩
      have P2 : Hid (∀ W, Dd (fun k => A0 k ∨ k = x ∨ k = w.heap.size) (w.alloc (.cells #[.int .i64 2, .int .i64 n, .string t, .string y, .int .i64 q, .bool r] 67)) W f g → Calls Try.prog 49 #[.pointer (some ⟨x, 0, none⟩), .int .i64 n] W fun e w' => e = .returned (.bool false) ∧ W = w') := Lib.hid fun W ⟨T', L', s, k, i⟩ => x_ack (KB.out W k).1 n
      have CC : Hid (∀ W, Kp (fun k => A0 k ∨ k = x ∨ k = w.heap.size) (w.alloc (.cells #[.int .i64 2, .int .i64 n, .string t, .string y, .int .i64 q, .bool r] 67)) W → W.cell? ⟨w.heap.size, 1, none⟩ = some (.int .i64 n)) := Lib.hid fun W k => by
        have := cell_of_row _ w.heap.size 1 _ 67 (0, 0) (KB.out W k).2
        simpa using this
      have CD : Hid (∀ W, Dd (fun k => A0 k ∨ k = x ∨ k = w.heap.size) (w.alloc (.cells #[.int .i64 2, .int .i64 n, .string t, .string y, .int .i64 q, .bool r] 67)) W f g → W.cell? ⟨w.heap.size, 1, none⟩ = some (.int .i64 n)) := Lib.hid fun W ⟨T', L', s, k, i⟩ => CC.out W k
      clear KB
      go_enter Try.func29, Try.ntmps29
      go_wp2_with fail
      go_region_held3 (fun W => W.cell? ⟨w.heap.size, 1, none⟩ = some (.int .i64 n))
        (first | exact CC.out _ (Far.refl _ _) | exact CC.out _ (Kp.of_ext (ext_drew _)) | exact CD.out _ I5 | exact CD.out _ (I5.ext (ext_drew _)))
        (first
          | (go_at_call 37; refine (P1.out _ (by first | exact Below.refl _ _ | exact ext_drew _)).mono ?_; rintro e w5 ⟨b5', rfl, I5⟩)
          | (go_at_call 49; refine (P2.out _ (by first | exact I5 | exact I5.ext (ext_drew _))).mono ?_; rintro e w6 ⟨rfl, rfl⟩))
      all_goals
        have Z := Lib.hid (END.out _ (by first | exact I5 | exact I5.ext (ext_drew _) | exact I5.ext (ext_trans (ext_drew _) (ext_drew _))))
        clear I5
        go_wp2_with fail
        go_ret
        obtain ⟨T1, L1, z1, z2, z3⟩ := Z.out
        exact ⟨_, T1, L1, rfl, z1, z2, z3⟩
    by_cases hK3 : K = 3
    · subst hK3
      have P1 : Hid (∀ W, Below (w.alloc (.cells #[.int .i64 3, .int .i64 n, .string t, .string y, .int .i64 q, .bool r] 67)).heap.size (w.alloc (.cells #[.int .i64 3, .int .i64 n, .string t, .string y, .int .i64 q, .bool r] 67)) W → Calls Try.prog 39 #[.pointer (some ⟨f, 0, none⟩), .int .i64 n] W fun e w' => ∃ b, e = .returned (.bool b) ∧ Dd (fun k => A0 k ∨ k = x ∨ k = w.heap.size) (w.alloc (.cells #[.int .i64 3, .int .i64 n, .string t, .string y, .int .i64 q, .bool r] 67)) w' f g) := Lib.hid fun W hW => (p_rec (h1.out.ext hW) hi.out n).mono fun e w' ⟨b, T', L', he, s, k, i⟩ => ⟨b, he, T', L', s, (Kp.of_ext hW).trans k, i⟩
      have P2 : Hid (∀ W, Dd (fun k => A0 k ∨ k = x ∨ k = w.heap.size) (w.alloc (.cells #[.int .i64 3, .int .i64 n, .string t, .string y, .int .i64 q, .bool r] 67)) W f g → Calls Try.prog 50 #[.pointer (some ⟨x, 0, none⟩), .int .i64 n] W fun e w' => e = .returned (.bool false) ∧ W = w') := Lib.hid fun W ⟨T', L', s, k, i⟩ => x_rec (KB.out W k).1 n
      have CC : Hid (∀ W, Kp (fun k => A0 k ∨ k = x ∨ k = w.heap.size) (w.alloc (.cells #[.int .i64 3, .int .i64 n, .string t, .string y, .int .i64 q, .bool r] 67)) W → W.cell? ⟨w.heap.size, 1, none⟩ = some (.int .i64 n)) := Lib.hid fun W k => by
        have := cell_of_row _ w.heap.size 1 _ 67 (0, 0) (KB.out W k).2
        simpa using this
      have CD : Hid (∀ W, Dd (fun k => A0 k ∨ k = x ∨ k = w.heap.size) (w.alloc (.cells #[.int .i64 3, .int .i64 n, .string t, .string y, .int .i64 q, .bool r] 67)) W f g → W.cell? ⟨w.heap.size, 1, none⟩ = some (.int .i64 n)) := Lib.hid fun W ⟨T', L', s, k, i⟩ => CC.out W k
      clear KB
      go_enter Try.func29, Try.ntmps29
      go_wp2_with fail
      go_region_held3 (fun W => W.cell? ⟨w.heap.size, 1, none⟩ = some (.int .i64 n))
        (first | exact CC.out _ (Far.refl _ _) | exact CC.out _ (Kp.of_ext (ext_drew _)) | exact CD.out _ I5 | exact CD.out _ (I5.ext (ext_drew _)))
        (first
          | (go_at_call 39; refine (P1.out _ (by first | exact Below.refl _ _ | exact ext_drew _)).mono ?_; rintro e w5 ⟨b5', rfl, I5⟩)
          | (go_at_call 50; refine (P2.out _ (by first | exact I5 | exact I5.ext (ext_drew _))).mono ?_; rintro e w6 ⟨rfl, rfl⟩))
      all_goals
        have Z := Lib.hid (END.out _ (by first | exact I5 | exact I5.ext (ext_drew _) | exact I5.ext (ext_trans (ext_drew _) (ext_drew _))))
        clear I5
        go_wp2_with fail
        go_ret
        obtain ⟨T1, L1, z1, z2, z3⟩ := Z.out
        exact ⟨_, T1, L1, rfl, z1, z2, z3⟩
    by_cases hK4 : K = 4
    · subst hK4
      have P1 : Hid (∀ W, Below (w.alloc (.cells #[.int .i64 4, .int .i64 n, .string t, .string y, .int .i64 q, .bool r] 67)).heap.size (w.alloc (.cells #[.int .i64 4, .int .i64 n, .string t, .string y, .int .i64 q, .bool r] 67)) W → Calls Try.prog 38 #[.pointer (some ⟨f, 0, none⟩), .int .i64 n] W fun e w' => ∃ b, e = .returned (.bool b) ∧ Dd (fun k => A0 k ∨ k = x ∨ k = w.heap.size) (w.alloc (.cells #[.int .i64 4, .int .i64 n, .string t, .string y, .int .i64 q, .bool r] 67)) w' f g) := Lib.hid fun W hW => (p_comp (h1.out.ext hW) hi.out n).mono fun e w' ⟨b, T', L', he, s, k, i⟩ => ⟨b, he, T', L', s, (Kp.of_ext hW).trans k, i⟩
      have P2 : Hid (∀ W, Dd (fun k => A0 k ∨ k = x ∨ k = w.heap.size) (w.alloc (.cells #[.int .i64 4, .int .i64 n, .string t, .string y, .int .i64 q, .bool r] 67)) W f g → Calls Try.prog 51 #[.pointer (some ⟨x, 0, none⟩), .int .i64 n] W fun e w' => e = .returned (.bool false) ∧ W = w') := Lib.hid fun W ⟨T', L', s, k, i⟩ => x_comp (KB.out W k).1 n
      have CC : Hid (∀ W, Kp (fun k => A0 k ∨ k = x ∨ k = w.heap.size) (w.alloc (.cells #[.int .i64 4, .int .i64 n, .string t, .string y, .int .i64 q, .bool r] 67)) W → W.cell? ⟨w.heap.size, 1, none⟩ = some (.int .i64 n)) := Lib.hid fun W k => by
        have := cell_of_row _ w.heap.size 1 _ 67 (0, 0) (KB.out W k).2
        simpa using this
      have CD : Hid (∀ W, Dd (fun k => A0 k ∨ k = x ∨ k = w.heap.size) (w.alloc (.cells #[.int .i64 4, .int .i64 n, .string t, .string y, .int .i64 q, .bool r] 67)) W f g → W.cell? ⟨w.heap.size, 1, none⟩ = some (.int .i64 n)) := Lib.hid fun W ⟨T', L', s, k, i⟩ => CC.out W k
      clear KB
      go_enter Try.func29, Try.ntmps29
      go_wp2_with fail
      go_region_held3 (fun W => W.cell? ⟨w.heap.size, 1, none⟩ = some (.int .i64 n))
        (first | exact CC.out _ (Far.refl _ _) | exact CC.out _ (Kp.of_ext (ext_drew _)) | exact CD.out _ I5 | exact CD.out _ (I5.ext (ext_drew _)))
        (first
          | (go_at_call 38; refine (P1.out _ (by first | exact Below.refl _ _ | exact ext_drew _)).mono ?_; rintro e w5 ⟨b5', rfl, I5⟩)
          | (go_at_call 51; refine (P2.out _ (by first | exact I5 | exact I5.ext (ext_drew _))).mono ?_; rintro e w6 ⟨rfl, rfl⟩))
      all_goals
        have Z := Lib.hid (END.out _ (by first | exact I5 | exact I5.ext (ext_drew _) | exact I5.ext (ext_trans (ext_drew _) (ext_drew _))))
        clear I5
        go_wp2_with fail
        go_ret
        obtain ⟨T1, L1, z1, z2, z3⟩ := Z.out
        exact ⟨_, T1, L1, rfl, z1, z2, z3⟩
    have k2 : (K == 2) = false := by simpa using hK2
    have k3 : (K == 3) = false := by simpa using hK3
    have k4 : (K == 4) = false := by simpa using hK4
    have Z := Lib.hid (END.out (w.alloc (.cells #[.int .i64 K, .int .i64 n, .string t, .string y, .int .i64 q, .bool r] 67)) ⟨T, L, h1.out, Far.refl _ _, hi.out⟩)
    clear KB END hK2 hK3 hK4
    go_enter Try.func29, Try.ntmps29
    go_wp2_with fail
    go_ret
    obtain ⟨T1, L1, z1, z2, z3⟩ := Z.out
    exact ⟨_, T1, L1, rfl, z1, z2, z3⟩
end
end Go.Proofs.Ytcjoemejoeekiaa.Fli
