/-
  LAYER 23: Ack, Comp, Rec, Len, New; awake.
-/
import Derived.Test.YtceiipcdkonnlaaGreatFf
namespace Go.Proofs.YtceiipcdkonnlaaGreat.Fli
set_option linter.unusedSimpArgs false
set_option linter.unusedVariables false
open Go.RowKit Que Hp Ids
theorem ack_call {f : Nat} {id : Int} {w : World} {b : Bool} {P : World → Prop} (h : Calls Tryz.prog 69 #[.pointer (some ⟨f, 0, none⟩), .int .i64 id, .func (.func 70) #[] #[]] w fun e w' => e = .returned (.bool b) ∧ P w') : Calls Tryz.prog 47 #[.pointer (some ⟨f, 0, none⟩), .int .i64 id] w fun e w' => e = .returned (.bool b) ∧ P w' := by
  replace h := Lib.hid h
  go_enter Tryz.func47, Tryz.ntmps47
  go_wp2_with fail
  refine h.out.mono ?_
  rintro e w1 ⟨rfl, p⟩
  have p1 := Lib.hid p
  clear p
  go_wp2
  go_ret
  exact ⟨rfl, p1.out⟩
theorem comp_call {f : Nat} {id : Int} {w : World} {b : Bool} {P : World → Prop} (h : Calls Tryz.prog 69 #[.pointer (some ⟨f, 0, none⟩), .int .i64 id, .func (.func 71) #[] #[]] w fun e w' => e = .returned (.bool b) ∧ P w') : Calls Tryz.prog 48 #[.pointer (some ⟨f, 0, none⟩), .int .i64 id] w fun e w' => e = .returned (.bool b) ∧ P w' := by
  replace h := Lib.hid h
  go_enter Tryz.func48, Tryz.ntmps48
  go_wp2_with fail
  refine h.out.mono ?_
  rintro e w1 ⟨rfl, p⟩
  have p1 := Lib.hid p
  clear p
  go_wp2
  go_ret
  exact ⟨rfl, p1.out⟩
theorem rec_call {f : Nat} {id : Int} {w : World} {b : Bool} {P : World → Prop} (h : Calls Tryz.prog 69 #[.pointer (some ⟨f, 0, none⟩), .int .i64 id, .func (.func 72) #[] #[]] w fun e w' => e = .returned (.bool b) ∧ P w') : Calls Tryz.prog 49 #[.pointer (some ⟨f, 0, none⟩), .int .i64 id] w fun e w' => e = .returned (.bool b) ∧ P w' := by
  replace h := Lib.hid h
  go_enter Tryz.func49, Tryz.ntmps49
  go_wp2_with fail
  refine h.out.mono ?_
  rintro e w1 ⟨rfl, p⟩
  have p1 := Lib.hid p
  clear p
  go_wp2
  go_ret
  exact ⟨rfl, p1.out⟩
section
variable {A : Nat → Prop} {w w' : World} {f g : Nat} {T : List Bool} {L : List Se}
theorem z_of (h : Fs A w f g T L) : ∀ w', Below w.heap.size w w' → Fs A w' f g T L ∧ Kp A w w' := fun w' b => ⟨h.ext b, Kp.of_ext b⟩
theorem ack_none' (h : Fs A w f g T L) (id : Int) (hn : ∀ e ∈ L, e.i ≠ id) : Calls Tryz.prog 47 #[.pointer (some ⟨f, 0, none⟩), .int .i64 id] w fun e w' => e = .returned (.bool false) ∧ Fs A w' f g T L ∧ Kp A w w' :=
  (ack_call (ack_none h id hn)).mono fun e w' ⟨he, b⟩ => ⟨he, z_of h _ b⟩
theorem ack_no' (h : Fs A w f g T L) {q : Nat} {e : Se} (hq : L[q]? = some e) (hok : (e.s == 1) = false) : Calls Tryz.prog 47 #[.pointer (some ⟨f, 0, none⟩), .int .i64 e.i] w fun x w' => x = .returned (.bool false) ∧ Fs A w' f g T L ∧ Kp A w w' :=
  (ack_call (ack_no h hq hok)).mono fun e w' ⟨he, b⟩ => ⟨he, z_of h _ b⟩
theorem ack_yes' (h : Fs A w f g T L) {q : Nat} {e : Se} (hq : L[q]? = some e) (hok : (e.s == 1) = true) : Calls Tryz.prog 47 #[.pointer (some ⟨f, 0, none⟩), .int .i64 e.i] w fun x w' => x = .returned (.bool true) ∧ ∃ T' L', L' = oth e.i L ∧ Fs A w' f g T' L' ∧ Kp A w w' :=
  (ack_call (ack_yes h hq hok)).mono fun x w' ⟨he, T', L', hL, z1, z2⟩ => ⟨he, T', L', hL, z1, z2⟩
theorem rec_none' (h : Fs A w f g T L) (id : Int) (hn : ∀ e ∈ L, e.i ≠ id) : Calls Tryz.prog 49 #[.pointer (some ⟨f, 0, none⟩), .int .i64 id] w fun e w' => e = .returned (.bool false) ∧ Fs A w' f g T L ∧ Kp A w w' :=
  (rec_call (rec_none h id hn)).mono fun e w' ⟨he, b⟩ => ⟨he, z_of h _ b⟩
theorem rec_no' (h : Fs A w f g T L) {q : Nat} {e : Se} (hq : L[q]? = some e) (hok : (e.s == 2 || e.s == 3) = false) : Calls Tryz.prog 49 #[.pointer (some ⟨f, 0, none⟩), .int .i64 e.i] w fun x w' => x = .returned (.bool false) ∧ Fs A w' f g T L ∧ Kp A w w' :=
  (rec_call (rec_no h hq hok)).mono fun e w' ⟨he, b⟩ => ⟨he, z_of h _ b⟩
theorem rec_yes' (h : Fs A w f g T L) {q : Nat} {e : Se} (hq : L[q]? = some e) (hok : (e.s == 2 || e.s == 3) = true) : Calls Tryz.prog 49 #[.pointer (some ⟨f, 0, none⟩), .int .i64 e.i] w fun x w' => x = .returned (.bool true) ∧ ∃ T' L', L' = L.set q { e with s := 3 } ∧ Fs A w' f g T' L' ∧ Kp A w w' :=
  (rec_call (rec_yes h hq hok)).mono fun x w' ⟨he, L', hL, z1, z2⟩ => ⟨he, T, L', hL, z1, z2⟩
theorem comp_none' (h : Fs A w f g T L) (id : Int) (hn : ∀ e ∈ L, e.i ≠ id) : Calls Tryz.prog 48 #[.pointer (some ⟨f, 0, none⟩), .int .i64 id] w fun e w' => e = .returned (.bool false) ∧ Fs A w' f g T L ∧ Kp A w w' :=
  (comp_call (comp_none h id hn)).mono fun e w' ⟨he, b⟩ => ⟨he, z_of h _ b⟩
theorem comp_no' (h : Fs A w f g T L) {q : Nat} {e : Se} (hq : L[q]? = some e) (hok : (e.s == 3) = false) : Calls Tryz.prog 48 #[.pointer (some ⟨f, 0, none⟩), .int .i64 e.i] w fun x w' => x = .returned (.bool false) ∧ Fs A w' f g T L ∧ Kp A w w' :=
  (comp_call (comp_no h hq hok)).mono fun e w' ⟨he, b⟩ => ⟨he, z_of h _ b⟩
theorem comp_yes' (h : Fs A w f g T L) {q : Nat} {e : Se} (hq : L[q]? = some e) (hok : (e.s == 3) = true) : Calls Tryz.prog 48 #[.pointer (some ⟨f, 0, none⟩), .int .i64 e.i] w fun x w' => x = .returned (.bool true) ∧ ∃ T' L', L' = oth e.i L ∧ Fs A w' f g T' L' ∧ Kp A w w' :=
  (comp_call (comp_yes h hq hok)).mono fun x w' ⟨he, T', L', hL, z1, z2⟩ => ⟨he, T', L', hL, z1, z2⟩
theorem f_len (h : Fs A w f g T L) : Calls Tryz.prog 62 #[.pointer (some ⟨f, 0, none⟩)] w fun e w' => e = .returned (.int .i64 (L.length : Nat)) ∧ w = w' := by
  obtain ⟨v, r, d, av⟩ := h.ex
  exact flen_any r
theorem f_new (w : World) : Calls Tryz.prog 11 #[] w fun e w' => ∃ f g, e = .returned (.pointer (some ⟨f, 0, none⟩)) ∧ Fs (fun k => k < w.heap.size) w' f g [] [] ∧ Below w.heap.size w w' := by
  have N := Lib.hid (new_ids 8 w (by omega) (by omega))
  go_enter Tryz.func11, Tryz.ntmps11
  go_wp2_with fail
  refine N.out.mono ?_
  rintro e w1 ⟨rfl, d1, b1⟩
  have D1 := Lib.hid d1
  replace b1 := Lib.hid b1
  clear d1 N
  go_wp2
  go_ret
  refine ⟨w1.heap.size, w.heap.size, rfl, ⟨⟨.slice none 0 0, ⟨heap_alloc_new w1 _, World.ownsRow_nil _ _ _ _⟩, ?_, fun k hk => ⟨by have := b1.out.size; simp; omega, by have := b1.out.size; omega, by simp [Value.ownBlock]⟩⟩, by simp, List.Pairwise.nil, rfl⟩, ?_⟩
  · refine Ds.others (S := fun _ => False) D1.out (Far.of_ext (ext_alloc w1 _)) (fun _ h => h.elim) ?_
    rintro k (hk | rfl | hk)
    · exact .inl hk
    · exact .inr ⟨Nat.le_refl _, by simp⟩
    · cases hk
  · exact b1.out.trans ((ext_alloc w1 _).mono b1.out.size)
end
/-- A flight that nobody made. -/
def No (w : World) (p : Value) : Prop := p = .pointer none ∨ ∃ z, p = .pointer (some ⟨z, 0, none⟩) ∧ w.cell? ⟨z, 0, none⟩ = some (.pointer none)
theorem No.keep {w w' : World} {p : Value} (h : No w p) (hb : Below w.heap.size w w') : No w' p := by
  rcases h with h | ⟨z, h1, h2⟩
  · exact .inl h
  · exact .inr ⟨z, h1, (hb.cell (World.block_lt_of_cell? w _ h2)).trans h2⟩
section
variable {w : World} {p : Value}
theorem none_0 (h : No w p) : Calls Tryz.prog 65 #[p] w fun e w' => e = .returned (.bool true) ∧ w = w' := by
  rcases h with rfl | ⟨z, rfl, h2⟩
  all_goals
    go_enter Tryz.func65, Tryz.ntmps65
    go_wp2
    go_ret
    exact ⟨rfl, rfl⟩
theorem send_0 (h : No w p) (t x : ByteArray) (q : Int) (r : Bool) : Calls Tryz.prog 64 #[p, .agg #[.string t, .string x, .int .i64 q, .bool r]] w fun e w' => e = .returned (.tuple #[.int .i64 0, .int .i64 8]) ∧ Below w.heap.size w w' := by
  have hb := ext_alloc w (.cells #[.string t, .string x, .int .i64 q, .bool r] 33)
  have N := Lib.hid (none_0 (h.keep hb))
  replace hb := Lib.hid hb
  clear h
  go_enter Tryz.func64, Tryz.ntmps64
  go_wp2_with fail
  refine N.out.mono ?_
  rintro e w1 ⟨rfl, rfl⟩
  go_wp2
  go_ret2
  exact ⟨rfl, hb.out⟩
theorem step_0 (h : No w p) (id : Int) (F : Value) : Calls Tryz.prog 69 #[p, .int .i64 id, F] w fun e w' => e = .returned (.bool false) ∧ Below w.heap.size w w' := by
  have hb := ext_alloc w (.cells #[.int .i64 id] 3)
  have N := Lib.hid (none_0 (h.keep hb))
  replace hb := Lib.hid hb
  clear h
  go_enter Tryz.func69, Tryz.ntmps69
  go_wp2_with fail
  refine N.out.mono ?_
  rintro e w1 ⟨rfl, rfl⟩
  go_wp2
  go_ret
  exact ⟨rfl, hb.out⟩
theorem ack_0 (h : No w p) (id : Int) : Calls Tryz.prog 47 #[p, .int .i64 id] w fun e w' => e = .returned (.bool false) ∧ Below w.heap.size w w' := by
  have N := Lib.hid (step_0 h id (.func (.func 70) #[] #[]))
  clear h
  go_enter Tryz.func47, Tryz.ntmps47
  go_wp2_with fail
  refine N.out.mono ?_
  rintro e w1 ⟨rfl, b1⟩
  replace b1 := Lib.hid b1
  go_wp2
  go_ret
  exact ⟨rfl, b1.out⟩
theorem comp_0 (h : No w p) (id : Int) : Calls Tryz.prog 48 #[p, .int .i64 id] w fun e w' => e = .returned (.bool false) ∧ Below w.heap.size w w' := by
  have N := Lib.hid (step_0 h id (.func (.func 71) #[] #[]))
  clear h
  go_enter Tryz.func48, Tryz.ntmps48
  go_wp2_with fail
  refine N.out.mono ?_
  rintro e w1 ⟨rfl, b1⟩
  replace b1 := Lib.hid b1
  go_wp2
  go_ret
  exact ⟨rfl, b1.out⟩
theorem rec_0 (h : No w p) (id : Int) : Calls Tryz.prog 49 #[p, .int .i64 id] w fun e w' => e = .returned (.bool false) ∧ Below w.heap.size w w' := by
  have N := Lib.hid (step_0 h id (.func (.func 72) #[] #[]))
  clear h
  go_enter Tryz.func49, Tryz.ntmps49
  go_wp2_with fail
  refine N.out.mono ?_
  rintro e w1 ⟨rfl, b1⟩
  replace b1 := Lib.hid b1
  go_wp2
  go_ret
  exact ⟨rfl, b1.out⟩
theorem all_0 (h : No w p) : Calls Tryz.prog 42 #[p] w fun e w' => e = .returned (.slice none 0 0) ∧ w = w' := by
  have N := Lib.hid (none_0 h)
  clear h
  go_enter Tryz.func42, Tryz.ntmps42
  go_wp2_with fail
  refine N.out.mono ?_
  rintro e w1 ⟨rfl, rfl⟩
  go_wp2
  go_ret
  exact ⟨rfl, rfl⟩
theorem again_0 (h : No w p) : Calls Tryz.prog 40 #[p] w fun e w' => e = .returned (.slice none 0 0) ∧ w = w' := by
  have N := Lib.hid (none_0 h)
  clear h
  go_enter Tryz.func40, Tryz.ntmps40
  go_wp2_with fail
  refine N.out.mono ?_
  rintro e w1 ⟨rfl, rfl⟩
  go_wp2
  go_ret
  exact ⟨rfl, rfl⟩
theorem len_0 (h : No w p) : Calls Tryz.prog 62 #[p] w fun e w' => e = .returned (.int .i64 0) ∧ w = w' := by
  have N := Lib.hid (none_0 h)
  clear h
  go_enter Tryz.func62, Tryz.ntmps62
  go_wp2_with fail
  refine N.out.mono ?_
  rintro e w1 ⟨rfl, rfl⟩
  go_wp2
  go_ret
  exact ⟨rfl, rfl⟩
end
end Go.Proofs.YtceiipcdkonnlaaGreat.Fli

/-
  LAYER 23: what any act does; All; the document's flight when it is empty.
-/
namespace Go.Proofs.YtceiipcdkonnlaaGreat.Fli
set_option linter.unusedSimpArgs false
set_option linter.unusedVariables false
open Go.RowKit Que Hp Ids
/-- Each waits for the answer of its own QoS. -/
def Inv (L : List Se) : Prop := ∀ e ∈ L, e.s = 1 ∧ e.q = 1 ∨ (e.s = 2 ∨ e.s = 3) ∧ e.q = 2
section
variable {A A' S : Nat → Prop} {w w' : World} {f g : Nat} {T : List Bool} {L : List Se} {v : Value}
theorem Fs.weaken (h : Fs A' w f g T L) (hA : ∀ k, A k → A' k) : Fs A w f g T L := by
  obtain ⟨v, r, d, av⟩ := h.ex
  exact ⟨⟨v, r, d.weaken (fun k hk => hk.imp (hA k) id), fun k hk => av k (hA k hk)⟩, h.ids, h.nd, h.tr⟩
theorem Fs.far (h : Fs A w f g T L) (F : Far S w w') (hS : ∀ k, S k → A k) : Fs A w' f g T L := by
  obtain ⟨v, r, d, av⟩ := h.ex
  exact ⟨⟨v, r.far F (fun e => (av f (hS f e)).2.1 rfl) (fun k hk e => (av k (hS k e)).2.2 hk), Ds.far d F (fun k hk => .inl (hS k hk)), fun k hk => ⟨Nat.lt_of_lt_of_le (av k hk).1 F.size, (av k hk).2⟩⟩, h.ids, h.nd, h.tr⟩
/-- New blocks are to be kept too. -/
theorem Fs.more (h : Fs A w f g T L) (hb : Below w.heap.size w w') (hA : ∀ k, A' k → A k ∨ w.heap.size ≤ k ∧ k < w'.heap.size) : Fs A' w' f g T L := by
  obtain ⟨v, r, d, av⟩ := h.ex
  refine ⟨⟨v, r.keep hb, Ds.others (S := fun _ => False) d (Far.of_ext hb) (fun _ h => h.elim) ?_, fun k hk => ?_⟩, h.ids, h.nd, h.tr⟩
  · rintro k (hk | hk)
    · exact (hA k hk).imp .inl id
    · exact .inl (.inr hk)
  · rcases hA k hk with e | ⟨e1, e2⟩
    · exact ⟨Nat.lt_of_lt_of_le (av k e).1 hb.size, (av k e).2⟩
    · have := r.lt
      exact ⟨e2, by omega, fun e => by have := (r.its.lt k e).2; omega⟩
theorem find_or (L : List Se) (id : Int) : (∀ e ∈ L, e.i ≠ id) ∨ ∃ (q : Nat) (e : Se), L[q]? = some e ∧ e.i = id := by
  by_cases h : ∃ e ∈ L, e.i = id
  · obtain ⟨e, he, hi⟩ := h
    obtain ⟨q, hq, rfl⟩ := List.getElem_of_mem he
    exact .inr ⟨q, _, List.getElem?_eq_getElem hq, hi⟩
  · exact .inl fun e he hi => h ⟨e, he, hi⟩
theorem p_send (h : Fs A w f g T L) (hi : Inv L) (t x : ByteArray) (q : Int) (r : Bool) : Calls Tryz.prog 64 #[.pointer (some ⟨f, 0, none⟩), .agg #[.string t, .string x, .int .i64 q, .bool r]] w fun e w' => ∃ a c T' L', e = .returned (.tuple #[.int .i64 a, .int .i64 c]) ∧ Fs A w' f g T' L' ∧ Kp A w w' ∧ Inv L' := by
  by_cases hq : q = 1 ∨ q = 2
  · by_cases hl : L.length < 8
    · refine (send_ok h t x q r hq hl).mono ?_
      rintro e w' ⟨rfl, s, k⟩
      refine ⟨_, _, _, _, rfl, s, k, fun y hy => ?_⟩
      rcases List.mem_append.1 hy with hy | hy
      · exact hi y hy
      · rw [List.mem_singleton.1 hy]
        rcases hq with rfl | rfl
        · exact .inl ⟨rfl, rfl⟩
        · exact .inr ⟨.inl rfl, rfl⟩
    · refine (send_full h t x q r hq (by have := h.le; omega)).mono ?_
      rintro e w' ⟨rfl, s, k⟩
      exact ⟨_, _, _, _, rfl, s, k, hi⟩
  · refine (send_flags h t x q r ⟨fun e => hq (.inl e), fun e => hq (.inr e)⟩).mono ?_
    rintro e w' ⟨rfl, s, k⟩
    exact ⟨_, _, _, _, rfl, s, k, hi⟩
theorem p_ack (h : Fs A w f g T L) (hi : Inv L) (id : Int) : Calls Tryz.prog 47 #[.pointer (some ⟨f, 0, none⟩), .int .i64 id] w fun e w' => ∃ b T' L', e = .returned (.bool b) ∧ Fs A w' f g T' L' ∧ Kp A w w' ∧ Inv L' := by
  rcases find_or L id with hn | ⟨q, e, hq, rfl⟩
  · refine (ack_none' h id hn).mono ?_
    rintro x w' ⟨rfl, s, k⟩
    exact ⟨_, _, _, rfl, s, k, hi⟩
  · cases hok : (e.s == 1)
    · refine (ack_no' h hq hok).mono ?_
      rintro x w' ⟨rfl, s, k⟩
      exact ⟨_, _, _, rfl, s, k, hi⟩
    · refine (ack_yes' h hq hok).mono ?_
      rintro x w' ⟨rfl, T', L', rfl, s, k⟩
      exact ⟨_, _, _, rfl, s, k, fun y hy => hi y (List.mem_filter.1 hy).1⟩
theorem p_rec (h : Fs A w f g T L) (hi : Inv L) (id : Int) : Calls Tryz.prog 49 #[.pointer (some ⟨f, 0, none⟩), .int .i64 id] w fun e w' => ∃ b T' L', e = .returned (.bool b) ∧ Fs A w' f g T' L' ∧ Kp A w w' ∧ Inv L' := by
  rcases find_or L id with hn | ⟨q, e, hq, rfl⟩
  · refine (rec_none' h id hn).mono ?_
    rintro x w' ⟨rfl, s, k⟩
    exact ⟨_, _, _, rfl, s, k, hi⟩
  · cases hok : (e.s == 2 || e.s == 3)
    · refine (rec_no' h hq hok).mono ?_
      rintro x w' ⟨rfl, s, k⟩
      exact ⟨_, _, _, rfl, s, k, hi⟩
    · refine (rec_yes' h hq hok).mono ?_
      rintro x w' ⟨rfl, T', L', rfl, s, k⟩
      exact ⟨_, _, _, rfl, s, k, fun y hy => by
        rcases List.mem_or_eq_of_mem_set hy with hy | rfl
        · exact hi y hy
        · refine .inr ⟨.inr rfl, ?_⟩
          rcases hi e (List.mem_of_getElem? hq) with ⟨h1, -⟩ | ⟨-, h2⟩
          · rw [h1] at hok; simp at hok
          · exact h2⟩
theorem p_comp (h : Fs A w f g T L) (hi : Inv L) (id : Int) : Calls Tryz.prog 48 #[.pointer (some ⟨f, 0, none⟩), .int .i64 id] w fun e w' => ∃ b T' L', e = .returned (.bool b) ∧ Fs A w' f g T' L' ∧ Kp A w w' ∧ Inv L' := by
  rcases find_or L id with hn | ⟨q, e, hq, rfl⟩
  · refine (comp_none' h id hn).mono ?_
    rintro x w' ⟨rfl, s, k⟩
    exact ⟨_, _, _, rfl, s, k, hi⟩
  · cases hok : (e.s == 3)
    · refine (comp_no' h hq hok).mono ?_
      rintro x w' ⟨rfl, s, k⟩
      exact ⟨_, _, _, rfl, s, k, hi⟩
    · refine (comp_yes' h hq hok).mono ?_
      rintro x w' ⟨rfl, T', L', rfl, s, k⟩
      exact ⟨_, _, _, rfl, s, k, fun y hy => hi y (List.mem_filter.1 hy).1⟩
theorem info70 : (Tryz.prog.info? 89).map (fun i => (i.zero, i.size, i.bytes)) = some (some zS, 6, 64) := by kernel_rfl
def AllF (L : List Se) (w : World) (e : Ending) (w' : World) : Prop := ∃ v, e = .returned v ∧ w'.ownsRow w.heap.size 89 6 v L.length (seC L) ∧ Below w.heap.size w w'
set_option maxHeartbeats 8000000 in
set_option maxRecDepth 100000 in
theorem all_any (h : Fw 0 w f g v L) (hL : L.length ≤ 8) : Calls Tryz.prog 42 #[.pointer (some ⟨f, 0, none⟩)] w (AllF L w) := by
  obtain ⟨i3, hi3, hz0, hz1, hz2⟩ := info_parts info70
  have N := Lib.hid (none_any h)
  have c1 := h.c1
  have flt := h.lt
  obtain ⟨a, c, rfl⟩ := own_slice h.its
  have hL' : (L.length : Int) ≤ 8 := by omega
  replace h := Lib.hid h
  go_enter Tryz.func42, Tryz.ntmps42
  go_wp2_with fail
  refine N.out.mono ?_
  rintro e w1 ⟨rfl, rfl⟩
  go_wp2_with fail
  go_loopw [3, 14] (fun v iv wr => ∃ k : Nat, iv = .int .i64 (k : Int) ∧ k ≤ L.length ∧ wr.ownsRow w.heap.size 89 6 v (L.take k).length (seC (L.take k)) ∧ Below w.heap.size w wr) (fun _ iv _ => L.length - (intOf iv).toNat)
  case atStart => exact ⟨0, rfl, by omega, World.ownsRow_nil _ _ _ _, Below.refl _ _⟩
  case round =>
    obtain ⟨k, rfl, hk, o, hb⟩ := hrel
    have HB := Lib.hid hb
    have hll : (L.take k).length ≤ 8 := by rw [List.length_take]; omega
    obtain ⟨M, hM⟩ : ∃ M, M = L.take k := ⟨_, rfl⟩
    rw [← hM] at o hll
    obtain ⟨va, vc, rfl⟩ := own_slice o
    by_cases hlt : k < L.length
    · have hlt' : (k : Int) < (L.length : Int) := by omega
      obtain ⟨e, he⟩ : ∃ e, L[k]? = some e := ⟨_, List.getElem?_eq_getElem hlt⟩
      obtain ⟨gb, cb, hv⟩ := own_slice' h.out.its (by omega)
      obtain ⟨q0, q1, q2, q3, q4, q5⟩ := (h.out.keep hb).at hv he
      simp only [Value.slice.injEq] at hv
      obtain ⟨rfl, -, rfl⟩ := hv
      have sz := hb.size
      have E : L.take (k + 1) = M ++ [e] := by
        obtain ⟨h1, h2⟩ := List.getElem?_eq_some_iff.1 he
        rw [List.take_succ_eq_append_getElem h1, h2, hM]
      have hba := ext_alloc wr (.cells #[.int .i64 e.i, .int .i64 e.s, .string e.t, .string e.x, .int .i64 e.q, .bool e.r] 118)
      have oA := Lib.hid (own_keep (own_keep o hba) (ext_alloc (wr.alloc (.cells #[.int .i64 e.i, .int .i64 e.s, .string e.t, .string e.x, .int .i64 e.q, .bool e.r] 118)) (.cells #[.int .i64 e.i, .int .i64 e.s, .string e.t, .string e.x, .int .i64 e.q, .bool e.r] 89)))
      have sz2 : w.heap.size ≤ (wr.alloc (.cells #[.int .i64 e.i, .int .i64 e.s, .string e.t, .string e.x, .int .i64 e.q, .bool e.r] 118)).heap.size := Nat.le_trans sz hba.size
      have hnew : Hid (∀ j u, e.cells[j]? = some u → ((wr.alloc (.cells #[.int .i64 e.i, .int .i64 e.s, .string e.t, .string e.x, .int .i64 e.q, .bool e.r] 118)).alloc (.cells #[.int .i64 e.i, .int .i64 e.s, .string e.t, .string e.x, .int .i64 e.q, .bool e.r] 89)).cell? ((⟨wr.heap.size + 1, 0, none⟩ : Addr).add j) = some u) := Lib.hid (by
        intro j u hj
        have h2 := heap_alloc_new (wr.alloc (.cells #[.int .i64 e.i, .int .i64 e.s, .string e.t, .string e.x, .int .i64 e.q, .bool e.r] 118)) (.cells #[.int .i64 e.i, .int .i64 e.s, .string e.t, .string e.x, .int .i64 e.q, .bool e.r] 89)
        rw [World.size_alloc] at h2
        have := cell_of_row ((wr.alloc (.cells #[.int .i64 e.i, .int .i64 e.s, .string e.t, .string e.x, .int .i64 e.q, .bool e.r] 118)).alloc (.cells #[.int .i64 e.i, .int .i64 e.s, .string e.t, .string e.x, .int .i64 e.q, .bool e.r] 89)) (wr.heap.size + 1) j _ 89 (0, 0) h2
        rw [add_off', Nat.zero_add, this, ← hj]
        simp [Se.cells])
      have B2 := Lib.hid hba
      replace E := Lib.hid E
      replace hM := Lib.hid hM
      have sz3 := Lib.hid sz2
      clear hb he hba o sz2
      go_wp2_with (first
        | (at_builtin; go_must (refine wpList_append_own _ rfl (.tmp 18) (.tmp 20) 55 rfl w.heap.size 89 i3 zS 6 64 Tryz.underlying55 hi3 hz0 hz1 hz2 rfl (by decide) (.slice va M.length vc) M.length (seC M) rfl oA.out ⟨wr.heap.size + 1, 0, none⟩ 1 1 e.cells rfl rfl hnew.out (by intro u hu; simp [Se.cells] at hu; rcases hu with rfl | rfl | rfl | rfl | rfl | rfl <;> rfl) (by unfold maxLen; omega) (by omega) (by simp; omega) ?_); intro v3 w3 o3 g3 _))
      go_roundw
      case rel => exact ⟨k + 1, by simp, by omega, by rw [E.out, seC_snoc]; simpa using o3, (((HB.out.trans (B2.out.mono sz)).alloc sz3.out _).grown g3 (by simp; omega) (fun j hj => (oA.out.lt j hj).1))⟩
      case measure => simp [intOf]; omega
    · obtain rfl : k = L.length := by omega
      rw [List.take_length] at hM
      subst hM
      have o' := Lib.hid o
      clear hb hk o
      go_wp2_with fail
      go_ret
      exact ⟨_, rfl, o'.out, HB.out⟩
theorem f_all (h : Fs A w f g T L) : Calls Tryz.prog 42 #[.pointer (some ⟨f, 0, none⟩)] w (AllF L w) := by
  obtain ⟨v, r, d, av⟩ := h.ex
  exact all_any r h.le
end
end Go.Proofs.YtceiipcdkonnlaaGreat.Fli
