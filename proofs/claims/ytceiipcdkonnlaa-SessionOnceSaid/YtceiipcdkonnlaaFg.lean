/-
  LAYER 23: Ack, Comp, Rec, Len, New; awake.
-/
import Derived.Test.YtceiipcdkonnlaaFf
namespace Go.Proofs.Ytceiipcdkonnlaa.Fli
set_option linter.unusedSimpArgs false
set_option linter.unusedVariables false
open Go.RowKit Que Hp Ids
theorem ack_call {f : Nat} {id : Int} {w : World} {b : Bool} {P : World → Prop} (h : Calls Try.prog 61 #[.pointer (some ⟨f, 0, none⟩), .int .i64 id, .func (.func 62) #[] #[]] w fun e w' => e = .returned (.bool b) ∧ P w') : Calls Try.prog 43 #[.pointer (some ⟨f, 0, none⟩), .int .i64 id] w fun e w' => e = .returned (.bool b) ∧ P w' := by
  replace h := Lib.hid h
  go_enter Try.func43, Try.ntmps43
  go_wp2_with fail
  refine h.out.mono ?_
  rintro e w1 ⟨rfl, p⟩
  have p1 := Lib.hid p
  clear p
  go_wp2
  go_ret
  exact ⟨rfl, p1.out⟩
theorem comp_call {f : Nat} {id : Int} {w : World} {b : Bool} {P : World → Prop} (h : Calls Try.prog 61 #[.pointer (some ⟨f, 0, none⟩), .int .i64 id, .func (.func 63) #[] #[]] w fun e w' => e = .returned (.bool b) ∧ P w') : Calls Try.prog 44 #[.pointer (some ⟨f, 0, none⟩), .int .i64 id] w fun e w' => e = .returned (.bool b) ∧ P w' := by
  replace h := Lib.hid h
  go_enter Try.func44, Try.ntmps44
  go_wp2_with fail
  refine h.out.mono ?_
  rintro e w1 ⟨rfl, p⟩
  have p1 := Lib.hid p
  clear p
  go_wp2
  go_ret
  exact ⟨rfl, p1.out⟩
theorem rec_call {f : Nat} {id : Int} {w : World} {b : Bool} {P : World → Prop} (h : Calls Try.prog 61 #[.pointer (some ⟨f, 0, none⟩), .int .i64 id, .func (.func 64) #[] #[]] w fun e w' => e = .returned (.bool b) ∧ P w') : Calls Try.prog 45 #[.pointer (some ⟨f, 0, none⟩), .int .i64 id] w fun e w' => e = .returned (.bool b) ∧ P w' := by
  replace h := Lib.hid h
  go_enter Try.func45, Try.ntmps45
  go_wp2_with fail
  refine h.out.mono ?_
  rintro e w1 ⟨rfl, p⟩
  have p1 := Lib.hid p
  clear p
  go_wp2
  go_ret
  exact ⟨rfl, p1.out⟩
section
variable {A : Nat → Prop} {w w' : World} {f g : Nat} {T : List Bool} {L : List Se}
theorem z_of (h : Fs A w f g T L) : ∀ w', Below w.heap.size w w' → Fs A w' f g T L ∧ Kp A w w' := fun w' b => ⟨h.ext b, Kp.of_ext b⟩
theorem ack_none' (h : Fs A w f g T L) (id : Int) (hn : ∀ e ∈ L, e.i ≠ id) : Calls Try.prog 43 #[.pointer (some ⟨f, 0, none⟩), .int .i64 id] w fun e w' => e = .returned (.bool false) ∧ Fs A w' f g T L ∧ Kp A w w' :=
  (ack_call (ack_none h id hn)).mono fun e w' ⟨he, b⟩ => ⟨he, z_of h _ b⟩
theorem ack_no' (h : Fs A w f g T L) {q : Nat} {e : Se} (hq : L[q]? = some e) (hok : (e.s == 1) = false) : Calls Try.prog 43 #[.pointer (some ⟨f, 0, none⟩), .int .i64 e.i] w fun x w' => x = .returned (.bool false) ∧ Fs A w' f g T L ∧ Kp A w w' :=
  (ack_call (ack_no h hq hok)).mono fun e w' ⟨he, b⟩ => ⟨he, z_of h _ b⟩
theorem ack_yes' (h : Fs A w f g T L) {q : Nat} {e : Se} (hq : L[q]? = some e) (hok : (e.s == 1) = true) : Calls Try.prog 43 #[.pointer (some ⟨f, 0, none⟩), .int .i64 e.i] w fun x w' => x = .returned (.bool true) ∧ ∃ T' L', L' = oth e.i L ∧ Fs A w' f g T' L' ∧ Kp A w w' :=
  (ack_call (ack_yes h hq hok)).mono fun x w' ⟨he, T', L', hL, z1, z2⟩ => ⟨he, T', L', hL, z1, z2⟩
theorem rec_none' (h : Fs A w f g T L) (id : Int) (hn : ∀ e ∈ L, e.i ≠ id) : Calls Try.prog 45 #[.pointer (some ⟨f, 0, none⟩), .int .i64 id] w fun e w' => e = .returned (.bool false) ∧ Fs A w' f g T L ∧ Kp A w w' :=
  (rec_call (rec_none h id hn)).mono fun e w' ⟨he, b⟩ => ⟨he, z_of h _ b⟩
theorem rec_no' (h : Fs A w f g T L) {q : Nat} {e : Se} (hq : L[q]? = some e) (hok : (e.s == 2 || e.s == 3) = false) : Calls Try.prog 45 #[.pointer (some ⟨f, 0, none⟩), .int .i64 e.i] w fun x w' => x = .returned (.bool false) ∧ Fs A w' f g T L ∧ Kp A w w' :=
  (rec_call (rec_no h hq hok)).mono fun e w' ⟨he, b⟩ => ⟨he, z_of h _ b⟩
theorem rec_yes' (h : Fs A w f g T L) {q : Nat} {e : Se} (hq : L[q]? = some e) (hok : (e.s == 2 || e.s == 3) = true) : Calls Try.prog 45 #[.pointer (some ⟨f, 0, none⟩), .int .i64 e.i] w fun x w' => x = .returned (.bool true) ∧ ∃ T' L', L' = L.set q { e with s := 3 } ∧ Fs A w' f g T' L' ∧ Kp A w w' :=
  (rec_call (rec_yes h hq hok)).mono fun x w' ⟨he, L', hL, z1, z2⟩ => ⟨he, T, L', hL, z1, z2⟩
theorem comp_none' (h : Fs A w f g T L) (id : Int) (hn : ∀ e ∈ L, e.i ≠ id) : Calls Try.prog 44 #[.pointer (some ⟨f, 0, none⟩), .int .i64 id] w fun e w' => e = .returned (.bool false) ∧ Fs A w' f g T L ∧ Kp A w w' :=
  (comp_call (comp_none h id hn)).mono fun e w' ⟨he, b⟩ => ⟨he, z_of h _ b⟩
theorem comp_no' (h : Fs A w f g T L) {q : Nat} {e : Se} (hq : L[q]? = some e) (hok : (e.s == 3) = false) : Calls Try.prog 44 #[.pointer (some ⟨f, 0, none⟩), .int .i64 e.i] w fun x w' => x = .returned (.bool false) ∧ Fs A w' f g T L ∧ Kp A w w' :=
  (comp_call (comp_no h hq hok)).mono fun e w' ⟨he, b⟩ => ⟨he, z_of h _ b⟩
theorem comp_yes' (h : Fs A w f g T L) {q : Nat} {e : Se} (hq : L[q]? = some e) (hok : (e.s == 3) = true) : Calls Try.prog 44 #[.pointer (some ⟨f, 0, none⟩), .int .i64 e.i] w fun x w' => x = .returned (.bool true) ∧ ∃ T' L', L' = oth e.i L ∧ Fs A w' f g T' L' ∧ Kp A w w' :=
  (comp_call (comp_yes h hq hok)).mono fun x w' ⟨he, T', L', hL, z1, z2⟩ => ⟨he, T', L', hL, z1, z2⟩
theorem f_len (h : Fs A w f g T L) : Calls Try.prog 54 #[.pointer (some ⟨f, 0, none⟩)] w fun e w' => e = .returned (.int .i64 (L.length : Nat)) ∧ w = w' := by
  obtain ⟨v, r, d, av⟩ := h.ex
  exact flen_any r
theorem f_new (w : World) : Calls Try.prog 32 #[] w fun e w' => ∃ f g, e = .returned (.pointer (some ⟨f, 0, none⟩)) ∧ Fs (fun k => k < w.heap.size) w' f g [] [] ∧ Below w.heap.size w w' := by
  have N := Lib.hid (new_ids 8 w (by omega) (by omega))
  go_enter Try.func32, Try.ntmps32
  go_wp2_with fail
  refine N.out.mono ?_
  rintro e w1 ⟨rfl, d1, b1⟩
  have D1 := Lib.hid d1
  replace b1 := Lib.hid b1
  clear d1 N
  go_wp2
  go_ret
  refine ⟨w1.heap.size, w.heap.size, rfl, ⟨⟨.slice none 0 0, ⟨heap_alloc_new w1 _, World.ownsRow_nil _ _ _ _⟩, ?_, fun k hk => ⟨by have := b1.out.size; simp; omega, by have := b1.out.size; omega, by simp [Value.ownBlock]⟩⟩, by simp, List.Pairwise.nil, rfl⟩, ?_⟩
  · refine Ds.others (S := fun _ => False) D1.out (Far.of_ext (ext_alloc w1 _)) (fun _ h => h.elim) ?_
    rintro k (hk | rfl | hk)
    · exact .inl hk
    · exact .inr ⟨Nat.le_refl _, by simp⟩
    · cases hk
  · exact b1.out.trans ((ext_alloc w1 _).mono b1.out.size)
end
/-- A flight that nobody made. -/
def No (w : World) (p : Value) : Prop := p = .pointer none ∨ ∃ z, p = .pointer (some ⟨z, 0, none⟩) ∧ w.cell? ⟨z, 0, none⟩ = some (.pointer none)
theorem No.keep {w w' : World} {p : Value} (h : No w p) (hb : Below w.heap.size w w') : No w' p := by
  rcases h with h | ⟨z, h1, h2⟩
  · exact .inl h
  · exact .inr ⟨z, h1, (hb.cell (World.block_lt_of_cell? w _ h2)).trans h2⟩
section
variable {w : World} {p : Value}
theorem none_0 (h : No w p) : Calls Try.prog 57 #[p] w fun e w' => e = .returned (.bool true) ∧ w = w' := by
  rcases h with rfl | ⟨z, rfl, h2⟩
  all_goals
    go_enter Try.func57, Try.ntmps57
    go_wp2
    go_ret
    exact ⟨rfl, rfl⟩
theorem send_0 (h : No w p) (t x : ByteArray) (q : Int) (r : Bool) : Calls Try.prog 56 #[p, .agg #[.string t, .string x, .int .i64 q, .bool r]] w fun e w' => e = .returned (.tuple #[.int .i64 0, .int .i64 8]) ∧ Below w.heap.size w w' := by
  have hb := ext_alloc w (.cells #[.string t, .string x, .int .i64 q, .bool r] 30)
  have N := Lib.hid (none_0 (h.keep hb))
  replace hb := Lib.hid hb
  clear h
  go_enter Try.func56, Try.ntmps56
  go_wp2_with fail
  refine N.out.mono ?_
  rintro e w1 ⟨rfl, rfl⟩
  go_wp2
  go_ret2
  exact ⟨rfl, hb.out⟩
theorem step_0 (h : No w p) (id : Int) (F : Value) : Calls Try.prog 61 #[p, .int .i64 id, F] w fun e w' => e = .returned (.bool false) ∧ Below w.heap.size w w' := by
  have hb := ext_alloc w (.cells #[.int .i64 id] 3)
  have N := Lib.hid (none_0 (h.keep hb))
  replace hb := Lib.hid hb
  clear h
  go_enter Try.func61, Try.ntmps61
  go_wp2_with fail
  refine N.out.mono ?_
  rintro e w1 ⟨rfl, rfl⟩
  go_wp2
  go_ret
  exact ⟨rfl, hb.out⟩
theorem ack_0 (h : No w p) (id : Int) : Calls Try.prog 43 #[p, .int .i64 id] w fun e w' => e = .returned (.bool false) ∧ Below w.heap.size w w' := by
  have N := Lib.hid (step_0 h id (.func (.func 62) #[] #[]))
  clear h
  go_enter Try.func43, Try.ntmps43
  go_wp2_with fail
  refine N.out.mono ?_
  rintro e w1 ⟨rfl, b1⟩
  replace b1 := Lib.hid b1
  go_wp2
  go_ret
  exact ⟨rfl, b1.out⟩
theorem comp_0 (h : No w p) (id : Int) : Calls Try.prog 44 #[p, .int .i64 id] w fun e w' => e = .returned (.bool false) ∧ Below w.heap.size w w' := by
  have N := Lib.hid (step_0 h id (.func (.func 63) #[] #[]))
  clear h
  go_enter Try.func44, Try.ntmps44
  go_wp2_with fail
  refine N.out.mono ?_
  rintro e w1 ⟨rfl, b1⟩
  replace b1 := Lib.hid b1
  go_wp2
  go_ret
  exact ⟨rfl, b1.out⟩
theorem rec_0 (h : No w p) (id : Int) : Calls Try.prog 45 #[p, .int .i64 id] w fun e w' => e = .returned (.bool false) ∧ Below w.heap.size w w' := by
  have N := Lib.hid (step_0 h id (.func (.func 64) #[] #[]))
  clear h
  go_enter Try.func45, Try.ntmps45
  go_wp2_with fail
  refine N.out.mono ?_
  rintro e w1 ⟨rfl, b1⟩
  replace b1 := Lib.hid b1
  go_wp2
  go_ret
  exact ⟨rfl, b1.out⟩
theorem all_0 (h : No w p) : Calls Try.prog 40 #[p] w fun e w' => e = .returned (.slice none 0 0) ∧ w = w' := by
  have N := Lib.hid (none_0 h)
  clear h
  go_enter Try.func40, Try.ntmps40
  go_wp2_with fail
  refine N.out.mono ?_
  rintro e w1 ⟨rfl, rfl⟩
  go_wp2
  go_ret
  exact ⟨rfl, rfl⟩
theorem again_0 (h : No w p) : Calls Try.prog 37 #[p] w fun e w' => e = .returned (.slice none 0 0) ∧ w = w' := by
  have N := Lib.hid (none_0 h)
  clear h
  go_enter Try.func37, Try.ntmps37
  go_wp2_with fail
  refine N.out.mono ?_
  rintro e w1 ⟨rfl, rfl⟩
  go_wp2
  go_ret
  exact ⟨rfl, rfl⟩
theorem len_0 (h : No w p) : Calls Try.prog 54 #[p] w fun e w' => e = .returned (.int .i64 0) ∧ w = w' := by
  have N := Lib.hid (none_0 h)
  clear h
  go_enter Try.func54, Try.ntmps54
  go_wp2_with fail
  refine N.out.mono ?_
  rintro e w1 ⟨rfl, rfl⟩
  go_wp2
  go_ret
  exact ⟨rfl, rfl⟩
end
end Go.Proofs.Ytceiipcdkonnlaa.Fli
