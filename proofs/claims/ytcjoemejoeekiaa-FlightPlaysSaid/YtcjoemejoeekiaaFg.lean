/-
  LAYER 23: Ack, Comp, Rec, Len, New; awake.
-/
import Derived.Test.YtcjoemejoeekiaaFf
namespace Go.Proofs.Ytcjoemejoeekiaa.Fli
open Go.RowKit Que Hp Ids
theorem ack_call {f : Nat} {id : Int} {w : World} {b : Bool} {P : World → Prop} (h : Calls Try.prog 55 #[.pointer (some ⟨f, 0, none⟩), .int .i64 id, .func (.func 56) #[] #[]] w fun e w' => e = .returned (.bool b) ∧ P w') : Calls Try.prog 37 #[.pointer (some ⟨f, 0, none⟩), .int .i64 id] w fun e w' => e = .returned (.bool b) ∧ P w' := by
  replace h := Lib.hid h
  go_enter Try.func37, Try.ntmps37
  go_wp2_with fail
  refine h.out.mono ?_
  rintro e w1 ⟨rfl, p⟩
  have p1 := Lib.hid p
  clear p
  go_wp2
  go_ret
  exact ⟨rfl, p1.out⟩
theorem comp_call {f : Nat} {id : Int} {w : World} {b : Bool} {P : World → Prop} (h : Calls Try.prog 55 #[.pointer (some ⟨f, 0, none⟩), .int .i64 id, .func (.func 57) #[] #[]] w fun e w' => e = .returned (.bool b) ∧ P w') : Calls Try.prog 38 #[.pointer (some ⟨f, 0, none⟩), .int .i64 id] w fun e w' => e = .returned (.bool b) ∧ P w' := by
  replace h := Lib.hid h
  go_enter Try.func38, Try.ntmps38
  go_wp2_with fail
  refine h.out.mono ?_
  rintro e w1 ⟨rfl, p⟩
  have p1 := Lib.hid p
  clear p
  go_wp2
  go_ret
  exact ⟨rfl, p1.out⟩
theorem rec_call {f : Nat} {id : Int} {w : World} {b : Bool} {P : World → Prop} (h : Calls Try.prog 55 #[.pointer (some ⟨f, 0, none⟩), .int .i64 id, .func (.func 58) #[] #[]] w fun e w' => e = .returned (.bool b) ∧ P w') : Calls Try.prog 39 #[.pointer (some ⟨f, 0, none⟩), .int .i64 id] w fun e w' => e = .returned (.bool b) ∧ P w' := by
  replace h := Lib.hid h
  go_enter Try.func39, Try.ntmps39
  go_wp2_with fail
  refine h.out.mono ?_
  rintro e w1 ⟨rfl, p⟩
  have p1 := Lib.hid p
  clear p
  go_wp2
  go_ret
  exact ⟨rfl, p1.out⟩
section
variable {A : Nat → Prop} {w w' : World} {f g : Nat} {T : List Bool} {L : List Se}
theorem z_of (h : Fs A w f g T L) : ∀ w', Below w.heap.size w w' → Fs A w' f g T L ∧ Kp A w w' := fun w' b => ⟨h.ext b, Kp.of_ext b⟩
theorem ack_none' (h : Fs A w f g T L) (id : Int) (hn : ∀ e ∈ L, e.i ≠ id) : Calls Try.prog 37 #[.pointer (some ⟨f, 0, none⟩), .int .i64 id] w fun e w' => e = .returned (.bool false) ∧ Fs A w' f g T L ∧ Kp A w w' :=
  (ack_call (ack_none h id hn)).mono fun e w' ⟨he, b⟩ => ⟨he, z_of h _ b⟩
theorem ack_no' (h : Fs A w f g T L) {q : Nat} {e : Se} (hq : L[q]? = some e) (hok : (e.s == 1) = false) : Calls Try.prog 37 #[.pointer (some ⟨f, 0, none⟩), .int .i64 e.i] w fun x w' => x = .returned (.bool false) ∧ Fs A w' f g T L ∧ Kp A w w' :=
  (ack_call (ack_no h hq hok)).mono fun e w' ⟨he, b⟩ => ⟨he, z_of h _ b⟩
theorem ack_yes' (h : Fs A w f g T L) {q : Nat} {e : Se} (hq : L[q]? = some e) (hok : (e.s == 1) = true) : Calls Try.prog 37 #[.pointer (some ⟨f, 0, none⟩), .int .i64 e.i] w fun x w' => x = .returned (.bool true) ∧ ∃ T' L', L' = oth e.i L ∧ Fs A w' f g T' L' ∧ Kp A w w' :=
  (ack_call (ack_yes h hq hok)).mono fun x w' ⟨he, T', L', hL, z1, z2⟩ => ⟨he, T', L', hL, z1, z2⟩
theorem rec_none' (h : Fs A w f g T L) (id : Int) (hn : ∀ e ∈ L, e.i ≠ id) : Calls Try.prog 39 #[.pointer (some ⟨f, 0, none⟩), .int .i64 id] w fun e w' => e = .returned (.bool false) ∧ Fs A w' f g T L ∧ Kp A w w' :=
  (rec_call (rec_none h id hn)).mono fun e w' ⟨he, b⟩ => ⟨he, z_of h _ b⟩
theorem rec_no' (h : Fs A w f g T L) {q : Nat} {e : Se} (hq : L[q]? = some e) (hok : (e.s == 2 || e.s == 3) = false) : Calls Try.prog 39 #[.pointer (some ⟨f, 0, none⟩), .int .i64 e.i] w fun x w' => x = .returned (.bool false) ∧ Fs A w' f g T L ∧ Kp A w w' :=
  (rec_call (rec_no h hq hok)).mono fun e w' ⟨he, b⟩ => ⟨he, z_of h _ b⟩
theorem rec_yes' (h : Fs A w f g T L) {q : Nat} {e : Se} (hq : L[q]? = some e) (hok : (e.s == 2 || e.s == 3) = true) : Calls Try.prog 39 #[.pointer (some ⟨f, 0, none⟩), .int .i64 e.i] w fun x w' => x = .returned (.bool true) ∧ ∃ T' L', L' = L.set q { e with s := 3 } ∧ Fs A w' f g T' L' ∧ Kp A w w' :=
  (rec_call (rec_yes h hq hok)).mono fun x w' ⟨he, L', hL, z1, z2⟩ => ⟨he, T, L', hL, z1, z2⟩
theorem comp_none' (h : Fs A w f g T L) (id : Int) (hn : ∀ e ∈ L, e.i ≠ id) : Calls Try.prog 38 #[.pointer (some ⟨f, 0, none⟩), .int .i64 id] w fun e w' => e = .returned (.bool false) ∧ Fs A w' f g T L ∧ Kp A w w' :=
  (comp_call (comp_none h id hn)).mono fun e w' ⟨he, b⟩ => ⟨he, z_of h _ b⟩
theorem comp_no' (h : Fs A w f g T L) {q : Nat} {e : Se} (hq : L[q]? = some e) (hok : (e.s == 3) = false) : Calls Try.prog 38 #[.pointer (some ⟨f, 0, none⟩), .int .i64 e.i] w fun x w' => x = .returned (.bool false) ∧ Fs A w' f g T L ∧ Kp A w w' :=
  (comp_call (comp_no h hq hok)).mono fun e w' ⟨he, b⟩ => ⟨he, z_of h _ b⟩
theorem comp_yes' (h : Fs A w f g T L) {q : Nat} {e : Se} (hq : L[q]? = some e) (hok : (e.s == 3) = true) : Calls Try.prog 38 #[.pointer (some ⟨f, 0, none⟩), .int .i64 e.i] w fun x w' => x = .returned (.bool true) ∧ ∃ T' L', L' = oth e.i L ∧ Fs A w' f g T' L' ∧ Kp A w w' :=
  (comp_call (comp_yes h hq hok)).mono fun x w' ⟨he, T', L', hL, z1, z2⟩ => ⟨he, T', L', hL, z1, z2⟩
theorem f_len (h : Fs A w f g T L) : Calls Try.prog 31 #[.pointer (some ⟨f, 0, none⟩)] w fun e w' => e = .returned (.int .i64 (L.length : Nat)) ∧ w = w' := by
  obtain ⟨v, r, d, av⟩ := h.ex
  exact flen_any r
theorem f_new (w : World) : Calls Try.prog 28 #[] w fun e w' => ∃ f g, e = .returned (.pointer (some ⟨f, 0, none⟩)) ∧ Fs (fun k => k < w.heap.size) w' f g [] [] ∧ Below w.heap.size w w' := by
  have N := Lib.hid (new_ids 8 w (by omega) (by omega))
  go_enter Try.func28, Try.ntmps28
  go_wp2_with fail
  refine N.out.mono ?_
  rintro e w1 ⟨rfl, d1, b1⟩
  have D1 := Lib.hid d1
  replace b1 := Lib.hid b1
  clear d1 N
  go_wp2
  go_ret
  refine ⟨w1.heap.size, w.heap.size, rfl, ⟨⟨.slice none 0 0, ⟨heap_alloc_new w1 _, World.ownsRow_nil _ _ _ _⟩, ?_, fun k hk => ⟨by have := b1.out.size; simp; omega, by have := b1.out.size; omega, by simp [Value.ownBlock]⟩⟩, by simp, List.Pairwise.nil, rfl⟩, ?_⟩
  · refine Ds.others (S := fun _ => False) D1.out (Far.of_ext (ext_alloc w1 _)) (fun _ h => h.elim) ?_
    rintro k (hk | rfl | hk)
    · exact .inl hk
    · exact .inr ⟨Nat.le_refl _, by simp⟩
    · cases hk
  · exact b1.out.trans ((ext_alloc w1 _).mono b1.out.size)
end
set_option maxHeartbeats 4000000 in
set_option maxRecDepth 100000 in
theorem awake23_any (w : World) : Calls Try.prog 35 #[] w (Yes w) := by
  have N := Lib.hid (f_new w)
  go_enter Try.func35, Try.ntmps35
  go_wp2_with fail
  refine N.out.mono ?_
  rintro e w1 ⟨f, g, rfl, s1, b1⟩
  have A1 : Hid (Calls Try.prog 36 #[.pointer (some ⟨f, 0, none⟩), .agg #[.string { data := #[97] }, .string { data := #[] }, .int .i64 2, .bool false]] w1 fun e w' => e = .returned (.tuple #[.int .i64 1, .int .i64 0]) ∧ Fs (fun k => k < w.heap.size) w' f g [true] [⟨1, 2, { data := #[97] }, { data := #[] }, 2, false⟩] ∧ Kp (fun k => k < w.heap.size) w1 w') := Lib.hid (send_ok s1 _ _ 2 false (.inr rfl) (by simp))
  replace b1 := Lib.hid b1
  clear s1 N
  go_wp2_with fail
  refine A1.out.mono ?_
  rintro e w2 ⟨rfl, s2, k2⟩
  have A2 : Hid (Calls Try.prog 38 #[.pointer (some ⟨f, 0, none⟩), .int .i64 1] w2 fun x w' => x = .returned (.bool false) ∧ Fs (fun k => k < w.heap.size) w' f g [true] [⟨1, 2, { data := #[97] }, { data := #[] }, 2, false⟩] ∧ Kp (fun k => k < w.heap.size) w2 w') := Lib.hid (comp_no' s2 (q := 0) (e := ⟨1, 2, { data := #[97] }, { data := #[] }, 2, false⟩) rfl rfl)
  replace k2 := Lib.hid k2
  clear s2 A1
  go_wp2_with fail
  refine A2.out.mono ?_
  rintro e w3 ⟨rfl, s3, k3⟩
  have A3 : Hid (Calls Try.prog 39 #[.pointer (some ⟨f, 0, none⟩), .int .i64 1] w3 fun x w' => x = .returned (.bool true) ∧ ∃ T' L', L' = [⟨1, 3, { data := #[97] }, { data := #[] }, 2, false⟩] ∧ Fs (fun k => k < w.heap.size) w' f g T' L' ∧ Kp (fun k => k < w.heap.size) w3 w') := Lib.hid (rec_yes' s3 (q := 0) (e := ⟨1, 2, { data := #[97] }, { data := #[] }, 2, false⟩) rfl rfl)
  replace k3 := Lib.hid k3
  clear s3 A2
  go_wp2_with fail
  refine A3.out.mono ?_
  rintro e w4 ⟨rfl, T4, L4, rfl, s4, k4⟩
  have A4 : Hid (Calls Try.prog 38 #[.pointer (some ⟨f, 0, none⟩), .int .i64 1] w4 fun x w' => x = .returned (.bool true) ∧ ∃ T' L', L' = [] ∧ Fs (fun k => k < w.heap.size) w' f g T' L' ∧ Kp (fun k => k < w.heap.size) w4 w') := Lib.hid (comp_yes' s4 (q := 0) (e := ⟨1, 3, { data := #[97] }, { data := #[] }, 2, false⟩) rfl rfl)
  replace k4 := Lib.hid k4
  clear s4 A3
  go_wp2_with fail
  refine A4.out.mono ?_
  rintro e w5 ⟨rfl, T5, L5, rfl, s5, k5⟩
  have A5 : Hid (Calls Try.prog 31 #[.pointer (some ⟨f, 0, none⟩)] w5 fun e w' => e = .returned (.int .i64 0) ∧ w5 = w') := Lib.hid (f_len s5)
  replace k5 := Lib.hid k5
  clear s5 A4
  go_wp2_with fail
  refine A5.out.mono ?_
  rintro e w6 ⟨rfl, rfl⟩
  go_wp2
  go_ret
  exact ⟨rfl, b1.out.trans ((k2.out.trans (k3.out.trans (k4.out.trans k5.out))).below b1.out.size (fun k hk => hk))⟩
/-- A flight that nobody made. -/
def No (w : World) (p : Value) : Prop := p = .pointer none ∨ ∃ z, p = .pointer (some ⟨z, 0, none⟩) ∧ w.cell? ⟨z, 0, none⟩ = some (.pointer none)
theorem No.keep {w w' : World} {p : Value} (h : No w p) (hb : Below w.heap.size w w') : No w' p := by
  rcases h with h | ⟨z, h1, h2⟩
  · exact .inl h
  · exact .inr ⟨z, h1, (hb.cell (World.block_lt_of_cell? w _ h2)).trans h2⟩
section
variable {w : World} {p : Value}
theorem none_0 (h : No w p) : Calls Try.prog 52 #[p] w fun e w' => e = .returned (.bool true) ∧ w = w' := by
  rcases h with rfl | ⟨z, rfl, h2⟩
  all_goals
    go_enter Try.func52, Try.ntmps52
    go_wp2
    go_ret
    exact ⟨rfl, rfl⟩
theorem send_0 (h : No w p) (t x : ByteArray) (q : Int) (r : Bool) : Calls Try.prog 36 #[p, .agg #[.string t, .string x, .int .i64 q, .bool r]] w fun e w' => e = .returned (.tuple #[.int .i64 0, .int .i64 8]) ∧ Below w.heap.size w w' := by
  have hb := ext_alloc w (.cells #[.string t, .string x, .int .i64 q, .bool r] 65)
  have N := Lib.hid (none_0 (h.keep hb))
  replace hb := Lib.hid hb
  clear h
  go_enter Try.func36, Try.ntmps36
  go_wp2_with fail
  refine N.out.mono ?_
  rintro e w1 ⟨rfl, rfl⟩
  go_wp2
  go_ret2
  exact ⟨rfl, hb.out⟩
theorem step_0 (h : No w p) (id : Int) (F : Value) : Calls Try.prog 55 #[p, .int .i64 id, F] w fun e w' => e = .returned (.bool false) ∧ Below w.heap.size w w' := by
  have hb := ext_alloc w (.cells #[.int .i64 id] 3)
  have N := Lib.hid (none_0 (h.keep hb))
  replace hb := Lib.hid hb
  clear h
  go_enter Try.func55, Try.ntmps55
  go_wp2_with fail
  refine N.out.mono ?_
  rintro e w1 ⟨rfl, rfl⟩
  go_wp2
  go_ret
  exact ⟨rfl, hb.out⟩
theorem ack_0 (h : No w p) (id : Int) : Calls Try.prog 37 #[p, .int .i64 id] w fun e w' => e = .returned (.bool false) ∧ Below w.heap.size w w' := by
  have N := Lib.hid (step_0 h id (.func (.func 56) #[] #[]))
  clear h
  go_enter Try.func37, Try.ntmps37
  go_wp2_with fail
  refine N.out.mono ?_
  rintro e w1 ⟨rfl, b1⟩
  replace b1 := Lib.hid b1
  go_wp2
  go_ret
  exact ⟨rfl, b1.out⟩
theorem comp_0 (h : No w p) (id : Int) : Calls Try.prog 38 #[p, .int .i64 id] w fun e w' => e = .returned (.bool false) ∧ Below w.heap.size w w' := by
  have N := Lib.hid (step_0 h id (.func (.func 57) #[] #[]))
  clear h
  go_enter Try.func38, Try.ntmps38
  go_wp2_with fail
  refine N.out.mono ?_
  rintro e w1 ⟨rfl, b1⟩
  replace b1 := Lib.hid b1
  go_wp2
  go_ret
  exact ⟨rfl, b1.out⟩
theorem rec_0 (h : No w p) (id : Int) : Calls Try.prog 39 #[p, .int .i64 id] w fun e w' => e = .returned (.bool false) ∧ Below w.heap.size w w' := by
  have N := Lib.hid (step_0 h id (.func (.func 58) #[] #[]))
  clear h
  go_enter Try.func39, Try.ntmps39
  go_wp2_with fail
  refine N.out.mono ?_
  rintro e w1 ⟨rfl, b1⟩
  replace b1 := Lib.hid b1
  go_wp2
  go_ret
  exact ⟨rfl, b1.out⟩
theorem all_0 (h : No w p) : Calls Try.prog 30 #[p] w fun e w' => e = .returned (.slice none 0 0) ∧ w = w' := by
  have N := Lib.hid (none_0 h)
  clear h
  go_enter Try.func30, Try.ntmps30
  go_wp2_with fail
  refine N.out.mono ?_
  rintro e w1 ⟨rfl, rfl⟩
  go_wp2
  go_ret
  exact ⟨rfl, rfl⟩
theorem again_0 (h : No w p) : Calls Try.prog 32 #[p] w fun e w' => e = .returned (.slice none 0 0) ∧ w = w' := by
  have N := Lib.hid (none_0 h)
  clear h
  go_enter Try.func32, Try.ntmps32
  go_wp2_with fail
  refine N.out.mono ?_
  rintro e w1 ⟨rfl, rfl⟩
  go_wp2
  go_ret
  exact ⟨rfl, rfl⟩
theorem len_0 (h : No w p) : Calls Try.prog 31 #[p] w fun e w' => e = .returned (.int .i64 0) ∧ w = w' := by
  have N := Lib.hid (none_0 h)
  clear h
  go_enter Try.func31, Try.ntmps31
  go_wp2_with fail
  refine N.out.mono ?_
  rintro e w1 ⟨rfl, rfl⟩
  go_wp2
  go_ret
  exact ⟨rfl, rfl⟩
end
end Go.Proofs.Ytcjoemejoeekiaa.Fli
