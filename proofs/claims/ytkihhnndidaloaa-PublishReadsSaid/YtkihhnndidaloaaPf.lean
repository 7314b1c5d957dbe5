/-
  LAYER 14: Put, the program's, of any message.
-/
import Derived.Test.YtkihhnndidaloaaPe
namespace Go.Proofs.Ytkihhnndidaloaa
open Go.RowKit

theorem form_of {w : World} {B : Nat} {v : Value} {p : List Nat} (h : w.ownsRow B 5 1 v p.length (bl p)) (hn : p ≠ []) : ∃ g cap, v = .slice (some ⟨g, 0, none⟩) p.length cap := by
  rcases h.2 with ⟨_, h0⟩ | ⟨g, cap, _, rfl, _⟩
  · exact absurd (List.eq_nil_of_length_eq_zero h0) hn
  · exact ⟨g, cap, rfl⟩
theorem number_pos (q : Int) (w : World) (h : 0 < q) : Calls Try.prog 46 #[.int .i64 q] w fun e w' => e = .returned (.agg #[.func (.func 19) #[] #[], .func (.func 54) #[] #[]]) ∧ Below w.heap.size w w' := by
  go_enter Try.func46, Try.ntmps46
  go_wp2
  exact bodyPost_ret (v := .agg #[.func (.func 19) #[] #[], .func (.func 54) #[] #[]]) (by simp [results, Try.results46, go_sem]) rfl ⟨rfl, ext_alloc _ _⟩
theorem number_0 (w : World) : Calls Try.prog 46 #[.int .i64 0] w fun e w' => e = .returned (.agg #[.func (.func 78) #[] #[], .func (.func 79) #[] #[]]) ∧ Below w.heap.size w w' := by
  go_enter Try.func46, Try.ntmps46
  go_wp2
  exact bodyPost_ret (v := .agg #[.func (.func 78) #[] #[], .func (.func 79) #[] #[]]) (by simp [results, Try.results46, go_sem]) rfl ⟨rfl, ext_alloc _ _⟩
theorem field_0 (w : World) : (Instr.field 71 (.agg #[.func (.func 78) #[] #[], .func (.func 79) #[] #[]]) 0).run Try.prog w = .ok (.func (.func 78) #[] #[]) w := by kernel_rfl
theorem none_ok (w : World) : Calls Try.prog 78 #[.int .i64 0] w (Numb [] 0 w) := by
  have : Calls Try.prog 78 #[.int .i64 0] w fun e w' => e = .returned (.tuple #[.slice none 0 0, .int .i64 0]) ∧ w = w' := by
    go_enter Try.func78, Try.ntmps78
    go_wp2
    go_ret2
    exact ⟨rfl, rfl⟩
  refine this.mono ?_
  rintro e w' ⟨rfl, rfl⟩
  exact ⟨_, rfl, ⟨none, 0, rfl, ⟨by simp, fun _ => rfl⟩, .inl rfl⟩, Below.refl _ _⟩
theorem none_err (id : Int) (w : World) (h : id ≠ 0) : Calls Try.prog 78 #[.int .i64 id] w (Numb [] 1 w) := by
  have hb : (id != 0) = true := by simpa using h
  have : Calls Try.prog 78 #[.int .i64 id] w fun e w' => e = .returned (.tuple #[.slice none 0 0, .int .i64 1]) ∧ w = w' := by
    clear h
    go_enter Try.func78, Try.ntmps78
    go_wp2
    go_ret2
    exact ⟨rfl, rfl⟩
  refine this.mono ?_
  rintro e w' ⟨rfl, rfl⟩
  exact ⟨_, rfl, ⟨none, 0, rfl, ⟨by simp, fun _ => rfl⟩, .inl rfl⟩, Below.refl _ _⟩
def msg (t x : ByteArray) (q : Int) (r : Bool) : Value := .agg #[.string t, .string x, .int .i64 q, .bool r]
theorem nil_numb {P : Program} {f : FuncId} {args : Array Value} {w : World} {err : Int} (h : Calls P f args w fun e w' => e = .returned (.tuple #[.slice none 0 0, .int .i64 err]) ∧ Below w.heap.size w w') : Calls P f args w (Numb [] err w) :=
  h.mono fun e w' ⟨he, hw⟩ => ⟨_, he, ⟨none, 0, rfl, ⟨by simp, fun _ => rfl⟩, .inl rfl⟩, hw⟩
theorem put14_qos (t x : ByteArray) (q id : Int) (r : Bool) (w : World) (h : q < 0 ∨ 2 < q) : Calls Try.prog 14 #[.agg #[.string t, .string x, .int .i64 q, .bool r], .int .i64 id] w (Numb [] 10 w) := by
  refine nil_numb ?_
  rcases (show q < 0 ∨ (0 ≤ q ∧ 2 < q) by omega) with h | ⟨h, h'⟩
  all_goals
    go_enter Try.func14, Try.ntmps14
    go_wp2
    go_ret2
    exact ⟨rfl, ext_alloc _ _⟩
set_option maxHeartbeats 1000000 in
theorem put14_topic (t x : ByteArray) (q id : Int) (r : Bool) (w : World) (h0 : 0 ≤ q) (h2 : q ≤ 2) (ht : t.size ≤ 140737488355328) (htp : topicB t = false) : Calls Try.prog 14 #[.agg #[.string t, .string x, .int .i64 q, .bool r], .int .i64 id] w (Numb [] 13 w) := by
  refine nil_numb ?_
  have T := fun w => topic_any t w ht
  rw [htp] at T
  replace T := Lib.hid T
  clear htp
  have b0 := Lib.hid (ext_alloc w (.cells #[.string t, .string x, .int .i64 q, .bool r] 23))
  go_enter Try.func14, Try.ntmps14
  go_wp2_with fail
  refine (T.out _).mono ?_
  rintro e w1 ⟨rfl, b1⟩
  replace b1 := Lib.hid b1
  go_wp2_with fail
  go_ret2
  exact ⟨rfl, ext_trans b0.out b1.out⟩
set_option maxHeartbeats 1000000 in
theorem put14_text (t x : ByteArray) (q id E : Int) (r : Bool) (w : World) (h0 : 0 ≤ q) (h2 : q ≤ 2) (ht : t.size ≤ 140737488355328) (htp : topicB t = true) (hE : E ≠ 0)
    (P : ∀ w, Calls Try.prog 45 #[.string t] w fun e w' => e = .returned (.tuple #[.slice none 0 0, .int .i64 E]) ∧ Below w.heap.size w w') : Calls Try.prog 14 #[.agg #[.string t, .string x, .int .i64 q, .bool r], .int .i64 id] w (Numb [] E w) := by
  refine nil_numb ?_
  have T := fun w => topic_any t w ht
  rw [htp] at T
  replace T := Lib.hid T
  replace P := Lib.hid P
  have hb : (E != 0) = true := by simpa using hE
  clear htp hE
  have b0 := Lib.hid (ext_alloc w (.cells #[.string t, .string x, .int .i64 q, .bool r] 23))
  go_enter Try.func14, Try.ntmps14
  go_wp2_with fail
  refine (T.out _).mono ?_
  rintro e w1 ⟨rfl, b1⟩
  have c00 : w1.cell? ⟨w.heap.size, 0, none⟩ = some (.string t) := by rw [b1.cell (by simp), World.cell?_alloc_at _ _ _ _ rfl]; rfl
  replace b1 := Lib.hid (ext_trans b0.out b1)
  go_wp2_with fail
  refine (P.out _).mono ?_
  rintro e w2 ⟨rfl, b2⟩
  replace b2 := Lib.hid b2
  clear c00
  go_wp2_with fail
  go_ret2
  exact ⟨rfl, ext_trans b1.out b2.out⟩
end Go.Proofs.Ytkihhnndidaloaa
