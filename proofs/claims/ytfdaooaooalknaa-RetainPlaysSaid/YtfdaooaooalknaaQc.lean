/-
  LAYER 27: parts of a slice of messages; the document's Name of any text.
-/
import Derived.Test.YtfdaooaooalknaaQb
import Derived.Test.YtfdaooaooalknaaSg
import Derived.Test.YtfdaooaooalknaaNa
namespace Go.Proofs.Ytfdaooaooalknaa
set_option linter.unusedVariables false
set_option linter.unusedSimpArgs false
open Go.RowKit Go.Maps Go.WideMaps
section
variable {w : World} {B : Nat} {L : List Mg} {v : Value}
theorem sizeE33 (w : World) : (sizeOf (Try.prog.elem 22)).run Try.prog w = .ok 4 w := by kernel_rfl
/-- What lies in a row, from T on, so many. -/
theorem part_at (h : w.ownsRow B 33 4 v L.length (msAtC L)) (hl : L.length ≤ 1000) (T N : Nat) (hT : T + N ≤ L.length) :
    ∀ a cap, v = .slice a L.length cap → ∀ c', MsAt w (.slice (if cap = T then a else a.map (·.add (T * 4))) N c') ((L.drop T).take N) := by
  intro a cap hv c'
  have hlen : ((L.drop T).take N).length = N := by simp; omega
  by_cases h0 : N = 0
  · subst h0
    exact ⟨(if cap = T then a else a.map (·.add (T * 4))), c', by simp, by simp, .inl (by simp)⟩
  obtain ⟨f0, hf0⟩ : ∃ f, L[T]? = some f := ⟨_, List.getElem?_eq_getElem (by omega)⟩
  obtain ⟨g, cap', e, -, hg, -⟩ := row_at h hf0
  rw [hv] at e
  simp only [Value.slice.injEq] at e
  obtain ⟨rfl, -, rfl⟩ := e
  have hcap : T + N ≤ cap := by
    obtain ⟨h1, h2⟩ := h
    rcases h2 with ⟨-, hn⟩ | ⟨g', cap', cur, e, hb, hgg, hnc, hcm, hcs, ht⟩
    · omega
    · rw [hv] at e
      simp only [Value.slice.injEq] at e
      omega
  have hne : ¬ cap = T := by omega
  refine ⟨_, c', by rw [hlen, if_neg hne], by rw [hlen]; omega, .inr ⟨g, T * 4, by show some ((⟨g, 0, none⟩ : Addr).add (T * 4)) = _; rw [add_off', Nat.zero_add], hg, fun i f hi j u hu => ?_⟩⟩
  have hi' : L[T + i]? = some f := by
    rw [List.getElem?_take] at hi
    split at hi
    · rwa [List.getElem?_drop] at hi
    · cases hi
  obtain ⟨g2, cap2, e2, -, -, d0, d1, d2, d3, -⟩ := row_at h hi'
  rw [hv] at e2
  simp only [Value.slice.injEq, Option.some.injEq, Addr.mk.injEq, and_true] at e2
  obtain ⟨rfl, -, rfl⟩ := e2
  have hj : j < 4 := (List.getElem?_eq_some_iff.1 hu).1
  have ej : T * 4 + i * 4 = (T + i) * 4 := by omega
  rw [ej]
  rcases (by omega : j = 0 ∨ j = 1 ∨ j = 2 ∨ j = 3) with rfl | rfl | rfl | rfl <;> (simp [Mg.cells] at hu; subst hu; first | exact d0 | exact d1 | exact d2 | exact d3)
theorem cap_of (h : w.ownsRow B 33 4 v L.length (msAtC L)) {a : Option Addr} {n cap : Nat} (hv : v = .slice a n cap) : L.length ≤ cap ∧ n = L.length := by
  obtain ⟨h1, h2⟩ := h
  rcases h2 with ⟨e, hn⟩ | ⟨g', cap', cur, e, hb, hgg, hnc, hcm, hcs, ht⟩
  · rw [e] at hv
    simp only [Value.slice.injEq] at hv
    omega
  · rw [e] at hv
    simp only [Value.slice.injEq] at hv
    omega
theorem ms_to (h : w.ownsRow B 33 4 v L.length (msAtC L)) (hl : L.length ≤ 1000) (N : Nat) (hN : N ≤ L.length) :
    ∃ q, (∀ V, (Instr.slice 22 v none (some (.int .i64 (N : Int))) none).run Try.prog V = .ok q V) ∧ MsAt w q (L.take N) := by
  obtain ⟨a, cap, rfl⟩ := own_slice h
  have hc := (cap_of h rfl).1
  have P := part_at h hl 0 N (by omega) a cap rfl (cap - 0)
  rw [List.drop_zero] at P
  refine ⟨_, fun V => ?_, P⟩
  rw [run_slice_h V 22 _ _ _ Try.underlying22 .i64 _ (by omega) (by omega)]
  simp [sizeE33, Result.andThen, sliced]
theorem ms_from (h : w.ownsRow B 33 4 v L.length (msAtC L)) (hl : L.length ≤ 1000) (T : Nat) (hT : T ≤ L.length) (TI : Int) (hI : TI = (T : Int)) :
    ∃ q, (∀ V, (Instr.slice 22 v (some (.int .i64 TI)) none none).run Try.prog V = .ok q V) ∧ MsAt w q (L.drop T) := by
  subst hI
  obtain ⟨a, cap, rfl⟩ := own_slice h
  have hc := (cap_of h rfl).1
  have P := part_at h hl T (L.length - T) (by omega) a cap rfl (cap - T)
  rw [List.take_of_length_le (by simp)] at P
  refine ⟨_, fun V => ?_, P⟩
  rw [run_slice_l V 22 _ _ _ Try.underlying22 .i64 _ (by omega) (by omega)]
  simp [sizeE33, Result.andThen, sliced]
end
theorem rfar_sized (s : ByteArray) (w : World) (h : 96 < s.size) (hs : s.size ≤ 140737488351232) : Calls Try.prog 29 #[.string s] w (BoolIs false w) := by
  have he := size1 (s := s) (by omega)
  have h96' : ¬ (s.size : Int) ≤ 96 := by omega
  have h1' : 1 ≤ (s.size : Int) := by omega
  have hs' : (s.size : Int) ≤ 140737488351232 := by omega
  replace h := Lib.hid h
  replace hs := Lib.hid hs
  go_enter Try.func29, Try.ntmps29
  go_wp2_with fail
  go_ret
  exact ⟨rfl, Below.refl _ _⟩
theorem rnam_far (s : ByteArray) (w : World) (hs : s.size ≤ 140737488351232) : Calls Try.prog 19 #[.string s] w (BoolIs (nameB s) w) := by
  by_cases h : s.size ≤ 1048576
  · exact rname_any rr_any s w h
  have e : nameB s = false := by
    unfold nameB fitsB
    rw [decide_eq_false (p := s.size ≤ 96) (by omega)]; simp
  rw [e]
  have F := Lib.hid (fun w => rfar_sized s w (by omega) hs)
  replace h := Lib.hid h
  clear hs e
  go_enter Try.func19, Try.ntmps19
  go_wp2_with fail
  refine (F.out _).mono ?_
  rintro e w1 ⟨rfl, b1⟩
  go_wp2_with fail
  go_ret
  exact ⟨rfl, b1⟩
end Go.Proofs.Ytfdaooaooalknaa
