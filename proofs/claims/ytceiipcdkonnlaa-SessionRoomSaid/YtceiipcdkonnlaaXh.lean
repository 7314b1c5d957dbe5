/-
  LAYER 25: how many are sent, how many wait.
-/
import Derived.Test.YtceiipcdkonnlaaXf
namespace Go.Proofs.Ytceiipcdkonnlaa.Ses
open Go.RowKit Que Hp Ids Fli
set_option linter.unusedSimpArgs false
set_option linter.unusedVariables false
theorem fl_count : ∀ (l : List Mg) (T : List Bool) (L : List Se), L.length ≤ 8 → (fl true T L l).2.2.2.length = min l.length (8 - L.length) ∧ (fl true T L l).2.1.length = L.length + min l.length (8 - L.length) ∧ (fl true T L l).2.2.1.length = l.length - min l.length (8 - L.length)
  | [], T, L, h => by simp [fl]
  | m :: r, T, L, h => by
    by_cases hL : L.length < 8
    · have ih := fl_count r (tk T) (L ++ [sE T m]) (by simp; omega)
      rw [fl_step hL]
      simp only [List.length_append, List.length_cons, List.length_nil] at ih ⊢
      omega
    · rw [fl_stop (.inr (.inr hL))]
      simp only [List.length_cons, List.length_nil]
      omega
def tC : ByteArray := ⟨#[99]⟩
theorem tC_ne : tC.toList.isEmpty = false := by decide +kernel
theorem tC_right : rightB tC = true := by decide +kernel
/-- Behind i messages to a client that is not there. -/
structure Rm (w wr : World) (a : Ad) (i : Nat) : Prop where
  ss : Ss (fun k => k < w.heap.size) wr a tC true false [] [] (List.replicate (min i 16) (mT 1)) ((i : Int) - (min i 16 : Nat))
  bw : Below w.heap.size w wr
theorem Rm.step {w wr : World} {a : Ad} {i : Nat} (h : Rm w wr a i) (hi : i < 40) : Calls Try.prog 9 #[.pointer (some ⟨a.s, 0, none⟩), .agg #[.string ⟨#[116]⟩, .string ⟨#[]⟩, .int .i64 1, .bool false], .int .i64 1] wr fun e w' => ∃ va vc, e = .returned (.tuple #[.slice va 0 vc, .bool (decide (i < 16))]) ∧ Rm w w' a (i + 1) := by
  refine (deliver h.ss tT ⟨#[]⟩ 1 1 false (.inl rfl) (by omega) (by omega) (by omega) (by omega) (fun k hk => Nat.lt_of_lt_of_le hk h.bw.size)).mono ?_
  rintro e w' ⟨v, T', L', l', P, rfl, s2, k2, o2, e2⟩
  rw [fl_stop (.inl rfl)] at e2
  simp only [Prod.mk.injEq] at e2
  obtain ⟨rfl, rfl, rfl, rfl⟩ := e2
  obtain ⟨va, vc, rfl⟩ := own_slice o2
  refine ⟨va, vc, ?_, ⟨?_, h.bw.trans (k2.below h.bw.size (fun k hk => hk))⟩⟩
  · simp only [List.length_replicate, List.length_nil]
    have : decide (min i 16 < 16) = decide (i < 16) := by rw [decide_eq_decide]; omega
    rw [this]
  · have s3 := s2.weaken (A' := fun k => k < w.heap.size) (fun k hk => .inl hk)
    simp only [List.length_replicate] at s3
    by_cases h16 : i < 16
    · rw [if_pos (by omega), if_pos (by omega)] at s3
      have e1 : List.replicate (min i 16) (mT 1) ++ [(⟨tT, ⟨#[]⟩, 1, false⟩ : Mg)] = List.replicate (min (i + 1) 16) (mT 1) := by
        rw [show min (i + 1) 16 = min i 16 + 1 by omega, List.replicate_succ']; rfl
      rw [e1, show (i : Int) - (min i 16 : Nat) = ((i + 1 : Nat) : Int) - (min (i + 1) 16 : Nat) by omega] at s3
      exact s3
    · rw [if_neg (by omega), if_neg (by omega)] at s3
      rw [show (i : Int) - (min i 16 : Nat) + 1 = ((i + 1 : Nat) : Int) - (min (i + 1) 16 : Nat) by omega, show min i 16 = min (i + 1) 16 by omega] at s3
      exact s3
/-- It is there: so many are on their way, so many wait. -/
def Rt (w wr : World) (a : Ad) (S R : Nat) : Prop := ∃ T L l lost, Ss (fun k => k < w.heap.size) wr a tC true true T L l lost ∧ L.length = S ∧ l.length = R ∧ Below w.heap.size w wr
/-- It is not: so many wait, so many were lost. -/
def Rq (w wr : World) (a : Ad) (W : Nat) (lost : Int) : Prop := Ss (fun k => k < w.heap.size) wr a tC true false [] [] (List.replicate W (mT 1)) lost ∧ Below w.heap.size w wr
section
variable {w wr : World} {a : Ad} {S R W : Nat} {lost : Int}
theorem rq_queue (h : Rq w wr a W lost) : Calls Try.prog 14 #[.pointer (some ⟨a.s, 0, none⟩)] wr fun e w' => ∃ va vc, e = .returned (.slice va W vc) ∧ Rq w w' a W lost := by
  refine (s_queue h.1).mono ?_
  rintro e w' ⟨v, rfl, o, s, k, g⟩
  obtain ⟨va, vc, rfl⟩ := own_slice o
  exact ⟨va, vc, by simp, s, h.2.trans (k.below h.2.size (fun k hk => hk))⟩
theorem rq_lost (h : Rq w wr a W lost) : Calls Try.prog 16 #[.pointer (some ⟨a.s, 0, none⟩)] wr fun e w' => e = .returned (.int .i64 lost) ∧ wr = w' := s_lost h.1
theorem rq_att (h : Rq w wr a W lost) (hS : S = min W 8) (hR : R = W - S) : Calls Try.prog 11 #[.pointer (some ⟨a.s, 0, none⟩)] wr fun e w' => ∃ va vc, e = .returned (.slice va S vc) ∧ Rt w w' a S R := by
  refine (attach h.1 (fun k hk => Nat.lt_of_lt_of_le hk h.2.size)).mono ?_
  rintro e w' ⟨v, T', L', l', P, rfl, s, k, o, ef⟩
  obtain ⟨va, vc, rfl⟩ := own_slice o
  have c := fl_count (List.replicate W (mT 1)) [] [] (by simp)
  rw [ef] at c
  simp only [List.length_replicate, List.length_nil] at c
  have hP : ([] : List Se).length + P.length = S := by simp only [List.length_nil]; omega
  refine ⟨va, vc, by rw [hP], T', L', l', lost, s.weaken (fun k hk => .inl hk), by omega, by omega, h.2.trans (k.below h.2.size (fun k hk => hk))⟩
theorem rt_att (h : Rt w wr a S R) (hS : S = 8 ∨ R = 0) : Calls Try.prog 11 #[.pointer (some ⟨a.s, 0, none⟩)] wr fun e w' => ∃ va vc, e = .returned (.slice va S vc) ∧ Rt w w' a S R := by
  obtain ⟨T, L, l, lost, s0, hL, hl, b⟩ := h
  refine (attach s0 (fun k hk => Nat.lt_of_lt_of_le hk b.size)).mono ?_
  rintro e w' ⟨v, T', L', l', P, rfl, s, k, o, ef⟩
  obtain ⟨va, vc, rfl⟩ := own_slice o
  have c := fl_count l T L s0.fs.le
  rw [ef] at c
  simp only at c
  have hP : L.length + P.length = S := by omega
  refine ⟨va, vc, by rw [hP], T', L', l', lost, s.weaken (fun k hk => .inl hk), by omega, by omega, b.trans (k.below b.size (fun k hk => hk))⟩
theorem rt_flight (h : Rt w wr a S R) : Calls Try.prog 15 #[.pointer (some ⟨a.s, 0, none⟩)] wr fun e w' => ∃ va vc, e = .returned (.slice va S vc) ∧ Rt w w' a S R := by
  obtain ⟨T, L, l, lost, s0, hL, hl, b⟩ := h
  refine (s_flight s0).mono ?_
  rintro e w' ⟨v, rfl, o, b2⟩
  obtain ⟨va, vc, rfl⟩ := own_slice o
  exact ⟨va, vc, by rw [hL], T, L, l, lost, s0.ext b2, hL, hl, b.trans (b2.mono b.size)⟩
theorem rt_queue (h : Rt w wr a S R) : Calls Try.prog 14 #[.pointer (some ⟨a.s, 0, none⟩)] wr fun e w' => ∃ va vc, e = .returned (.slice va R vc) ∧ Rt w w' a S R := by
  obtain ⟨T, L, l, lost, s0, hL, hl, b⟩ := h
  refine (s_queue s0).mono ?_
  rintro e w' ⟨v, rfl, o, s, k, g⟩
  obtain ⟨va, vc, rfl⟩ := own_slice o
  exact ⟨va, vc, by rw [hl], T, L, l, lost, s, hL, hl, b.trans (k.below b.size (fun k hk => hk))⟩
end
end Go.Proofs.Ytceiipcdkonnlaa.Ses
