/-
  LAYER 12: the document's Next, whole; awake; a framer that nobody made.
-/
import Derived.Test.YtceiipcdkonnlaaDoorTg
namespace Go.Proofs.YtceiipcdkonnlaaDoor
open Go.RowKit
set_option linter.unusedVariables false
set_option linter.unusedSimpArgs false
section
variable {w : World} {B f : Nat} {v : Value} {l : List Nat} {n : Int} {a0 : Addr}
theorem x_next {s : St} (h : Fd w B f v s.l s.n s.d) (hbt : ∀ x ∈ s.l, x < 256) (hl : s.l.length ≤ 140737488355328) (hB : B ≤ w.heap.size) (hn0 : 0 ≤ s.n) (hn1 : s.n ≤ 1000000) :
    Calls Tryd.prog 12 #[.pointer (some ⟨f, 0, none⟩)] w fun e w' => ∃ v', e = .returned (ansV s.next.2.1 s.next.2.2.1 s.next.2.2.2) ∧ Fd w' B f v' s.next.1.l s.next.1.n s.next.1.d ∧ Far (FS f v) w w' ∧ ∀ k, v'.ownBlock = some k → v.ownBlock = some k ∨ w.heap.size ≤ k := by
  obtain ⟨l, n, d⟩ := s
  simp only at h hbt hl hn0 hn1
  by_cases hd0 : d = 0
  · subst hd0
    have h' : Fd w B f v l n 0 := h
    by_cases h2 : (hd l).e = 2
    · have e1 : (St.next ⟨l, n, 0⟩) = (⟨l, n, 0⟩, zR, false, 0) := by simp [St.next, h2]
      rw [e1]
      refine (xn_wait h' hbt hl (K := (hd l).k) (F := (hd l).f) (N := (hd l).n) (T := (hd l).to) (by rw [← h2])).mono ?_
      rintro e w' ⟨rfl, hb⟩
      exact ⟨v, rfl, h'.ext hb, Far.of_ext hb, fun k hk => .inl hk⟩
    by_cases h0 : (hd l).e = 0
    · by_cases hs : l.length < (hd l).to + (hd l).n
      · have e1 : (St.next ⟨l, n, 0⟩) = (⟨l, n, 0⟩, zR, false, 0) := by simp [St.next, h0, hs]
        rw [e1]
        refine (xn_wait2 h' hbt hl (K := (hd l).k) (F := (hd l).f) (N := (hd l).n) (T := (hd l).to) (by rw [← h0]) hs).mono ?_
        rintro e w' ⟨rfl, hb⟩
        exact ⟨v, rfl, h'.ext hb, Far.of_ext hb, fun k hk => .inl hk⟩
      · have e1 : (St.next ⟨l, n, 0⟩) = (⟨l.drop ((hd l).to + (hd l).n), n + 1, 0⟩, rawV l, true, 0) := by simp [St.next, h0, hs]
        rw [e1]
        refine (xn_take h' hbt hl (K := (hd l).k) (F := (hd l).f) (N := (hd l).n) (T := (hd l).to) (by rw [← h0]) (by omega) hB hn0 hn1).mono ?_
        rintro e w' ⟨rfl, v', h1, h2, h3⟩
        exact ⟨v', rfl, h1, h2, fun k hk => .inr (h3 k hk)⟩
    · have e1 : (St.next ⟨l, n, 0⟩) = (⟨[], n, (hd l).e⟩, zR, false, (hd l).e) := by simp [St.next, h0, h2]
      rw [e1]
      refine (xn_bad h' hbt hl (K := (hd l).k) (F := (hd l).f) (N := (hd l).n) (T := (hd l).to) (E := (hd l).e) rfl h2 h0).mono ?_
      rintro e w' ⟨rfl, hf, hF⟩
      exact ⟨.slice none 0 0, rfl, hf, hF, fun k hk => by cases hk⟩
  · have e1 : (St.next ⟨l, n, d⟩) = (⟨l, n, d⟩, zR, false, d) := by simp [St.next, hd0]
    rw [e1]
    refine (xn_dead h hd0).mono ?_
    rintro e w' ⟨rfl, hb⟩
    exact ⟨v, rfl, h.ext hb, Far.of_ext hb, fun k hk => .inl hk⟩
theorem hd_c0 : hd [192] = ⟨0, 0, 0, 0, 2⟩ := by kernel_rfl
theorem hd_c1 : hd [192, 0, 192] = ⟨12, 0, 0, 2, 0⟩ := by kernel_rfl
theorem nx_c0 : St.next ⟨[192], 0, 0⟩ = (⟨[192], 0, 0⟩, zR, false, 0) := by simp [St.next, hd_c0]
theorem nx_c1 : St.next ⟨[192, 0, 192], 0, 0⟩ = (⟨[192], 1, 0⟩, .agg #[.int .i64 12, .int .i64 0, .int .i64 0, .string ⟨#[]⟩], true, 0) := by
  have : rawV [192, 0, 192] = .agg #[.int .i64 12, .int .i64 0, .int .i64 0, .string ⟨#[]⟩] := by simp [rawV, hd_c1, strB]
  simp [St.next, hd_c1, this]
set_option maxHeartbeats 4000000 in
set_option maxRecDepth 100000 in
theorem awake12_any (w : World) (g : Gl a0 w) : Calls Tryd.prog 16 #[] w (Yes w) := by
  have NW := Lib.hid (f_new w)
  have G := Lib.hid g
  clear g
  go_enter Tryd.func16, Tryd.ntmps16
  go_wp2_with fail
  refine NW.out.mono ?_
  rintro e w1 ⟨rfl, h1, b1, z1⟩
  have F3 := Lib.hid ((G.out.ext b1).ge h1)
  have K1 := Lib.hid (f_feed h1 (by omega) ⟨#[192]⟩ (by simp [ByteArray.size]))
  have H1 := Lib.hid h1
  replace b1 := Lib.hid b1
  clear h1 z1 NW
  go_wp2_with fail
  refine K1.out.mono ?_
  rintro e w2 ⟨v2, rfl, h2, F2, o2⟩
  have B2 := Lib.hid (b1.out.trans (F2.below (b1.out.size) (fun k hk => H1.out.lo hk)))
  have K2 := Lib.hid (f_next (s := ⟨[192], 0, 0⟩) h2 (G.out.ext B2.out) (by simp) (by simp) (by simp) (by simp))
  rw [nx_c0] at K2
  have H2 := Lib.hid h2
  clear h2 F2 o2 K1
  unfold ansV zR at K2
  go_wp2_with fail
  refine K2.out.mono ?_
  rintro e w3 ⟨v3, rfl, h3, F3', o3⟩
  have B3 := Lib.hid (B2.out.trans (F3'.below (B2.out.size) (fun k hk => H2.out.lo hk)))
  clear F3' o3 K2
  have H3 := Lib.hid (h3.ext (ext_alloc w3 (.cells #[.int .i64 0, .int .i64 0, .int .i64 0, .string ⟨#[]⟩] 35)))
  have B4 := Lib.hid (B3.out.trans ((ext_alloc w3 (.cells #[.int .i64 0, .int .i64 0, .int .i64 0, .string ⟨#[]⟩] 35)).mono B3.out.size))
  have K3 := Lib.hid (f_feed H3.out (by have := B3.out.size; simp; have := H3.out.lt; simp at this; omega) ⟨#[0, 192]⟩ (by simp [ByteArray.size]))
  clear h3
  go_wp2_with fail
  refine K3.out.mono ?_
  rintro e w5 ⟨v5, rfl, h5, F5, o5⟩
  have B5 := Lib.hid (B4.out.trans (F5.below (B4.out.size) (fun k hk => H3.out.lo hk)))
  have K5 := Lib.hid (f_next (s := ⟨[192, 0, 192], 0, 0⟩) h5 (G.out.ext B5.out) (by simp) (by simp) (by simp) (by simp))
  rw [nx_c1] at K5
  have H5 := Lib.hid h5
  clear h5 F5 o5 K3
  unfold ansV at K5
  go_wp2_with fail
  refine K5.out.mono ?_
  rintro e w6 ⟨v6, rfl, h6, F6, o6⟩
  have B6 := Lib.hid (B5.out.trans (F6.below (B5.out.size) (fun k hk => H5.out.lo hk)))
  have K6 := Lib.hid (f_waits (h6.ext (ext_alloc w6 (.cells #[.int .i64 12, .int .i64 0, .int .i64 0, .string ⟨#[]⟩] 35))))
  clear h6 F6 o6 K5
  go_wp2_with fail
  refine K6.out.mono ?_
  rintro e w7 ⟨rfl, rfl⟩
  go_wp2_with fail
  go_ret
  exact ⟨rfl, B6.out.trans ((ext_alloc w6 _).mono B6.out.size)⟩
end
end Go.Proofs.YtceiipcdkonnlaaDoor
