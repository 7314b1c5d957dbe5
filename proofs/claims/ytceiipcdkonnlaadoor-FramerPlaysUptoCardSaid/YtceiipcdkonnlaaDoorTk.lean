/-
  LAYER 12: the program's framer beside the document's.
-/
import Derived.Test.YtceiipcdkonnlaaDoorTi
namespace Go.Proofs.YtceiipcdkonnlaaDoor
open Go.RowKit
set_option linter.unusedVariables false
set_option linter.unusedSimpArgs false
def St.feed (s : St) (x : ByteArray) : St := if s.d = 0 then ⟨s.l ++ nb x, s.n, 0⟩ else s
structure Pr (w0 w : World) (a0 : Addr) (f g : Nat) (vf vg : Value) (s t : St) : Prop where
  fm : Fm w (f + 1) f vf s.l s.n (fltV s.d)
  fd : Fd w (g + 1) g vg t.l t.n t.d
  ne : ∀ k, vf.ownBlock = some k → vg.ownBlock ≠ some k
  bw : Below w0.heap.size w0 w
  lf : w0.heap.size ≤ f
  lg : w0.heap.size ≤ g
  ds : s.d ≠ 0 → s.l = []
  dt : ∀ x ∈ t.l, x < 256
  gl : Gl a0 w
section
variable {w0 w w' : World} {a0 : Addr} {f g : Nat} {vf vg : Value} {s t : St}
theorem Pr.f3 (h : Pr w0 w a0 f g vf vg s t) : 3 ≤ f := h.gl.ge h.fm
theorem Pr.g3 (h : Pr w0 w a0 f g vf vg s t) : 3 ≤ g := by
  have c1 := h.fd.c1
  have c2 := h.fd.c2
  have h0 : g ≠ 0 := by
    rintro rfl
    have := h.fd.row
    have hc := h.gl.1
    have e := cell_of_row w 0 0 _ 28 (0, 0) this
    rw [hc] at e
    obtain ⟨a, c, hv⟩ := h.fd.wt.len
    rw [hv] at e
    cases e
  have h1 : g ≠ 1 := by
    rintro rfl
    have := h.fd.row
    have hc := h.gl.2.1
    have e := cell_of_row w 1 0 _ 28 (0, 0) this
    rw [hc] at e
    obtain ⟨a, c, hv⟩ := h.fd.wt.len
    rw [hv] at e
    cases e
  have h2 : g ≠ 2 := by rintro rfl; rw [h.gl.2.2.2.1] at c1; cases c1
  omega
theorem Pr.apart (h : Pr w0 w a0 f g vf vg s t) {k : Nat} (hk : FS g vg k) : ¬ FS f vf k := by
  have hne : g ≠ f := by
    rintro rfl
    have := h.fm.row.symm.trans h.fd.row
    simp at this
  rintro (e | e)
  · rcases hk with hk | hk
    · exact hne (hk.symm.trans e)
    · exact h.fd.wt.ne h.fm.row (by decide) (e ▸ hk)
  · rcases hk with hk | hk
    · exact h.fm.wt.ne h.fd.row (by decide) (hk ▸ e)
    · exact h.ne k e hk
theorem Pr.prog (h : Pr w0 w a0 f g vf vg s t) {v' : Value} {s' : St} (h1 : Fm w' (f + 1) f v' s'.l s'.n (fltV s'.d)) (F : Far (FS f vf) w w') (ho : ∀ k, v'.ownBlock = some k → vf.ownBlock = some k ∨ w.heap.size ≤ k) (hd : s'.d ≠ 0 → s'.l = []) : Pr w0 w' a0 f g v' vg s' t := by
  refine ⟨h1, h.fd.fars F (fun k hk => h.apart hk), fun k hk hg => ?_, h.bw.trans (F.below h.bw.size (fun k hk => ?_)), h.lf, h.lg, hd, h.dt, h.gl.far F (fun k hk => ?_)⟩
  · rcases ho k hk with e | e
    · exact h.ne k e hg
    · have := (h.fd.wt.own hg).2.1; omega
  · have := h.fm.lo hk; have := h.lf; omega
  · have := h.fm.lo hk; have := h.f3; omega
theorem Pr.doc (h : Pr w0 w a0 f g vf vg s t) {v' : Value} {t' : St} (h1 : Fd w' (g + 1) g v' t'.l t'.n t'.d) (F : Far (FS g vg) w w') (ho : ∀ k, v'.ownBlock = some k → vg.ownBlock = some k ∨ w.heap.size ≤ k) (hd : ∀ x ∈ t'.l, x < 256) : Pr w0 w' a0 f g vf v' s t' := by
  refine ⟨h.fm.fars F (fun k hk hg => h.apart hg hk), h1, fun k hf hk => ?_, h.bw.trans (F.below h.bw.size (fun k hk => ?_)), h.lf, h.lg, h.ds, hd, h.gl.far F (fun k hk => ?_)⟩
  · rcases ho k hk with e | e
    · exact h.ne k hf e
    · have := (h.fm.wt.own hf).2.1; omega
  · have := h.fd.lo hk; have := h.lg; omega
  · have := h.fd.lo hk; have := h.g3; omega
theorem Pr.ext (h : Pr w0 w a0 f g vf vg s t) (hb : Below w.heap.size w w') : Pr w0 w' a0 f g vf vg s t :=
  ⟨h.fm.ext hb, h.fd.ext hb, h.ne, h.bw.trans (hb.mono h.bw.size), h.lf, h.lg, h.ds, h.dt, h.gl.ext hb⟩
theorem p_feed (h : Pr w0 w a0 f g vf vg s t) (x : ByteArray) (hl : s.l.length + x.size ≤ 140737488355328) : Calls Tryd.prog 9 #[.pointer (some ⟨f, 0, none⟩), .string x] w fun e w' => e = .returned (.int .i64 0) ∧ ∃ v', Pr w0 w' a0 f g v' vg (s.feed x) t := by
  unfold St.feed
  by_cases hd : s.d = 0
  · rw [if_pos hd]
    have hf : Fm w (f + 1) f vf s.l s.n .nilIface := by have := h.fm; rw [hd] at this; exact this
    refine (f_feed hf h.fm.lt x hl).mono ?_
    rintro e w' ⟨v', rfl, h1, F, ho⟩
    exact ⟨rfl, v', h.prog h1 F ho (fun h => absurd rfl h)⟩
  · rw [if_neg hd]
    have hf : Fm w (f + 1) f vf s.l s.n (.iface 67 (.agg #[.int .i64 (s.d : Int)])) := by have := h.fm; simpa [fltV, hd] using this
    refine (f_feed_dead hf x).mono ?_
    rintro e w' ⟨rfl, rfl⟩
    exact ⟨rfl, vf, h⟩
theorem d_feed (h : Pr w0 w a0 f g vf vg s t) (x : ByteArray) (hl : t.l.length + x.size ≤ 140737488355328) : Calls Tryd.prog 10 #[.pointer (some ⟨g, 0, none⟩), .string x] w fun e w' => e = .returned (.tuple #[]) ∧ ∃ v', Pr w0 w' a0 f g vf v' s (t.feed x) := by
  unfold St.feed
  by_cases hd : t.d = 0
  · rw [if_pos hd]
    have hf : Fd w (g + 1) g vg t.l t.n 0 := by have := h.fd; rw [hd] at this; exact this
    refine (x_feed hf h.fd.lt x hl).mono ?_
    rintro e w' ⟨v', rfl, h1, F, ho⟩
    refine ⟨rfl, v', h.doc h1 F ho (fun y hy => ?_)⟩
    rcases List.mem_append.1 hy with hy | hy
    · exact h.dt y hy
    · exact nb_lt x y hy
  · rw [if_neg hd]
    refine (x_feed_dead h.fd (by simpa using hd) x).mono ?_
    rintro e w' ⟨rfl, rfl⟩
    exact ⟨rfl, vg, h⟩
theorem next_dl (s : St) (hd : s.d ≠ 0 → s.l = []) : s.next.1.d ≠ 0 → s.next.1.l = [] := by
  obtain ⟨l, n, d⟩ := s
  unfold St.next
  simp only at hd ⊢
  split
  · exact hd
  · split
    · exact hd
    · split
      · intro _; rfl
      · split
        · exact hd
        · intro h; exact absurd rfl h
theorem next_bt (s : St) (h : ∀ x ∈ s.l, x < 256) : ∀ x ∈ s.next.1.l, x < 256 := by
  obtain ⟨l, n, d⟩ := s
  unfold St.next
  simp only at h ⊢
  split
  · exact h
  · split
    · exact h
    · split
      · simp
      · split
        · exact h
        · intro x hx; exact h x (List.mem_of_mem_drop hx)
theorem next_n (s : St) : s.n ≤ s.next.1.n ∧ s.next.1.n ≤ s.n + 1 := by
  obtain ⟨l, n, d⟩ := s
  unfold St.next
  simp only
  repeat' split
  all_goals (refine ⟨?_, ?_⟩ <;> first | exact Int.le_refl _ | (show n ≤ n + 1; omega))
theorem next_len (s : St) : s.next.1.l.length ≤ s.l.length := by
  obtain ⟨l, n, d⟩ := s
  unfold St.next
  simp only
  repeat' split
  all_goals first | exact Nat.le_refl _ | simp
theorem p_next (h : Pr w0 w a0 f g vf vg s t) (hl : s.l.length ≤ 140737488355328) (hn0 : 0 ≤ s.n) (hn1 : s.n ≤ 1000000) : Calls Tryd.prog 11 #[.pointer (some ⟨f, 0, none⟩)] w fun e w' => e = .returned (ansV s.next.2.1 s.next.2.2.1 s.next.2.2.2) ∧ ∃ v', Pr w0 w' a0 f g v' vg s.next.1 t := by
  refine (f_next h.fm h.gl hl hn0 hn1 h.ds).mono ?_
  rintro e w' ⟨v', rfl, h1, F, ho⟩
  exact ⟨rfl, v', h.prog h1 F (fun k hk => .inl (ho k hk)) (next_dl s h.ds)⟩
theorem d_next (h : Pr w0 w a0 f g vf vg s t) (hl : t.l.length ≤ 140737488355328) (hn0 : 0 ≤ t.n) (hn1 : t.n ≤ 1000000) : Calls Tryd.prog 12 #[.pointer (some ⟨g, 0, none⟩)] w fun e w' => e = .returned (ansV t.next.2.1 t.next.2.2.1 t.next.2.2.2) ∧ (∃ v', Pr w0 w' a0 f g vf v' s t.next.1) ∧ Far (FS g vg) w w' := by
  refine (x_next h.fd h.dt hl h.fd.lt hn0 hn1).mono ?_
  rintro e w' ⟨v', rfl, h1, F, ho⟩
  exact ⟨rfl, ⟨v', h.doc h1 F ho (next_bt t h.dt)⟩, F⟩
theorem p_waits (h : Pr w0 w a0 f g vf vg s t) : Calls Tryd.prog 13 #[.pointer (some ⟨f, 0, none⟩)] w fun e w' => e = .returned (.int .i64 (s.l.length : Nat)) ∧ w = w' := f_waits h.fm
theorem p_taken (h : Pr w0 w a0 f g vf vg s t) : Calls Tryd.prog 14 #[.pointer (some ⟨f, 0, none⟩)] w fun e w' => e = .returned (.int .i64 s.n) ∧ w = w' := f_taken h.fm
theorem p_live (h : Pr w0 w a0 f g vf vg s t) (hd : s.d = 0) : Calls Tryd.prog 15 #[.pointer (some ⟨f, 0, none⟩)] w fun e w' => e = .returned (.bool false) ∧ w = w' := by
  have hf := h.fm
  rw [hd] at hf
  exact f_live hf
theorem p_dead (h : Pr w0 w a0 f g vf vg s t) (hd : s.d ≠ 0) : Calls Tryd.prog 15 #[.pointer (some ⟨f, 0, none⟩)] w fun e w' => e = .returned (.bool true) ∧ w = w' := by
  have hf : Fm w (f + 1) f vf s.l s.n (.iface 67 (.agg #[.int .i64 (s.d : Int)])) := by have := h.fm; simpa [fltV, hd] using this
  exact f_dead hf
/-- What Next answers is a raw packet of four cells. -/
theorem next_agg (s : St) : ∃ (a b c : Int) (x : ByteArray), s.next.2.1 = .agg #[.int .i64 a, .int .i64 b, .int .i64 c, .string x] := by
  unfold St.next zR rawV
  split
  · exact ⟨_, _, _, _, rfl⟩
  · split
    · exact ⟨_, _, _, _, rfl⟩
    · split
      · exact ⟨_, _, _, _, rfl⟩
      · split
        · exact ⟨_, _, _, _, rfl⟩
        · exact ⟨_, _, _, _, rfl⟩
end
end Go.Proofs.YtceiipcdkonnlaaDoor
