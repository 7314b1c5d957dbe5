/-
  LAYER 35: two keys, as time goes on.
-/
import Derived.Test.YtoijdmchkjmpgaaRd
namespace Go.Proofs.Ytoijdmchkjmpgaa.Rte
open Go.RowKit Que Hp Hg
def kB : ByteArray := { data := #[98] }
theorem kB_kA : kB ≠ kA := by decide
def cnt (G : List Gr) : Nat := (if lst G kA = none then 0 else 1) + (if lst G kB = none then 0 else 1)
theorem cnt_le (G : List Gr) : cnt G ≤ 2 := by unfold cnt; split <;> split <;> omega
structure St (w wr : World) (m : Int) (i : Nat) (now last : Int) (G : List Gr) : Prop where
  rs : Rs (fun k => k < w.heap.size) wr w.heap.size m G
  bw : Below w.heap.size w wr
  n0 : 0 ≤ now
  n1 : now ≤ 255 * i
  ct : G.length = cnt G
  la : last = -1 ∧ lst G kA = none ∨ 0 ≤ last ∧ last ≤ now ∧ lst G kA = some last
section
variable {w wr w' : World} {m now last : Int} {i : Nat} {G : List Gr}
theorem cnt_upd {k : ByteArray} {t : Int} {G G2 : List Gr} (h : G.length = cnt G) (u : Upd k t G G2) (hk : k = kA ∨ k = kB) : G2.length = cnt G2 := by
  obtain ⟨u1, u2⟩ := u
  have e1 := kB_kA
  have e2 : kA ≠ kB := fun e => e1 e.symm
  unfold cnt at h ⊢
  rw [u1 kA, u1 kB]
  rcases hk with rfl | rfl
  all_goals
    cases h1 : lst G kA <;> cases h2 : lst G kB <;> simp [h1, h2, e1, e2] at h u2 ⊢ <;> first | omega | (subst h; simpa using u2)
theorem ask_b (h : St w wr m i now last G) (hi : i < 80) (d : Int) (hd : 0 ≤ d ∧ d ≤ 255) : Calls Try.prog 46 #[.pointer (some ⟨w.heap.size, 0, none⟩), .string kB, .int .i64 (now + d)] wr fun e w' => ∃ b G2, e = .returned (.bool b) ∧ St w w' m (i + 1) (now + d) last G2 := by
  refine (rask h.rs kB (now + d)).mono ?_
  rintro e w' ⟨rfl, kp, G2, r2, a1, a2⟩
  have h0 := h.n0
  have h1 := h.n1
  have hb := h.bw.trans (kp.below h.bw.size (fun k hk => hk))
  cases hm : may m G kB (now + d)
  · obtain rfl := a2 hm
    refine ⟨false, G2, rfl, ⟨r2, hb, by omega, by omega, h.ct, h.la.imp id (fun ⟨x, y, z⟩ => ⟨x, by omega, z⟩)⟩⟩
  · have u := a1 hm
    refine ⟨true, G2, rfl, ⟨r2, hb, by omega, by omega, cnt_upd h.ct u (.inr rfl), ?_⟩⟩
    rw [u.1 kA, if_neg kB_kA]
    exact h.la.imp id (fun ⟨x, y, z⟩ => ⟨x, by omega, z⟩)
theorem ask_a (h : St w wr m i now last G) (hi : i < 80) (d : Int) (hd : 0 ≤ d ∧ d ≤ 255) : Calls Try.prog 46 #[.pointer (some ⟨w.heap.size, 0, none⟩), .string kA, .int .i64 (now + d)] wr fun e w' => ∃ b G2, e = .returned (.bool b) ∧ b = (decide (last < 0) || decide (m ≤ now + d - last)) ∧ St w w' m (i + 1) (now + d) (if b = true then now + d else last) G2 := by
  refine (rask h.rs kA (now + d)).mono ?_
  rintro e w' ⟨rfl, kp, G2, r2, a1, a2⟩
  have h0 := h.n0
  have h1 := h.n1
  have hb := h.bw.trans (kp.below h.bw.size (fun k hk => hk))
  have hc := cnt_le G
  have hct := h.ct
  have hmay : may m G kA (now + d) = (decide (last < 0) || decide (m ≤ now + d - last)) := by
    rcases h.la with ⟨rfl, hl⟩ | ⟨l0, l1, hl⟩
    · rw [may_new hl (by omega), decide_eq_true (show G.length < 8 by omega)]; rfl
    · rw [may_one hl (by omega), decide_eq_false (show ¬ last < 0 by omega), Bool.false_or]
  cases hm : may m G kA (now + d)
  · obtain rfl := a2 hm
    refine ⟨false, G2, rfl, by rw [← hmay, hm], ?_⟩
    rw [if_neg (by simp)]
    exact ⟨r2, hb, by omega, by omega, h.ct, h.la.imp id (fun ⟨x, y, z⟩ => ⟨x, by omega, z⟩)⟩
  · have u := a1 hm
    refine ⟨true, G2, rfl, by rw [← hmay, hm], ?_⟩
    rw [if_pos rfl]
    exact ⟨r2, hb, by omega, by omega, cnt_upd h.ct u (.inl rfl), .inr ⟨by omega, by omega, by rw [u.1, if_pos rfl]⟩⟩
theorem last_a (h : St w wr m i now last G) : Calls Try.prog 50 #[.pointer (some ⟨w.heap.size, 0, none⟩), .string kA] wr fun e w' => (last = -1 ∧ e = .returned (.tuple #[.int .i64 0, .bool false]) ∨ 0 ≤ last ∧ e = .returned (.tuple #[.int .i64 last, .bool true])) ∧ Below w.heap.size w w' := by
  refine (rlast h.rs kA).mono ?_
  rintro e w' ⟨rfl, b⟩
  refine ⟨?_, ext_trans h.bw b⟩
  rcases h.la with ⟨rfl, hl⟩ | ⟨l0, l1, hl⟩
  · exact .inl ⟨rfl, by rw [hl]; rfl⟩
  · exact .inr ⟨l0, by rw [hl]; rfl⟩
end
end Go.Proofs.Ytoijdmchkjmpgaa.Rte
