/-
  LAYER 31: what an update leaves as it was.
-/
import Derived.Test.YtihblangceblhaaDoorTw
namespace Go.Proofs.YtihblangceblhaaDoor
set_option linter.unusedVariables false
set_option linter.unusedSimpArgs false
open Go.RowKit
theorem bornF_ge : ∀ (l : List Mt) (acc : List It), (bornF l acc).2 = 1 ∨ 3 ≤ (bornF l acc).2
  | [], acc => .inl rfl
  | f :: r, acc => by
    unfold bornF
    split
    · exact .inr (by decide)
    · split
      · exact .inr (by decide)
      · exact bornF_ge r _
theorem bornR_ge (l : List Mt) : (bornR l).2 = 1 ∨ 3 ≤ (bornR l).2 := by
  unfold bornR
  split
  · exact .inr (by decide)
  · exact bornF_ge l []
theorem updF_ge (T : List En) (o : ByteArray) : ∀ (l : List Mt) (acc : List It), (updF T o l acc).2 = 1 ∨ 3 ≤ (updF T o l acc).2
  | [], acc => .inl rfl
  | f :: r, acc => by
    unfold updF
    split
    · rename_i h
      rcases nmF_num T o f with e | e | e
      · exact absurd e h
      · exact .inr (by show 3 ≤ (nmF T o f).2; omega)
      · exact .inr (by show 3 ≤ (nmF T o f).2; omega)
    · split
      · exact .inr (by decide)
      · exact updF_ge T o r _
theorem nmF_nil {o : ByteArray} {f : Mt} (h : (nmF [] o f).2 = 1) : (nmF [] o f).1 = f.n := by
  unfold nmF at *
  by_cases hn : f.n ≠ ⟨#[]⟩
  · rw [if_pos hn]
  · rw [if_neg hn] at h
    by_cases ha : f.ha = false
    · rw [if_pos ha] at h; simp at h
    · rw [if_neg ha] at h
      have : (findV [] o f.al).2 = false := rfl
      rw [this] at h
      simp at h
theorem updF_keep (o : ByteArray) : ∀ (ms : List Mt) (L : List It), (updF [] o ms L).2 = 1 → (updF [] o ms L).1.length = L.length ∧
    ∀ (k : Nat) (x : It), L[k]? = some x → ∃ y : It, (updF [] o ms L).1[k]? = some y ∧ y.a0 = x.a0 ∧ y.a1 = x.a1 ∧ y.a2 = x.a2 ∧ y.a3 = x.a3 ∧ ((∀ f ∈ ms, f.n ≠ x.a0) → y = x)
  | [], L, _ => ⟨rfl, fun k x hx => ⟨x, hx, rfl, rfl, rfl, rfl, fun _ => rfl⟩⟩
  | f :: r, L, h => by
    rw [updF] at h ⊢
    by_cases hc : (nmF [] o f).2 ≠ 1
    · rw [if_pos hc] at h; exact absurd h hc
    rw [if_neg hc] at h ⊢
    have hn := nmF_nil (Decidable.not_not.1 hc)
    rw [hn] at h ⊢
    cases hp : plc L f.n with
    | none => rw [hp] at h; simp at h
    | some j =>
      rw [hp] at h
      simp only at h ⊢
      obtain ⟨z, hz, hzn, -⟩ := plc_spec hp
      have e : L.getD j it0 = z := by rw [List.getD_eq_getElem?_getD, hz]; rfl
      rw [e] at h ⊢
      obtain ⟨h1, h2⟩ := updF_keep o r (L.set j (putI z f)) h
      refine ⟨by rw [h1, List.length_set], fun k x hx => ?_⟩
      by_cases hk : k = j
      · subst hk
        rw [hz] at hx
        obtain rfl := Option.some.inj hx
        obtain ⟨y, hy, q0, q1, q2, q3, -⟩ := h2 k (putI z f) (by rw [List.getElem?_set_self (List.getElem?_eq_some_iff.1 hz).1])
        exact ⟨y, hy, q0, q1, q2, q3, fun hall => absurd hzn.symm (hall f List.mem_cons_self)⟩
      · obtain ⟨y, hy, q0, q1, q2, q3, q4⟩ := h2 k x (by rw [List.getElem?_set_ne (fun e => hk e.symm)]; exact hx)
        exact ⟨y, hy, q0, q1, q2, q3, fun hall => q4 (fun g hg => hall g (List.mem_cons_of_mem _ hg))⟩
def nam (ms : List Mt) (x : ByteArray) : Bool := ms.any fun f => decide (f.n = x)
theorem nam_take {ms : List Mt} {j : Nat} {f : Mt} (h : ms[j]? = some f) (x : ByteArray) : nam (ms.take (j + 1)) x = (nam (ms.take j) x || decide (f.n = x)) := by
  unfold nam
  obtain ⟨hj, rfl⟩ := List.getElem?_eq_some_iff.1 h
  rw [List.take_succ_eq_append_getElem hj, List.any_append]
  simp
theorem nam_false {ms : List Mt} {x : ByteArray} (h : nam ms x = false) : ∀ f ∈ ms, f.n ≠ x := by
  intro f hf
  have := List.any_eq_false.1 h f hf
  simpa using this
end Go.Proofs.YtihblangceblhaaDoor
