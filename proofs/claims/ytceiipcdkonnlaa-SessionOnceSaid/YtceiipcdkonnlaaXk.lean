/-
  LAYER 25: what is sent, in order; a row of texts that grows beside a session.
-/
import Derived.Test.YtceiipcdkonnlaaXi
import Derived.Test.YtceiipcdkonnlaaXj
namespace Go.Proofs.Ytceiipcdkonnlaa.Ses
open Go.RowKit Que Hp Ids Fli
set_option linter.unusedSimpArgs false
set_option linter.unusedVariables false
def tx (l : List Mg) : List ByteArray := l.map (·.a1)
def px (P : List Se) : List ByteArray := P.map (·.x)
theorem fl_spec (on : Bool) : ∀ (l : List Mg) (T : List Bool) (L : List Se), (∀ m ∈ l, m.a2 = 1 ∨ m.a2 = 2) → (fl on T L l).2.1 = L ++ (fl on T L l).2.2.2 ∧ px (fl on T L l).2.2.2 ++ tx (fl on T L l).2.2.1 = tx l ∧ ∀ e ∈ (fl on T L l).2.2.2, e.s = e.q ∧ (e.q = 1 ∨ e.q = 2)
  | [], T, L, h => by simp [fl, px, tx]
  | m :: r, T, L, h => by
    obtain ⟨i1, i2, i3⟩ := fl_spec on r (tk T) (L ++ [sE T m]) (fun x hx => h x (by simp [hx]))
    rw [fl]
    split
    · simp only
      refine ⟨by rw [i1]; simp, ?_, ?_⟩
      · simp only [px, tx, List.map_cons, List.cons_append] at i2 ⊢
        rw [i2]; rfl
      · intro e he
        rcases List.mem_cons.1 he with rfl | he
        · exact ⟨rfl, h m (by simp)⟩
        · exact i3 e he
    · simp [px, tx]
theorem fl_full : ∀ (l : List Mg) (T : List Bool) (L : List Se), L.length ≤ 8 → (fl true T L l).2.2.1 = [] ∨ (fl true T L l).2.1.length = 8
  | [], T, L, h => by simp [fl]
  | m :: r, T, L, h => by
    by_cases hL : L.length < 8
    · rw [fl_step hL]
      exact fl_full r (tk T) (L ++ [sE T m]) (by simp; omega)
    · rw [fl_stop (.inr (.inr hL))]
      right; simp only; omega
def inv1 (L : List Se) : Prop := ∀ e ∈ L, e.s = 1 ∨ (e.s = 2 ∨ e.s = 3)
theorem inv1_of {P : List Se} (h : ∀ e ∈ P, e.s = e.q ∧ (e.q = 1 ∨ e.q = 2)) : inv1 P := fun e he => by
  obtain ⟨h1, h2⟩ := h e he
  rw [h1]
  exact h2.imp id .inl
theorem inv1_append {L P : List Se} (h : inv1 L) (k : inv1 P) : inv1 (L ++ P) := fun e he => (List.mem_append.1 he).elim (h e) (k e)
/-- What firsts looks at, of packets sent again, and of those sent for the first time. -/
def dA (e : Se) : Dk := if e.s = 3 then (6, false, ⟨#[]⟩) else (3, true, e.x)
def dF (e : Se) : Dk := (3, false, e.x)
theorem fst_dk (L P : List Se) : fst (L.map dA ++ P.map dF) = px P := by
  have h1 : fst (L.map dA) = [] := by
    simp only [fst, List.map_eq_nil_iff, List.filter_eq_nil_iff]
    intro d hd
    obtain ⟨e, -, rfl⟩ := List.mem_map.1 hd
    unfold dA isF
    split <;> simp
  have h2 : fst (P.map dF) = px P := by
    induction P with
    | nil => rfl
    | cons e r ih => simp only [fst, px, List.map_cons, dF, isF, List.filter_cons] at ih ⊢; simpa using ih
  rw [fst_append, h1, h2]; rfl
theorem pfC_get (l : List Se) : ∀ (i : Nat) (f : Se), l[i]? = some f → ∀ j, j < 24 → (pfC l)[i * 24 + j]? = (pf f)[j]? := by
  induction l with
  | nil => intro i f h; simp at h
  | cons x r ih =>
    intro i f h j hj
    simp only [pfC, List.flatMap_cons] at ih ⊢
    cases i with
    | zero =>
      simp at h; subst h
      rw [Nat.zero_mul, Nat.zero_add, List.getElem?_append_left (by rw [pf_len]; exact hj)]
    | succ i =>
      rw [List.getElem?_append_right (by rw [pf_len]; omega), pf_len, show (i + 1) * 24 + j - 24 = i * 24 + j by omega]
      exact ih i f (by simpa using h) j hj
theorem pk_at {w : World} {B : Nat} {v : Value} {L P : List Se} (o : w.ownsRow B 78 24 v (L.length + P.length) (pkC L ++ pfC P)) : PkAt w v (L.map dA ++ P.map dF) := by
  have hl : (L.map dA ++ P.map dF).length = L.length + P.length := by simp
  refine PkAt.of_own (xs := pkC L ++ pfC P) (by rw [hl]; exact o) ?_
  intro i d hd
  have hL := pkC_len L
  by_cases hi : i < L.length
  · obtain ⟨e, he⟩ : ∃ e, L[i]? = some e := ⟨_, List.getElem?_eq_getElem hi⟩
    rw [List.getElem?_append_left (by simpa using hi), List.getElem?_map, he] at hd
    simp only [Option.map_some, Option.some.injEq] at hd
    subst hd
    have g := fun j (hj : j < 24) => pkC_get L i e he j hj
    have g0 := g 0 (by omega)
    have g2 := g 2 (by omega)
    have g4 := g 4 (by omega)
    rw [Nat.add_zero] at g0
    rw [List.getElem?_append_left (by omega), List.getElem?_append_left (by omega), List.getElem?_append_left (by omega), g0, g2, g4]
    unfold pk dA
    split <;> exact ⟨rfl, rfl, rfl⟩
  · rw [List.getElem?_append_right (by simpa using Nat.not_lt.1 hi), List.length_map, List.getElem?_map] at hd
    cases he : P[i - L.length]? with
    | none => rw [he] at hd; simp at hd
    | some e =>
      rw [he] at hd
      simp only [Option.map_some, Option.some.injEq] at hd
      subst hd
      have g := fun j (hj : j < 24) => pfC_get P (i - L.length) e he j hj
      have g0 := g 0 (by omega)
      have g2 := g 2 (by omega)
      have g4 := g 4 (by omega)
      rw [Nat.add_zero] at g0
      have hx : ∀ j, i * 24 + j - (pkC L).length = (i - L.length) * 24 + j := fun j => by rw [hL]; omega
      have hx0 : i * 24 - (pkC L).length = (i - L.length) * 24 := by rw [hL]; omega
      rw [List.getElem?_append_right (by omega), List.getElem?_append_right (by omega), List.getElem?_append_right (by omega), hx0, hx, hx, g0, g2, g4]
      exact ⟨rfl, rfl, rfl⟩
/-- A row of texts beside a session; B: what is to stay besides. -/
structure Pu (B : Nat → Prop) (base : Nat) (W : World) (a : Ad) (cl : ByteArray) (cn on : Bool) (T : List Bool) (L : List Se) (l : List Mg) (lost : Int) (vg : Value) (G : List ByteArray) : Prop where
  ss : Ss (fun k => B k ∨ vg.ownBlock = some k) W a cl cn on T L l lost
  rg : W.ownsRow base 9 1 vg G.length (stL G)
  ds : ∀ k, vg.ownBlock = some k → ¬ B k
section
variable {B : Nat → Prop} {base : Nat} {W w1 w2 w3 : World} {a : Ad} {cl : ByteArray} {cn on on' : Bool} {T T' : List Bool} {L L' : List Se} {l l' : List Mg} {lost lost' : Int} {vg v1 v3 : Value} {G G3 : List ByteArray}
theorem Pu.row (h : Pu B base W a cl cn on T L l lost vg G) (K1 : Kp (fun k => B k ∨ vg.ownBlock = some k) W w1) (b2 : Below w1.heap.size w1 w2) : w2.ownsRow base 9 1 vg G.length (stL G) :=
  own_keep (own_fars h.rg K1 (fun k hk e => e (.inr hk))) b2
theorem Pu.ext (h : Pu B base W a cl cn on T L l lost vg G) (b2 : Below W.heap.size W w2) : Pu B base w2 a cl cn on T L l lost vg G := ⟨h.ss.ext b2, own_keep h.rg b2, h.ds⟩
theorem Pu.same (h : Pu B base W a cl cn on T L l lost vg G) (S1 : Ss (fun k => B k ∨ vg.ownBlock = some k) w1 a cl cn on' T' L' l' lost') (K1 : Kp (fun k => B k ∨ vg.ownBlock = some k) W w1) : Pu B base w1 a cl cn on' T' L' l' lost' vg G ∧ Kp B W w1 :=
  ⟨⟨S1, own_fars h.rg K1 (fun k hk e => e (.inr hk)), h.ds⟩, K1.mono fun k _ e hk => e (.inl hk)⟩
theorem Pu.pump (h : Pu B base W a cl cn on T L l lost vg G) (S1 : Ss (fun k => (B k ∨ vg.ownBlock = some k) ∨ v1.ownBlock = some k) w1 a cl cn on' T' L' l' lost') (K1 : Kp (fun k => B k ∨ vg.ownBlock = some k) W w1) (b2 : Below w1.heap.size w1 w2)
    (o3 : w3.ownsRow base 9 1 v3 G3.length (stL G3)) (g3 : w2.grownBy w3 vg.ownBlock) (hat : v3.ownBlock = vg.ownBlock ∨ v3.ownBlock = some w2.heap.size) : Pu B base w3 a cl cn on' T' L' l' lost' v3 G3 ∧ Kp B W w3 := by
  have S2 := S1.ext b2
  have F3 : Far (fun k => vg.ownBlock = some k) w2 w3 := Far.of_grown g3 (fun k _ e => e)
  refine ⟨⟨S2.others F3 (fun k hk => .inl (.inr hk)) ?_, o3, ?_⟩, (Kp.trans (show Kp B W w1 from K1.mono fun k _ e hk => e (.inl hk)) (Kp.of_ext b2)).trans (F3.mono fun k _ hk hk2 => h.ds k hk hk2)⟩
  · rintro k (hk | hk)
    · exact .inl (.inl (.inl hk))
    · rcases hat with e | e
      · exact .inl (.inl (.inr (e ▸ hk)))
      · right
        have := (o3.lt k hk).2
        rw [e] at hk
        simp only [Option.some.injEq] at hk
        exact ⟨Nat.le_of_eq hk, this⟩
  · intro k hk hB
    rcases hat with e | e
    · exact h.ds k (e ▸ hk) hB
    · rw [e] at hk
      simp only [Option.some.injEq] at hk
      have := S2.av (k := k) (.inl (.inl (.inl hB)))
      omega
end
end Go.Proofs.Ytceiipcdkonnlaa.Ses
