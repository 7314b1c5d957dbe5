/-
  LAYER 28: both sides' sessions.
-/
import Derived.Test.YtdcfenkllpfbaaaCc
namespace Go.Proofs.Ytdcfenkllpfbaaa.Sns
set_option linter.unusedVariables false
set_option linter.unusedSimpArgs false
open Go.Proofs.Ytdcfenkllpfbaaa
open Go.RowKit Que
variable {w0 w w' : World} {t x : Nat} {n : Int} {V U : List (Option Vw)} {L : List (Option Ze)} {D : List (Option De)} {cl : ByteArray} {cn : Bool}
structure Both (w0 : World) (t x : Nat) (n : Int) (L : List (Option Ze)) (D : List (Option De)) (w : World) : Prop where
  p : St w t n L
  d : Sd w x w0.heap.size n D
  bw : Below w0.heap.size w0 w
  tt : w0.heap.size ≤ t
  old : ∀ (i : Nat) (z : Ze), L[i]? = some (some z) → w0.heap.size ≤ z.g ∧ w0.heap.size ≤ z.c
def Bo (w0 : World) (t x : Nat) (n : Int) (V U : List (Option Vw)) (w : World) : Prop := ∃ L D, vwZ L = V ∧ vwD D = U ∧ Both w0 t x n L D w
theorem Both.ext (h : Both w0 t x n L D w) (hb : Below w.heap.size w w') : Both w0 t x n L D w' := ⟨h.p.ext hb, h.d.ext hb, h.bw.trans (hb.mono h.bw.size), h.tt, h.old⟩
theorem Bo.ext (h : Bo w0 t x n V U w) (hb : Below w.heap.size w w') : Bo w0 t x n V U w' := by
  obtain ⟨L, D, h1, h2, h3⟩ := h
  exact ⟨L, D, h1, h2, h3.ext hb⟩
theorem Bo.bw (h : Bo w0 t x n V U w) : Below w0.heap.size w0 w := by obtain ⟨L, D, h1, h2, h3⟩ := h; exact h3.bw
theorem Bo.more {m : Int} (h : Bo w0 t x n V U w) (hm : n ≤ m) : Bo w0 t x m V U w := by
  obtain ⟨L, D, h1, h2, h3⟩ := h
  exact ⟨L, D, h1, h2, h3.p.more hm, h3.d.more hm, h3.bw, h3.tt, h3.old⟩
theorem Bo.lens (h : Bo w0 t x n V U w) : V.length = 8 ∧ U.length = 8 := by
  obtain ⟨L, D, rfl, rfl, h3⟩ := h
  exact ⟨by rw [vwZ, List.length_map]; exact h3.p.len, by rw [vwD, List.length_map]; exact h3.d.len⟩
theorem noD_t (h : St w t n L) : ∀ k, k = t → NoD w k := fun k e cs ty hk => by
  subst e
  rw [h.sp.row] at hk
  simp only [Option.some.injEq, Obj.cells.injEq] at hk
  obtain ⟨-, rfl, -⟩ := hk
  decide
theorem noP_x {B : Nat} (h : Sd w x B n D) : ∀ k, k = x → NoP w k := fun k e => ⟨rowD D, 59, by rw [e]; exact h.row, by decide, by decide, by decide, by decide, by decide⟩
theorem noD_q {i : Nat} {z : Ze} (h : St w t n L) (hi : L[i]? = some (some z)) : ∀ k, (k = z.g ∨ k = z.c) → NoD w k := fun k e cs ty hk => by
  have hz := h.at_ i z hi
  obtain ⟨s1, r1, hc1⟩ := hz.qu.ch
  rcases e with e | e
  · subst e
    rw [hz.qu.row] at hk
    simp only [Option.some.injEq, Obj.cells.injEq] at hk
    obtain ⟨-, rfl, -⟩ := hk
    decide
  · subst e
    rw [hc1] at hk
    cases hk
theorem noP_d {B : Nat} {z : De} (h : z.At w B n) : ∀ k, SXd z k → NoP w k := fun k e => by
  rcases e with e | e
  · exact ⟨_, 95, e ▸ h.xq.row, by decide, by decide, by decide, by decide, by decide⟩
  · obtain ⟨-, cs, hc⟩ := own_row h.xq.its e
    exact ⟨cs, 46, hc, by decide, by decide, by decide, by decide, by decide⟩
def opL (cl : ByteArray) (cn : Bool) (V : List (Option Vw)) : List (Option Vw) :=
  match (opV cl cn V).2.2.2 with
  | none => V
  | some i => V.set i (some (cl, cn, 0))
theorem Both.far_t (h : Both w0 t x n L D w) (F : Far (fun k => k = t) w w') : Sd w' x w0.heap.size n D ∧ Below w0.heap.size w0 w' :=
  ⟨h.d.off F (noD_t h.p), h.bw.trans (F.below h.bw.size (fun k e => by rw [e]; exact h.tt))⟩
theorem Both.far_x (h : Both w0 t x n L D w) (F : Far (fun k => k = x) w w') : St w' t n L ∧ Below w0.heap.size w0 w' :=
  ⟨h.p.off F (noP_x h.d), h.bw.trans (F.below h.bw.size (fun k e => by rw [e]; exact h.d.old))⟩
theorem bo_popen (h : Bo w0 t x n V U w) (hn : 0 ≤ n) (cl : ByteArray) (cn : Bool) (hz : cl.size ≤ 140737488351232) :
    Calls Try.prog 7 #[.pointer (some ⟨t, 0, none⟩), .string cl, .bool cn] w fun e w' => e = .returned (.tuple #[.int .i64 (opV cl cn V).1, .bool (opV cl cn V).2.1, .int .i64 (opV cl cn V).2.2.1]) ∧ Bo w0 t x n (opL cl cn V) U w' ∧ Kx w w' := by
  obtain ⟨L, D, rfl, rfl, h3⟩ := h
  refine (st_open h3.p hn cl cn hz).mono ?_
  unfold OpenIs
  rw [op_Z]
  rintro e w' ⟨rfl, F, L', hL, hO⟩
  obtain ⟨d1, b1⟩ := h3.far_t F
  have kx := Kx.of_d F (noD_t h3.p)
  unfold opL
  cases ho : (opV cl cn (vwZ L)).2.2.2 with
  | none =>
    rw [ho] at hO
    have e : L' = L := hO
    subst e
    exact ⟨rfl, ⟨L', D, rfl, rfl, hL, d1, b1, h3.tt, h3.old⟩, kx⟩
  | some i =>
    rw [ho] at hO
    obtain ⟨h8, s, p, g, c, z1, z2, z3, z4, rfl⟩ := hO
    refine ⟨rfl, ⟨_, D, ?_, rfl, hL, d1, b1, h3.tt, ?_⟩, kx⟩
    · rw [vwZ_set]; rfl
    · intro j z hj
      have hs := h3.bw.size
      by_cases hji : j = i
      · subst hji
        rw [List.getElem?_set] at hj
        simp at hj
        obtain ⟨-, rfl⟩ := hj
        exact ⟨by simp only; omega, by simp only; omega⟩
      · rw [List.getElem?_set_ne (by omega)] at hj
        exact h3.old j z hj
theorem bo_dopen (h : Bo w0 t x n V U w) (hn : 0 ≤ n) (cl : ByteArray) (cn : Bool) (hz : cl.size ≤ 140737488351232) :
    Calls Try.prog 19 #[.pointer (some ⟨x, 0, none⟩), .string cl, .bool cn] w fun e w' => e = .returned (.tuple #[.int .i64 (opV cl cn U).1, .bool (opV cl cn U).2.1, .int .i64 (opV cl cn U).2.2.1]) ∧ Bo w0 t x n V (opL cl cn U) w' ∧ Kx w w' := by
  obtain ⟨L, D, rfl, rfl, h3⟩ := h
  refine (xopen h3.d hn cl cn hz h3.bw.size).mono ?_
  unfold XOpenIs
  rintro e w' ⟨rfl, F, D', hD, hO⟩
  obtain ⟨p1, b1⟩ := h3.far_x F
  have kx := Kx.of_p F (noP_x h3.d)
  unfold opL
  cases ho : (opV cl cn (vwD D)).2.2.2 with
  | none =>
    rw [ho] at hO
    have e : D' = D := hO
    subst e
    exact ⟨rfl, ⟨L, D', rfl, rfl, p1, hD, b1, h3.tt, h3.old⟩, kx⟩
  | some i =>
    rw [ho] at hO
    obtain ⟨h8, z, rfl, rfl, z3, rfl⟩ := hO
    refine ⟨rfl, ⟨L, _, rfl, ?_, p1, hD, b1, h3.tt, h3.old⟩, kx⟩
    rw [vwD_set, Option.map_some, z3]
    rfl
def plV (V : List (Option Vw)) (i : Int) : Option Vw := if 0 ≤ i then V.getD i.toNat none else none
def drV (i : Int) (V : List (Option Vw)) : List (Option Vw) := if 0 ≤ i then V.set i.toNat none else V
theorem pl_Z (L : List (Option Ze)) (i : Int) : (plS L i).isSome = (plV (vwZ L) i).isSome := by
  unfold plS plV
  split
  · rw [List.getD_eq_getElem?_getD, List.getD_eq_getElem?_getD, vwZ_get]
    cases L[i.toNat]? with
    | none => rfl
    | some y => cases y <;> rfl
  · rfl
theorem pl_D (D : List (Option De)) (i : Int) : (plD D i).isSome = (plV (vwD D) i).isSome := by
  unfold plD plV
  split
  · rw [List.getD_eq_getElem?_getD, List.getD_eq_getElem?_getD, vwD_get]
    cases D[i.toNat]? with
    | none => rfl
    | some y => cases y <;> rfl
  · rfl
theorem bo_pdrop (h : Bo w0 t x n V U w) (i : Int) : Calls Try.prog 10 #[.pointer (some ⟨t, 0, none⟩), .int .i64 i] w fun e w' => e = .returned (.bool (plV V i).isSome) ∧ Bo w0 t x n (drV i V) U w' ∧ Kx w w' := by
  obtain ⟨L, D, rfl, rfl, h3⟩ := h
  refine (st_drop h3.p i).mono ?_
  rintro e w' ⟨rfl, hL, F⟩
  obtain ⟨d1, b1⟩ := h3.far_t F
  have kx := Kx.of_d F (noD_t h3.p)
  rw [pl_Z]
  refine ⟨rfl, ⟨_, D, ?_, rfl, hL, d1, b1, h3.tt, ?_⟩, kx⟩
  · unfold drL drV
    split
    · rw [vwZ_set]; rfl
    · rfl
  · intro j z hj
    unfold drL at hj
    split at hj
    · by_cases hji : j = i.toNat
      · subst hji
        rw [List.getElem?_set] at hj
        simp at hj
      · rw [List.getElem?_set_ne (by omega)] at hj
        exact h3.old j z hj
    · exact h3.old j z hj
theorem bo_ddrop (h : Bo w0 t x n V U w) (i : Int) : Calls Try.prog 20 #[.pointer (some ⟨x, 0, none⟩), .int .i64 i] w fun e w' => e = .returned (.bool (plV U i).isSome) ∧ Bo w0 t x n V (drV i U) w' ∧ Kx w w' := by
  obtain ⟨L, D, rfl, rfl, h3⟩ := h
  refine (xdrop h3.d i).mono ?_
  rintro e w' ⟨rfl, hD, F⟩
  obtain ⟨p1, b1⟩ := h3.far_x F
  have kx := Kx.of_p F (noP_x h3.d)
  rw [pl_D]
  refine ⟨rfl, ⟨L, _, rfl, ?_, p1, hD, b1, h3.tt, h3.old⟩, kx⟩
  unfold drD drV
  split
  · rw [vwD_set]; rfl
  · rfl
theorem bo_pfind (h : Bo w0 t x n V U w) (cl : ByteArray) : Calls Try.prog 8 #[.pointer (some ⟨t, 0, none⟩), .string cl] w fun e w' => e = .returned (.tuple #[.int .i64 (fdA (fdV cl V 0)).1, .bool (fdA (fdV cl V 0)).2]) ∧ Bo w0 t x n V U w' ∧ Kx w w' := by
  obtain ⟨L, D, rfl, rfl, h3⟩ := h
  refine (st_find h3.p cl).mono ?_
  rw [fdA_Z]
  rintro e w' ⟨rfl, hb⟩
  exact ⟨rfl, ⟨L, D, rfl, rfl, h3.ext hb⟩, Kx.of_ext hb⟩
theorem bo_dfind (h : Bo w0 t x n V U w) (cl : ByteArray) : Calls Try.prog 22 #[.pointer (some ⟨x, 0, none⟩), .string cl] w fun e w' => e = .returned (.tuple #[.int .i64 (fdA (fdV cl U 0)).1, .bool (fdA (fdV cl U 0)).2]) ∧ w = w' := by
  obtain ⟨L, D, rfl, rfl, h3⟩ := h
  exact xfind h3.d cl
def upV (c : Vw) : Vw := (c.1, c.2.1, if c.2.2 < 16 then c.2.2 + 1 else c.2.2)
theorem getZ {i : Nat} {c : Vw} (h : (vwZ L)[i]? = some (some c)) : ∃ z, L[i]? = some (some z) ∧ c = (z.cl, z.cn, z.l.length) := by
  rw [vwZ_get] at h
  cases hL : L[i]? with
  | none => rw [hL] at h; cases h
  | some y =>
    rw [hL] at h
    cases y with
    | none => cases h
    | some z => simp at h; exact ⟨z, rfl, h.symm⟩
theorem getD' {i : Nat} {c : Vw} (h : (vwD D)[i]? = some (some c)) : ∃ z, D[i]? = some (some z) ∧ c = (z.cl, z.cn, z.l.length) := by
  rw [vwD_get] at h
  cases hL : D[i]? with
  | none => rw [hL] at h; cases h
  | some y =>
    rw [hL] at h
    cases y with
    | none => cases h
    | some z => simp at h; exact ⟨z, rfl, h.symm⟩
theorem getZ0 {i : Nat} (h : (vwZ L)[i]? = some none) : L[i]? = some none := by
  rw [vwZ_get] at h
  cases hL : L[i]? with
  | none => rw [hL] at h; cases h
  | some y =>
    rw [hL] at h
    cases y with
    | none => rfl
    | some z => cases h
theorem getD0 {i : Nat} (h : (vwD D)[i]? = some none) : D[i]? = some none := by
  rw [vwD_get] at h
  cases hL : D[i]? with
  | none => rw [hL] at h; cases h
  | some y =>
    rw [hL] at h
    cases y with
    | none => rfl
    | some z => cases h
theorem Both.far_q (h : Both w0 t x n L D w) {i : Nat} {z : Ze} (hi : L[i]? = some (some z)) (F : Far (fun k => k = z.g ∨ k = z.c) w w') : Sd w' x w0.heap.size n D ∧ Below w0.heap.size w0 w' :=
  ⟨h.d.off F (noD_q h.p hi), h.bw.trans (F.below h.bw.size (fun k e => by obtain ⟨h1, h2⟩ := h.old i z hi; rcases e with rfl | rfl; exact h1; exact h2))⟩
/-- A place's session on the program's side. -/
theorem bo_pslot (h : Bo w0 t x n V U w) (hn : n ≤ 1000) {i : Nat} {c : Vw} (hi : V[i]? = some (some c)) : ∃ s : Nat,
    (∀ W, Below w.heap.size w W → Calls Try.prog 9 #[.pointer (some ⟨t, 0, none⟩), .int .i64 (i : Int)] W fun e w' => e = .returned (.pointer (some ⟨s, 0, none⟩)) ∧ W = w') ∧
    (∀ W, Below w.heap.size w W → Calls Try.prog 18 #[.pointer (some ⟨s, 0, none⟩)] W fun e w' => e = .returned (.string c.1) ∧ W = w') ∧
    (∀ W, Below w.heap.size w W → Calls Try.prog 17 #[.pointer (some ⟨s, 0, none⟩)] W fun e w' => e = .returned (.bool c.2.1) ∧ W = w') ∧
    (∀ W tp y r, Below w.heap.size w W → Calls Try.prog 15 #[.pointer (some ⟨s, 0, none⟩), .agg #[.string tp, .string y, .int .i64 1, .bool r], .int .i64 1] W fun e w' => (∃ v, e = .returned (.tuple #[.slice none 0 0, v])) ∧ Bo w0 t x (n + 1) (V.set i (some (upV c))) U w' ∧ Kx W w') := by
  obtain ⟨L, D, rfl, rfl, h3⟩ := h
  obtain ⟨z, hz, rfl⟩ := getZ hi
  refine ⟨z.s, ?_, ?_, ?_, ?_⟩
  · intro W hb
    have := st_at (h3.p.ext hb) (i : Int)
    rw [plS_in hz] at this
    exact this
  · intro W hb
    exact s_client ((h3.p.ext hb).at_ i z hz).sn
  · intro W hb
    exact s_clean ((h3.p.ext hb).at_ i z hz).sn
  · intro W tp y r hb
    have h4 := h3.ext hb
    refine (st_deliver h4.p hn hz tp y r).mono ?_
    rintro e w' ⟨⟨v, rfl⟩, hL, F⟩
    obtain ⟨d1, b1⟩ := h4.far_q hz F
    refine ⟨⟨v, rfl⟩, ⟨_, D, ?_, rfl, hL, d1.more (by omega), b1, h3.tt, ?_⟩, Kx.of_d F (noD_q h4.p hz)⟩
    · rw [vwZ_set, Option.map_some]
      congr 2
      simp only [dl, upV]
      split <;> simp
    · intro j z' hj
      by_cases hji : j = i
      · subst hji
        rw [List.getElem?_set] at hj
        simp at hj
        obtain ⟨-, rfl⟩ := hj
        exact h3.old j z hz
      · rw [List.getElem?_set_ne (by omega)] at hj
        exact h3.old j z' hj
/-- One session of the document's is told by the same blocks. -/
theorem Sd.one {B : Nat} (h : Sd w x B n D) {i : Nat} {z : De} {m : Mg} (hi : D[i]? = some (some z)) {v : Value} (hz : (dlD z m v).At w' B (n + 1)) (F : Far (SXd z) w w') (nb : ∀ k, v.ownBlock = some k → z.v.ownBlock = some k ∨ w.heap.size ≤ k) : Sd w' x B (n + 1) (D.set i (some (dlD z m v))) := by
  have hzA := h.at_ i z hi
  have old : ∀ (j : Nat) (y : De), (D.set i (some (dlD z m v)))[j]? = some (some y) → (j ≠ i ∧ D[j]? = some (some y)) ∨ (j = i ∧ y = dlD z m v) := fun j y hj => by
    by_cases hji : j = i
    · subst hji
      rw [List.getElem?_set] at hj
      simp at hj
      exact .inr ⟨rfl, hj.2.symm⟩
    · rw [List.getElem?_set_ne (by omega)] at hj
      exact .inl ⟨hji, hj⟩
  refine ⟨?_, h.old, by rw [List.length_set]; exact h.len, ?_, ?_⟩
  · have hx : ¬ SXd z x := fun e => e.elim (fun e => ne_ty h.row hzA.xq.row (by decide) e) (fun e => own_far hzA.xq.its h.row (by decide) e.symm)
    have e1 : rowD (D.set i (some (dlD z m v))) = rowD D := by
      unfold rowD
      rw [List.map_set, show cellD (some (dlD z m v)) = cellD (some z) from rfl, set_same]
      rw [List.getElem?_map, hi]
      rfl
    rw [e1]
    exact (F.block x h.lt hx).trans h.row
  · intro j y hj
    rcases old j y hj with ⟨hji, hj0⟩ | ⟨-, rfl⟩
    · have hy := h.at_ j y hj0
      obtain ⟨n1, n2⟩ := h.two j i y z hj0 hi hji
      refine (hy.far F ?_ ?_ ?_).more (by omega)
      · exact fun e => e.elim (ne_ty hy.row hzA.xq.row (by decide)) (fun e => own_far hzA.xq.its hy.row (by decide) e.symm)
      · exact fun e => e.elim n1 (fun e => own_far hzA.xq.its hy.xq.row (by decide) e.symm)
      · exact fun k hk e => e.elim (fun e => own_far hy.xq.its hzA.xq.row (by decide) (by rw [hk, e])) (fun e => n2 k hk e)
    · exact hz
  · intro j k a b hj hk hjk
    rcases old j a hj with ⟨n1, h1⟩ | ⟨n1, rfl⟩ <;> rcases old k b hk with ⟨n2, h2⟩ | ⟨n2, rfl⟩
    · exact h.two j k a b h1 h2 hjk
    · obtain ⟨m1, m2⟩ := h.two j i a z h1 hi n1
      refine ⟨m1, fun q hq e => ?_⟩
      rcases nb q e with e | e
      · exact m2 q hq e
      · obtain ⟨-, cs, hc⟩ := own_row (h.at_ j a h1).xq.its hq
        have := (Array.getElem?_eq_some_iff.1 hc).1
        omega
    · obtain ⟨m1, m2⟩ := h.two k i b z h2 hi n2
      refine ⟨fun e => m1 e.symm, fun q e hq => ?_⟩
      rcases nb q e with e | e
      · exact m2 q hq e
      · obtain ⟨-, cs, hc⟩ := own_row (h.at_ k b h2).xq.its hq
        have := (Array.getElem?_eq_some_iff.1 hc).1
        omega
    · omega
/-- A place's session on the document's side. -/
theorem bo_dslot (h : Bo w0 t x n V U w) (hn : n ≤ 1000) {i : Nat} {c : Vw} (hi : U[i]? = some (some c)) : ∃ d : Nat, w.cell? ⟨x, i, none⟩ = some (.pointer (some ⟨d, 0, none⟩)) ∧
    (∀ W tp y r, Below w.heap.size w W → Calls Try.prog 21 #[.pointer (some ⟨d, 0, none⟩), .agg #[.string tp, .string y, .int .i64 1, .bool r], .int .i64 1] W fun e w' => (∃ v, e = .returned (.tuple #[.slice none 0 0, v])) ∧ Bo w0 t x (n + 1) V (U.set i (some (upV c))) w' ∧ Kx W w' ∧ w'.cell? ⟨x, i, none⟩ = some (.pointer (some ⟨d, 0, none⟩))) := by
  obtain ⟨L, D, rfl, rfl, h3⟩ := h
  obtain ⟨z, hz, rfl⟩ := getD' hi
  refine ⟨z.d, h3.d.cell hz, ?_⟩
  intro W tp y r hb
  have h4 := h3.ext hb
  have hzA := h4.d.at_ i z hz
  refine (xdeliver hzA tp y r hn h4.bw.size).mono ?_
  rintro e w' ⟨⟨v, rfl⟩, v', hz', F, nb⟩
  refine ⟨⟨v, rfl⟩, ⟨L, _, rfl, ?_, (h4.p.off F (noP_d hzA)).more (by omega), h4.d.one hz hz' F nb, h4.bw.trans (F.below h4.bw.size ?_), h3.tt, h3.old⟩, Kx.of_p F (noP_d hzA), (h4.d.one hz hz' F nb).cell (List.getElem?_set_self (List.getElem?_eq_some_iff.1 hz).1)⟩
  · rw [vwD_set, Option.map_some]
    congr 2
    simp only [dlD, upV]
    split <;> simp
  · rintro k (rfl | e)
    · exact hzA.old
    · exact (own_row hzA.xq.its e).1
end Go.Proofs.Ytdcfenkllpfbaaa.Sns
