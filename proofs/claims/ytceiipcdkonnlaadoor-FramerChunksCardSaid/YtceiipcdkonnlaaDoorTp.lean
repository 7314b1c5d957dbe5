/-
  LAYER 12: chunks: a round's fact; append of an owned row, nil or not.
-/
import Derived.Test.YtceiipcdkonnlaaDoorTo
namespace Go.Proofs.YtceiipcdkonnlaaDoor
open Go.RowKit
set_option linter.unusedVariables false
set_option linter.unusedSimpArgs false
theorem wpList_append_rows {w : World} {ops : Array Oper} {rest : List Oper} {o : Oper} {a : Act} {Q : Exit → Act → World → Prop} (hgd : o.guard = none) (s x : Operand) (t : TypeId)
    (ho : o.op = .call { callee := .builtin .append, args := #[s, x], argTypes := #[t, t] })
    (base base' : Nat) (e : TypeId) (i : TypeInfo) (z : Value) (size bytes : Nat) (ht : Tryd.prog.underlying t = some (.slice e)) (hi : Tryd.prog.info? e = some i) (hz : i.zero = some z)
    (hsize : i.size = size) (hby : i.bytes = bytes) (hzs : z.cells.size = size) (hsz : 0 < size)
    (v : Value) (n : Nat) (xs : List Value) (hs : a.eval s = v) (hown : w.ownsRow base e size v n xs)
    (vx : Value) (m : Nat) (ys : List Value) (hx : a.eval x = vx) (hox : w.ownsRow base' e size vx m ys) (h1 : ∀ u ∈ ys, u.oneCell' = true)
    (h63 : n + m ≤ maxLen) (hbytes : (n + m) * bytes ≤ 140737488355328) (hbase : base ≤ w.heap.size)
    (h : ∀ v' w', w'.ownsRow base e size v' (n + m) (xs ++ ys) → w.grownBy w' v.ownBlock → wpList Tryd.prog ops Q rest (a.put o.dst v') w') :
    wpList Tryd.prog ops Q (o :: rest) a w := by
  have hlen := hox.1
  rcases hox.2 with ⟨rfl, hn⟩ | ⟨g, cap, cur, rfl, -⟩
  · subst hn
    have hys : ys = [] := List.eq_nil_of_length_eq_zero (by rw [hlen, Nat.zero_mul])
    subst hys
    refine wpList_append_own_none hgd s x t ho base e i size ht hi v n xs hs hown hx ?_
    exact h v w (by simpa using hown) ⟨rfl, rfl, rfl, Nat.le_refl _, fun _ _ _ => rfl⟩
  · exact wpList_append_own w hgd s x t ho base e i z size bytes ht hi hz hsize hby hzs hsz v n xs hs hown ⟨g, 0, none⟩ m cap ys hx hlen (fun j u hj => by rw [add_off', Nat.zero_add]; exact own_get hox hj) h1 h63 hbytes hbase (fun v' w' a b c => h v' w' a b)
theorem f_feedS {w : World} {B f : Nat} {v : Value} {s : St} (h : Fm w B f v s.l s.n (fltV s.d)) (hB : B ≤ w.heap.size) (x : ByteArray) (hl : s.l.length + x.size ≤ 140737488355328) (hd : s.d ≠ 0 → s.l = []) :
    Calls Tryd.prog 9 #[.pointer (some ⟨f, 0, none⟩), .string x] w fun e w' => ∃ v', e = .returned (.int .i64 0) ∧ Fm w' B f v' (s.more (nb x)).l (s.more (nb x)).n (fltV (s.more (nb x)).d) ∧ Far (FS f v) w w' ∧ ((s.more (nb x)).d ≠ 0 → (s.more (nb x)).l = []) ∧ (s.more (nb x)).l.length ≤ s.l.length + x.size ∧ (s.more (nb x)).n = s.n := by
  unfold St.more
  by_cases h0 : s.d = 0
  · rw [if_pos h0]
    have hf : Fm w B f v s.l s.n .nilIface := by have := h; rw [h0] at this; exact this
    refine (f_feed hf hB x hl).mono ?_
    rintro e w' ⟨v', rfl, h1, F, ho⟩
    exact ⟨v', rfl, h1, F, fun h => absurd rfl h, by simp [nb_length], rfl⟩
  · rw [if_neg h0]
    have hf : Fm w B f v s.l s.n (.iface 67 (.agg #[.int .i64 (s.d : Int)])) := by have := h; simpa [fltV, h0] using this
    refine (f_feed_dead hf x).mono ?_
    rintro e w' ⟨rfl, rfl⟩
    exact ⟨v, rfl, h, Far.refl _ _, hd, by omega, rfl⟩
/-- What a round has: the packets taken so far, the framer, what is left of the text. -/
def CRd (w1 wr : World) (a0 : Addr) (g : Nat) (S : St) (Lt : List Rw) (E : Nat) (N : Nat) (i : Nat) (vm : Value) (r : ByteArray) : Prop :=
  ∃ (v : Value) (t : St) (M L : List Rw), Fm wr (g + 1) g v t.l t.n (fltV t.d) ∧ wr.ownsRow w1.heap.size 35 4 vm M.length (rwsAtC M) ∧ Below w1.heap.size w1 wr ∧ Gl a0 wr ∧ (t.d ≠ 0 → t.l = []) ∧
    Runs (t.more (nb r)) L S E ∧ M ++ L = Lt ∧ t.l.length + r.size ≤ N ∧ 0 ≤ t.n ∧ t.n ≤ i ∧ M.length ≤ i
theorem chunk_same {w3 w6 w7 : World} {B f m : Nat} {v va vl v7 : Value} {l : List Nat} {n : Int} {flt : Value} {Lt M L : List Rw} {b5 : Nat} (r3 : w3.ownsRow b5 35 4 vl Lt.length (rwsAtC Lt)) (r6 : w6.ownsRow w3.heap.size 35 4 va m (rwsAtC M)) (x6 : Fm w6 B f v l n flt) (b6 : Below w3.heap.size w3 w6)
    (o7 : w7.ownsRow w3.heap.size 35 4 v7 (M.length + L.length) (rwsAtC M ++ rwsAtC L)) (g7 : w6.grownBy w7 va.ownBlock) (hML : M ++ L = Lt) (hl : Lt.length ≤ 1100) : Calls Tryd.prog 18 #[vl, v7] w7 (Yes w7) := by
  have B7 : Below w3.heap.size w3 w7 := b6.trans ((Far.of_grown (S := fun k => va.ownBlock = some k) g7 (fun k _ hk => hk)).below b6.size (fun k hk => (r6.lt k hk).1))
  have e : M.length + L.length = Lt.length := by rw [← hML, List.length_append]
  refine same_any (RwsAt.of_own (own_keep r3 B7) (by omega)) (RwsAt.of_own (B := w3.heap.size) ?_ (by omega))
  rw [e] at o7
  rw [← hML, rwsAtC_append, hML]
  exact o7
end Go.Proofs.YtceiipcdkonnlaaDoor
