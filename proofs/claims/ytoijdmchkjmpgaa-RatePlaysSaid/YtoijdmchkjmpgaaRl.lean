/-
  LAYER 35: both rates; a text in a list.
-/
import Derived.Test.YtoijdmchkjmpgaaRk
namespace Go.Proofs.Ytoijdmchkjmpgaa.Rte
open Go.RowKit Que Hp Hg
theorem may_congr {gap : Int} {L G : List Gr} (hl : ∀ y, lst L y = lst G y) (hn : L.length = G.length) (k : ByteArray) (now : Int) : may gap L k now = may gap G k now := by
  unfold may; rw [hl, hn]
theorem xnew_bad (n : Int) (w : World) (h : ¬ (0 ≤ n ∧ n ≤ 1073741824)) : Calls Try.prog 42 #[.int .i64 n] w fun e w' => e = .returned (.tuple #[.pointer none, .int .i64 1]) ∧ w = w' := by
  by_cases h1 : n < 0
  · clear h
    go_enter Try.func42, Try.ntmps42
    go_wp2
    go_ret2
    exact ⟨rfl, rfl⟩
  · have h2 : 1073741824 < n := by omega
    clear h
    go_enter Try.func42, Try.ntmps42
    go_wp2
    go_ret2
    exact ⟨rfl, rfl⟩
theorem xnew_any (B : Nat) (n : Int) (w : World) (h : 0 ≤ n ∧ n ≤ 1073741824) : Calls Try.prog 42 #[.int .i64 n] w fun e w' => e = .returned (.tuple #[.pointer (some ⟨w.heap.size, 0, none⟩), .int .i64 0]) ∧ Xs B w' w.heap.size n (.slice none 0 0) [] ∧ Below w.heap.size w w' ∧ w'.heap.size = w.heap.size + 1 := by
  have b1 := h.1
  have b2 := h.2
  have h' := Lib.hid h
  clear h
  go_enter Try.func42, Try.ntmps42
  go_wp2
  go_ret2
  exact ⟨rfl, ⟨⟨heap_alloc_new w _, World.ownsRow_nil _ _ _ _⟩, List.Pairwise.nil, by simp, by simp, h'.out, fun _ => rfl⟩, ext_alloc w _, by simp⟩
section
variable {A A' S : Nat → Prop} {B : Nat} {w W W' : World} {g x : Nat} {gap : Int} {v : Value} {G L G2 L2 : List Gr}
theorem Rt.far (h : Rt B W g gap v G) (F : Far S W W') (h1 : ¬ S g) (h2 : ∀ k, v.ownBlock = some k → ¬ S k) : Rt B W' g gap v G :=
  ⟨(F.block g h.lt h1).trans h.row, own_fars h.its F h2⟩
theorem Rs.others (h : Rs A W g gap G) (F : Far S W W') (hS : ∀ k, S k → A k) (hA : ∀ k, A' k → A k ∨ W.heap.size ≤ k ∧ k < W'.heap.size) : Rs A' W' g gap G := by
  obtain ⟨v, G', r, p, hp, av⟩ := h.ex
  refine ⟨⟨v, G', r.far F (fun e => (av g (hS g e)).2 (.inl rfl)) (fun k hk e => (av k (hS k e)).2 (.inr hk)), p, hp, fun k hk => ?_⟩, h.nd, h.le, h.ge, h.gp⟩
  rcases hA k hk with e | ⟨e1, e2⟩
  · exact ⟨Nat.lt_of_lt_of_le (av k e).1 F.size, (av k e).2⟩
  · refine ⟨e2, ?_⟩
    rintro (e | e)
    · have := r.lt; omega
    · have := (r.its.lt k e).2; omega
def AZ (w : World) (x : Nat) (v : Value) (k : Nat) : Prop := k < w.heap.size ∨ k = x ∨ v.ownBlock = some k
/-- The program's rate G, the document's L. -/
structure RS (w W : World) (g x : Nat) (gap : Int) (v : Value) (G L : List Gr) : Prop where
  rs : Rs (AZ w x v) W g gap G
  xs : Xs w.heap.size W x gap v L
  bw : Below w.heap.size w W
  lx : w.heap.size ≤ x
theorem RS.ext (h : RS w W g x gap v G L) (hb : Below W.heap.size W W') : RS w W' g x gap v G L := ⟨h.rs.ext hb, h.xs.ext hb, ext_trans h.bw hb, h.lx⟩
theorem RS.onP (h : RS w W g x gap v G L) (r : Rs (AZ w x v) W' g gap G2) (k : Kp (AZ w x v) W W') : RS w W' g x gap v G2 L :=
  ⟨r, h.xs.far k (fun e => e (.inr (.inl rfl))) (fun _ hk e => e (.inr (.inr hk))), h.bw.trans (k.below h.bw.size (fun _ h => .inl h)), h.lx⟩
theorem RS.onX {v' : Value} (h : RS w W g x gap v G L) (xs : Xs w.heap.size W' x gap v' L2) (F : Far (SI x v) W W') (nb : ∀ k, v'.ownBlock = some k → v.ownBlock = some k ∨ W.heap.size ≤ k) : RS w W' g x gap v' G L2 := by
  refine ⟨h.rs.others F (fun k hk => hk.elim (fun e => .inr (.inl e)) (fun e => .inr (.inr e))) ?_, xs, h.bw.trans (F.below h.bw.size (fun k hk => ?_)), h.lx⟩
  · rintro k (hk | hk | hk)
    · exact .inl (.inl hk)
    · exact .inl (.inr (.inl hk))
    · rcases nb k hk with e | e
      · exact .inl (.inr (.inr e))
      · exact .inr ⟨e, (xs.r.its.lt k hk).2⟩
  · rcases hk with e | e
    · have := h.lx; omega
    · exact (h.xs.r.its.lt k e).1
/-- The two tell the same. -/
def Eq2 (G L : List Gr) : Prop := (∀ y, lst L y = lst G y) ∧ L.length = G.length
theorem eq2_upd {b : Bool} {k : ByteArray} {now : Int} (h : Eq2 G L) (a1 : Asked b k now G G2) (a2 : Asked b k now L L2) : Eq2 G2 L2 := by
  cases b
  · rw [a1.2 rfl, a2.2 rfl]; exact h
  · obtain ⟨u1, u2⟩ := a1.1 rfl
    obtain ⟨t1, t2⟩ := a2.1 rfl
    refine ⟨fun y => by rw [u1, t1, h.1], ?_⟩
    rw [u2, t2, h.1, h.2]
theorem mem_keys (k : ByteArray) : (lst L k).isSome = decide (k.toList ∈ keysOf L) := by
  cases hl : lst L k with
  | none =>
    symm
    rw [Option.isSome_none]
    refine decide_eq_false fun hm => ?_
    unfold keysOf at hm
    obtain ⟨e, he, hek⟩ := List.mem_map.1 hm
    exact lst_none hl e he (kl_inj hek)
  | some t =>
    symm
    rw [Option.isSome_some]
    refine decide_eq_true ?_
    obtain ⟨e, he, rfl, -⟩ := lst_some hl
    unfold keysOf
    exact List.mem_map.2 ⟨e, he, rfl⟩
set_option maxRecDepth 100000 in
theorem inlist_any {n : Nat} {K : List (List UInt8)} (o : W.ownsRow B 9 1 v n (K.map encStr)) (hn : n = K.length) (hK : K.length ≤ 1000) (s : ByteArray) : Calls Try.prog 51 #[v, .string s] W fun e w' => e = .returned (.bool (decide (s.toList ∈ K))) ∧ W = w' := by
  subst hn
  obtain ⟨a, c, hv⟩ := own_slice o
  subst hv
  have hK' : (K.length : Int) ≤ 1000 := by omega
  replace o := Lib.hid o
  go_enter Try.func51, Try.ntmps51
  go_wp2_with fail
  go_loopw [5] (fun iv wr => ∃ i : Nat, iv = .int .i64 (i : Int) ∧ i ≤ K.length ∧ s.toList ∉ K.take i ∧ W = wr) (fun iv _ => K.length - (intOf iv).toNat)
  case atStart => exact ⟨0, rfl, by omega, by simp, rfl⟩
  case round =>
    obtain ⟨i, rfl, hi, hno, rfl⟩ := hrel
    by_cases hlt : i < K.length
    · have hlt' : (i : Int) < (K.length : Int) := by omega
      obtain ⟨y, hy⟩ : ∃ y : ByteArray, K[i]? = some y.toList := ⟨⟨K[i].toArray⟩, by rw [List.getElem?_eq_getElem hlt, ByteArray.toList_eq]⟩
      obtain ⟨gb, cb, hv2⟩ := own_slice' o.out (by omega)
      have q0 : W.cell? ⟨gb, i, none⟩ = some (.string y) := by
        have oo := o.out
        rw [hv2] at oo
        exact own_get oo (by rw [List.getElem?_map, hy]; simp [enc_k])
      simp only [Value.slice.injEq] at hv2
      obtain ⟨rfl, -, rfl⟩ := hv2
      have hyK := List.mem_of_getElem? hy
      obtain ⟨hi1, hi2⟩ := List.getElem?_eq_some_iff.1 hy
      by_cases he : y = s
      · subst he
        have hd : decide (y.toList ∈ K) = true := decide_eq_true hyK
        replace hd := Lib.hid hd
        clear hy hno hyK hi2
        go_wp2_with fail
        go_ret
        exact ⟨by rw [hd.out]; rfl, rfl⟩
      · have hne : (y.toList == s.toList) = false := by rw [eqS]; exact decide_eq_false he
        have hno2 : s.toList ∉ K.take (i + 1) := by
          rw [List.take_succ_eq_append_getElem hi1, hi2]
          simp
          exact ⟨hno, fun e => he (kl_inj e.symm)⟩
        replace hno2 := Lib.hid hno2
        clear hy hno hyK hi2 he
        go_wp2_with fail
        go_roundw
        case rel => exact ⟨i + 1, by simp, by omega, hno2.out, trivial⟩
        case measure => simp [intOf]; omega
    · obtain rfl : i = K.length := by omega
      rw [List.take_length] at hno
      have hd : decide (s.toList ∈ K) = false := decide_eq_false hno
      replace hd := Lib.hid hd
      clear hno hi hlt
      go_wp2_with fail
      go_ret
      exact ⟨by rw [hd.out]; rfl, rfl⟩
end
end Go.Proofs.Ytoijdmchkjmpgaa.Rte
