/-
  LAYER 25: fill.
-/
import Derived.Test.YtceiipcdkonnlaaXa
namespace Go.Proofs.Ytceiipcdkonnlaa.Ses
open Go.RowKit Que Hp Ids Fli
set_option linter.unusedSimpArgs false
set_option linter.unusedVariables false
def vlen : Value → Nat | .slice _ n _ => n | _ => 0
theorem fl_stop {on : Bool} {T : List Bool} {L : List Se} {l : List Mg} (h : on = false ∨ l = [] ∨ ¬ L.length < 8) : fl on T L l = (T, L, l, []) := by
  cases l with
  | nil => rfl
  | cons m r =>
    rw [fl, if_neg]
    rintro ⟨rfl, h2⟩
    rcases h with h | h | h
    · cases h
    · cases h
    · exact h h2
theorem fl_step {T : List Bool} {L : List Se} {m : Mg} {r : List Mg} (h : L.length < 8) : fl true T L (m :: r) = ((fl true (tk T) (L ++ [sE T m]) r).1, (fl true (tk T) (L ++ [sE T m]) r).2.1, (fl true (tk T) (L ++ [sE T m]) r).2.2.1, sE T m :: (fl true (tk T) (L ++ [sE T m]) r).2.2.2) := by
  rw [fl, if_pos ⟨rfl, h⟩]
/-- Between two rounds of fill. -/
structure FI (A : Nat → Prop) (w wr : World) (a : Ad) (cl : ByteArray) (cn on : Bool) (T : List Bool) (L : List Se) (l : List Mg) (lost : Int) (T1 : List Bool) (L1 : List Se) (l1 : List Mg) (P : List Se) (v : Value) : Prop where
  ss : Ss (fun k => A k ∨ v.ownBlock = some k) wr a cl cn on T1 L1 l1 lost
  kp : Kp A w wr
  row : wr.ownsRow w.heap.size 78 24 v P.length (pfC P)
  eq : fl on T L l = ((fl on T1 L1 l1).1, (fl on T1 L1 l1).2.1, (fl on T1 L1 l1).2.2.1, P ++ (fl on T1 L1 l1).2.2.2)
  ln : P.length + l1.length = l.length
def FillIs (A : Nat → Prop) (w : World) (a : Ad) (cl : ByteArray) (cn on : Bool) (T : List Bool) (L : List Se) (l : List Mg) (lost : Int) (e : Ending) (w' : World) : Prop :=
  ∃ v T' L' l' P, e = .returned v ∧ Ss (fun k => A k ∨ v.ownBlock = some k) w' a cl cn on T' L' l' lost ∧ Kp A w w' ∧ w'.ownsRow w.heap.size 78 24 v P.length (pfC P) ∧ fl on T L l = (T', L', l', P)
section
variable {A : Nat → Prop} {w wr : World} {a : Ad} {cl : ByteArray} {cn on : Bool} {T T1 : List Bool} {L L1 : List Se} {l l1 : List Mg} {lost : Int} {P : List Se} {v : Value}
theorem FI.done (I : FI A w wr a cl cn on T L l lost T1 L1 l1 P v) (h : on = false ∨ l1 = [] ∨ ¬ L1.length < 8) : FillIs A w a cl cn on T L l lost (.returned v) wr := by
  refine ⟨v, T1, L1, l1, P, rfl, I.ss, I.kp, I.row, ?_⟩
  rw [I.eq, fl_stop h]
  simp
theorem FI.next {m : Mg} {r : List Mg} {bx : Nat} {w4 W6 w6 : World} {v3 : Value} (I : FI A w wr a cl cn true T L l lost T1 L1 (m :: r) P v) (hA : ∀ k, A k → k < w.heap.size) (hL : L1.length < 8)
    (kk : Kp A wr w4) (s4 : Ss (fun k => (A k ∨ v.ownBlock = some k) ∨ k = bx) w4 a cl cn true (tk T1) (L1 ++ [sE T1 m]) r lost)
    (b6 : Below w4.heap.size w4 W6) (g6 : W6.grownBy w6 v.ownBlock) (o6 : w6.ownsRow w.heap.size 78 24 v3 (P.length + 1) (pfC P ++ pf (sE T1 m))) (nb : ∀ k, v3.ownBlock = some k → v.ownBlock = some k ∨ W6.heap.size ≤ k ∧ k < w6.heap.size) :
    FI A w w6 a cl cn true T L l lost (tk T1) (L1 ++ [sE T1 m]) r (P ++ [sE T1 m]) v3 := by
  have F6 : Far (fun k => v.ownBlock = some k) W6 w6 := Far.of_grown g6 (fun k _ e => e)
  refine ⟨(s4.ext b6).others F6 (fun k hk => .inl (.inr hk)) ?_, (I.kp.trans kk).trans ((Kp.of_ext b6).trans (F6.mono fun k _ hk hk2 => ?_)), by rw [pfC_snoc]; simpa using o6, ?_, by have := I.ln; simp at this ⊢; omega⟩
  · rintro k (hk | hk)
    · exact .inl (.inl (.inl hk))
    · rcases nb k hk with e | e
      · exact .inl (.inl (.inr e))
      · exact .inr e
  · have := (I.row.lt k hk).1
    have := hA k hk2
    omega
  · rw [I.eq, fl_step hL]
    simp
end
theorem send_end {A : Nat → Prop} {w wr w2 w3 W w4 : World} {a : Ad} {cl : ByteArray} {cn on : Bool} {T1 T2 : List Bool} {L1 L2 : List Se} {r : List Mg} {lost : Int} {v : Value} {m : Mg} {n : Nat} {xs : List Value}
    (S3 : Ss (fun k => (A k ∨ v.ownBlock = some k) ∨ k = w2.heap.size) w3 a cl cn on T1 L1 r lost) (K3 : Kp A wr w3)
    (R3 : w3.heap[w2.heap.size]? = some (.cells #[.string m.a0, .string m.a1, .int .i64 m.a2, .bool m.a3] 30 (0, 0))) (O3 : w3.ownsRow w.heap.size 78 24 v n xs) (hb : Below w3.heap.size w3 W)
    (f4 : Fs (AX (fun k => (A k ∨ v.ownBlock = some k) ∨ k = w2.heap.size) a) w4 a.f a.g T2 L2) (k4 : Kp (AX (fun k => (A k ∨ v.ownBlock = some k) ∨ k = w2.heap.size) a) W w4) :
    Ss (fun k => (A k ∨ v.ownBlock = some k) ∨ k = w2.heap.size) w4 a cl cn on T2 L2 r lost ∧ Kp A wr w4 ∧ w4.heap[w2.heap.size]? = some (.cells #[.string m.a0, .string m.a1, .int .i64 m.a2, .bool m.a3] 30 (0, 0)) ∧ w4.ownsRow w.heap.size 78 24 v n xs := by
  have hl : w2.heap.size < w3.heap.size := (Array.getElem?_eq_some_iff.1 R3).1
  obtain ⟨S4, K4⟩ := (S3.ext hb).onF f4 k4
  refine ⟨S4, (K3.trans (Kp.of_ext hb)).trans (K4.mono fun k _ e hk => e (.inl (.inl hk))), ?_, own_fars (own_keep O3 hb) K4 (fun k hk e => e (.inl (.inr hk)))⟩
  exact (K4.block _ (Nat.lt_of_lt_of_le hl hb.size) (fun e => e (.inr rfl))).trans ((hb.block _ hl).trans R3)
theorem msg_cells {A : Nat → Prop} {w4 W : World} {a : Ad} {cl : ByteArray} {cn on : Bool} {T1 : List Bool} {L1 : List Se} {r : List Mg} {lost : Int} {m : Mg} {bx : Nat}
    (h : Ss A w4 a cl cn on T1 L1 r lost) (R : w4.heap[bx]? = some (.cells #[.string m.a0, .string m.a1, .int .i64 m.a2, .bool m.a3] 30 (0, 0))) (hb : Below w4.heap.size w4 W) :
    W.cell? ⟨a.s, 3, none⟩ = some (.pointer (some ⟨a.ps, 0, none⟩)) ∧ W.cell? ⟨a.ps, 1, none⟩ = some (.pointer (some ⟨a.f, 0, none⟩)) ∧ W.cell? ⟨bx, 0, none⟩ = some (.string m.a0) ∧ W.cell? ⟨bx, 1, none⟩ = some (.string m.a1) ∧ W.cell? ⟨bx, 2, none⟩ = some (.int .i64 m.a2) ∧ W.cell? ⟨bx, 3, none⟩ = some (.bool m.a3) := by
  have R' := (hb.block bx (Array.getElem?_eq_some_iff.1 R).1).trans R
  exact ⟨(h.ext hb).s3, (h.ext hb).p1, cell_of_row _ _ 0 _ 30 (0, 0) R', cell_of_row _ _ 1 _ 30 (0, 0) R', cell_of_row _ _ 2 _ 30 (0, 0) R', cell_of_row _ _ 3 _ 30 (0, 0) R'⟩
set_option maxHeartbeats 8000000 in
set_option maxRecDepth 100000 in
theorem fill_any {A : Nat → Prop} {w : World} {a : Ad} {cl : ByteArray} {cn on : Bool} {T : List Bool} {L : List Se} {l : List Mg} {lost : Int} (h : Ss A w a cl cn on T L l lost) (hA : ∀ k, A k → k < w.heap.size) : Calls Try.prog 36 #[.pointer (some ⟨a.s, 0, none⟩)] w (FillIs A w a cl cn on T L l lost) := by
  obtain ⟨i3, hi3, hz0, hz1, hz2⟩ := info_parts info78
  have I0 : Hid (FI A w w a cl cn on T L l lost T L l [] (.slice none 0 0)) := Lib.hid ⟨h.weaken (fun k hk => hk.elim id (fun e => by cases e)), Far.refl _ _, World.ownsRow_nil _ _ _ _, by simp, by simp⟩
  have hle := h.le
  replace h := Lib.hid h
  go_enter Try.func36, Try.ntmps36
  go_wp2_with fail
  go_loopw [3] (fun v wr => ∃ (T1 : List Bool) (L1 : List Se) (l1 : List Mg) (P : List Se), FI A w wr a cl cn on T L l lost T1 L1 l1 P v) (fun v _ => 17 - vlen v)
  case atStart => exact ⟨_, _, _, _, I0.out⟩
  case round =>
    obtain ⟨T1, L1, l1, P, I⟩ := hrel
    obtain ⟨va, vc, rfl⟩ := own_slice I.row
    have s2 := I.ss.s2
    have s3 := I.ss.s3
    have p0 := I.ss.p0
    have p1 := I.ss.p1
    have hl1 : l1.length ≤ 16 := I.ss.le
    have hP : P.length ≤ 16 := by have := I.ln; omega
    have QL := Lib.hid (Quu.len_any I.ss.qu (by omega))
    have FL := Lib.hid (f_len I.ss.fs)
    replace I := Lib.hid I
    cases on with
    | false =>
      go_wp2_with fail
      go_ret
      exact I.out.done (.inl rfl)
    | true =>
      cases l1 with
      | nil =>
        go_wp2_with fail
        refine QL.out.mono ?_
        rintro e w1 ⟨rfl, rfl⟩
        go_wp2_with fail
        go_ret
        exact I.out.done (.inr (.inl rfl))
      | cons m r =>
        have hr0 : (0 : Int) < ((m :: r).length : Nat) := by simp
        by_cases hL : L1.length < 8
        · have hL' : (L1.length : Int) < 8 := by omega
          have hql := I.out.ss.ql m (by simp)
          have hqr : ∀ x ∈ r, x.a2 = 1 ∨ x.a2 = 2 := fun x hx => I.out.ss.ql x (by simp [hx])
          have TK := Quu.take_yes I.out.ss.qu
          unfold Mg.v at TK
          replace TK := Lib.hid TK
          go_wp2_with fail
          refine QL.out.mono ?_
          rintro e w1 ⟨rfl, rfl⟩
          go_wp2_with fail
          refine FL.out.mono ?_
          rintro e w1 ⟨rfl, rfl⟩
          go_wp2_with fail
          refine TK.out.mono ?_
          rintro e w2 ⟨rfl, q2, g2⟩
          have hle2 : r.length ≤ 16 := by simp at hl1; omega
          obtain ⟨S2, K2⟩ := I.out.ss.onQ q2 g2 (.inl rfl) hle2 hqr
          have S3 : Hid (Ss (fun k => (A k ∨ (Value.slice va P.length vc).ownBlock = some k) ∨ k = w2.heap.size) (w2.alloc (.cells #[.string m.a0, .string m.a1, .int .i64 m.a2, .bool m.a3] 30)) a cl cn true T1 L1 r lost) := Lib.hid (S2.others (S := fun _ => False) (Far.of_ext (ext_alloc _ _)) (fun _ e => e.elim) (fun k hk => hk.imp id (fun e => by subst e; exact ⟨Nat.le_refl _, by simp⟩)))
          have R3 := Lib.hid (heap_alloc_new w2 (.cells #[.string m.a0, .string m.a1, .int .i64 m.a2, .bool m.a3] 30))
          have K3 : Hid (Kp A wr (w2.alloc (.cells #[.string m.a0, .string m.a1, .int .i64 m.a2, .bool m.a3] 30))) := Lib.hid (Kp.trans (show Kp A wr w2 from K2.mono (fun k _ e hk => e (.inl hk))) (Kp.of_ext (ext_alloc _ _)))
          have O3 : Hid ((w2.alloc (.cells #[.string m.a0, .string m.a1, .int .i64 m.a2, .bool m.a3] 30)).ownsRow w.heap.size 78 24 (.slice va P.length vc) P.length (pfC P)) := Lib.hid (own_keep (own_fars I.out.row K2 (fun k hk e => e (.inr hk))) (ext_alloc _ _))
          clear S2 K2 q2 g2 TK QL FL s2 s3 p0 p1
          have s3 := S3.out.s3
          have p1 := S3.out.p1
          have d0 : (w2.alloc (.cells #[.string m.a0, .string m.a1, .int .i64 m.a2, .bool m.a3] 30)).cell? ⟨w2.heap.size, 0, none⟩ = some (.string m.a0) := cell_of_row _ _ 0 _ 30 (0, 0) R3.out
          have d1 : (w2.alloc (.cells #[.string m.a0, .string m.a1, .int .i64 m.a2, .bool m.a3] 30)).cell? ⟨w2.heap.size, 1, none⟩ = some (.string m.a1) := cell_of_row _ _ 1 _ 30 (0, 0) R3.out
          have d2 : (w2.alloc (.cells #[.string m.a0, .string m.a1, .int .i64 m.a2, .bool m.a3] 30)).cell? ⟨w2.heap.size, 2, none⟩ = some (.int .i64 m.a2) := cell_of_row _ _ 2 _ 30 (0, 0) R3.out
          have d3 : (w2.alloc (.cells #[.string m.a0, .string m.a1, .int .i64 m.a2, .bool m.a3] 30)).cell? ⟨w2.heap.size, 3, none⟩ = some (.bool m.a3) := cell_of_row _ _ 3 _ 30 (0, 0) R3.out
          have SE := Lib.hid (fun W (hb : Below (w2.alloc (.cells #[.string m.a0, .string m.a1, .int .i64 m.a2, .bool m.a3] 30)).heap.size (w2.alloc (.cells #[.string m.a0, .string m.a1, .int .i64 m.a2, .bool m.a3] 30)) W) => send_ok (S3.out.ext hb).fs m.a0 m.a1 m.a2 m.a3 hql hL)
          have KO := Lib.hid (fun W (hb : Below (w2.alloc (.cells #[.string m.a0, .string m.a1, .int .i64 m.a2, .bool m.a3] 30)).heap.size (w2.alloc (.cells #[.string m.a0, .string m.a1, .int .i64 m.a2, .bool m.a3] 30)) W) => (show W.cell? ⟨a.s, 3, none⟩ = some (.pointer (some ⟨a.ps, 0, none⟩)) ∧ W.cell? ⟨a.ps, 1, none⟩ = some (.pointer (some ⟨a.f, 0, none⟩)) ∧ W.cell? ⟨w2.heap.size, 0, none⟩ = some (.string m.a0) ∧ W.cell? ⟨w2.heap.size, 1, none⟩ = some (.string m.a1) ∧ W.cell? ⟨w2.heap.size, 2, none⟩ = some (.int .i64 m.a2) ∧ W.cell? ⟨w2.heap.size, 3, none⟩ = some (.bool m.a3) from
            ⟨(S3.out.ext hb).s3, (S3.out.ext hb).p1, (hb.cell (by simp)).trans d0, (hb.cell (by simp)).trans d1, (hb.cell (by simp)).trans d2, (hb.cell (by simp)).trans d3⟩))
          go_wp2_with fail
          generalize hMA : (w2.alloc (.cells #[.string m.a0, .string m.a1, .int .i64 m.a2, .bool m.a3] 30)) = w3 at *
          go_region_held3 (fun W => W.cell? ⟨a.s, 3, none⟩ = some (.pointer (some ⟨a.ps, 0, none⟩)) ∧ W.cell? ⟨a.ps, 1, none⟩ = some (.pointer (some ⟨a.f, 0, none⟩)) ∧ W.cell? ⟨w2.heap.size, 0, none⟩ = some (.string m.a0) ∧ W.cell? ⟨w2.heap.size, 1, none⟩ = some (.string m.a1) ∧ W.cell? ⟨w2.heap.size, 2, none⟩ = some (.int .i64 m.a2) ∧ W.cell? ⟨w2.heap.size, 3, none⟩ = some (.bool m.a3))
            (first | exact KO.out _ (by first | exact Below.refl _ _ | exact ext_drew _ | assumption) | exact KA.out _ (by first | exact Below.refl _ _ | exact ext_drew _ | assumption))
            (first
              | (go_at_call 56; refine (SE.out _ (by first | exact Below.refl _ _ | exact ext_drew _ | assumption)).mono ?_; rintro e w4 ⟨rfl, f4, k4⟩; have X4 : Hid (Ss (fun k => (A k ∨ (Value.slice va P.length vc).ownBlock = some k) ∨ k = w2.heap.size) w4 a cl cn true (tk T1) (L1 ++ [sE T1 m]) r lost ∧ Kp A wr w4 ∧ w4.heap[w2.heap.size]? = some (.cells #[.string m.a0, .string m.a1, .int .i64 m.a2, .bool m.a3] 30 (0, 0)) ∧ w4.ownsRow w.heap.size 78 24 (.slice va P.length vc) P.length (pfC P)) := Lib.hid (send_end S3.out K3.out R3.out O3.out (by first | exact Below.refl _ _ | exact ext_drew _) f4 k4); clear f4 k4; have KA := Lib.hid (fun W (hb : Below w4.heap.size w4 W) => msg_cells X4.out.1 X4.out.2.2.1 hb)))
          all_goals
            obtain ⟨s4, k4, r4, o4⟩ := X4.out
            clear KA KO SE s3 p1 d0 d1 d2 d3 hMA
            have b0 : w4.cell? ⟨w2.heap.size, 0, none⟩ = some (.string m.a0) := cell_of_row _ _ 0 _ 30 (0, 0) r4
            have b1 : w4.cell? ⟨w2.heap.size, 1, none⟩ = some (.string m.a1) := cell_of_row _ _ 1 _ 30 (0, 0) r4
            have b2 : w4.cell? ⟨w2.heap.size, 2, none⟩ = some (.int .i64 m.a2) := cell_of_row _ _ 2 _ 30 (0, 0) r4
            have b3 : w4.cell? ⟨w2.heap.size, 3, none⟩ = some (.bool m.a3) := cell_of_row _ _ 3 _ 30 (0, 0) r4
            have oA := Lib.hid (own_keep o4 (ext_alloc w4 (.cells #[.int .i64 3, .int .i64 ((nxt T1 : Int) + 1), .bool false, .string m.a0, .string m.a1, .int .i64 m.a2, .bool m.a3, .int .i64 0, .bool false, .int .i64 0, .string { data := #[] }, .bool false, .string { data := #[] }, .string { data := #[] }, .int .i64 0, .bool false, .bool false, .string { data := #[] }, .bool false, .string { data := #[] }, .bool false, .int .i64 0, .slice none 0 0, .slice none 0 0] 78)))
            have sz4 := Lib.hid (show w.heap.size ≤ w4.heap.size from Nat.le_trans I.out.kp.size k4.size)
            have hnew : Hid (∀ j u, ([.int .i64 3, .int .i64 ((nxt T1 : Int) + 1), .bool false, .string m.a0, .string m.a1, .int .i64 m.a2, .bool m.a3, .int .i64 0, .bool false, .int .i64 0, .string { data := #[] }, .bool false, .string { data := #[] }, .string { data := #[] }, .int .i64 0, .bool false, .bool false, .string { data := #[] }, .bool false, .string { data := #[] }, .bool false, .int .i64 0, .slice none 0 0, .slice none 0 0] : List Value)[j]? = some u → (w4.alloc (.cells #[.int .i64 3, .int .i64 ((nxt T1 : Int) + 1), .bool false, .string m.a0, .string m.a1, .int .i64 m.a2, .bool m.a3, .int .i64 0, .bool false, .int .i64 0, .string { data := #[] }, .bool false, .string { data := #[] }, .string { data := #[] }, .int .i64 0, .bool false, .bool false, .string { data := #[] }, .bool false, .string { data := #[] }, .bool false, .int .i64 0, .slice none 0 0, .slice none 0 0] 78)).cell? ((⟨w4.heap.size, 0, none⟩ : Addr).add j) = some u) := Lib.hid (by
              intro j u hj
              have := cell_of_row (w4.alloc (.cells #[.int .i64 3, .int .i64 ((nxt T1 : Int) + 1), .bool false, .string m.a0, .string m.a1, .int .i64 m.a2, .bool m.a3, .int .i64 0, .bool false, .int .i64 0, .string { data := #[] }, .bool false, .string { data := #[] }, .string { data := #[] }, .int .i64 0, .bool false, .bool false, .string { data := #[] }, .bool false, .string { data := #[] }, .bool false, .int .i64 0, .slice none 0 0, .slice none 0 0] 78)) w4.heap.size j _ 78 (0, 0) (heap_alloc_new w4 _)
              rw [add_off', Nat.zero_add, this, ← hj]
              exact List.getElem?_toArray)
            have hpo : Hid (∀ u ∈ ([.int .i64 3, .int .i64 ((nxt T1 : Int) + 1), .bool false, .string m.a0, .string m.a1, .int .i64 m.a2, .bool m.a3, .int .i64 0, .bool false, .int .i64 0, .string { data := #[] }, .bool false, .string { data := #[] }, .string { data := #[] }, .int .i64 0, .bool false, .bool false, .string { data := #[] }, .bool false, .string { data := #[] }, .bool false, .int .i64 0, .slice none 0 0, .slice none 0 0] : List Value), u.oneCell' = true) := Lib.hid (pf_one (sE T1 m))
            have NX := Lib.hid (fun W6 w6 v3 b6 g6 o6 nb => I.out.next (W6 := W6) (w6 := w6) (v3 := v3) hA hL k4 s4 b6 g6 o6 nb)
            clear s4 k4 r4 o4 X4 S3 K3 R3 O3
            go_wp2_with (first
              | (at_builtin; go_loud (refine wpList_append_own_at _ rfl (.tmp 59) (.tmp 63) 31 rfl w.heap.size 78 i3 zP 24 280 Try.underlying31 hi3 hz0 hz1 hz2 rfl (by decide) (.slice va P.length vc) P.length (pfC P) rfl oA.out ⟨w4.heap.size, 0, none⟩ 1 1 [.int .i64 3, .int .i64 ((nxt T1 : Int) + 1), .bool false, .string m.a0, .string m.a1, .int .i64 m.a2, .bool m.a3, .int .i64 0, .bool false, .int .i64 0, .string { data := #[] }, .bool false, .string { data := #[] }, .string { data := #[] }, .int .i64 0, .bool false, .bool false, .string { data := #[] }, .bool false, .string { data := #[] }, .bool false, .int .i64 0, .slice none 0 0, .slice none 0 0] rfl rfl hnew.out hpo.out (by unfold maxLen; omega) (by omega) (by have := sz4.out; simp; omega) ?_); intro v3 w6 o3 g3 _ hat))
            have nb : ∀ k, v3.ownBlock = some k → (Value.slice va P.length vc).ownBlock = some k ∨ _ ≤ k ∧ k < w6.heap.size := fun k hk => hat.elim (fun e => .inl (e ▸ hk)) (fun e => .inr ⟨by rw [e] at hk; simp only [Option.some.injEq] at hk; exact Nat.le_of_eq hk, (o3.lt k hk).2⟩)
            have FN := Lib.hid (NX.out _ w6 v3 (ext_alloc w4 _) g3 o3 nb)
            obtain ⟨va3, vc3, rfl⟩ := own_slice o3
            go_roundw
            case rel => exact ⟨_, _, _, _, FN.out⟩
            case measure => simp only [vlen]; omega
        · have hL' : ¬ (L1.length : Int) < 8 := by omega
          go_wp2_with fail
          refine QL.out.mono ?_
          rintro e w1 ⟨rfl, rfl⟩
          go_wp2_with fail
          refine FL.out.mono ?_
          rintro e w1 ⟨rfl, rfl⟩
          go_wp2_with fail
          go_ret
          exact I.out.done (.inr (.inr hL))
end Go.Proofs.Ytceiipcdkonnlaa.Ses
