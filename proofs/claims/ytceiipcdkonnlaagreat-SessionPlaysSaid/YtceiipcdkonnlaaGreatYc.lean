/-
  LAYER 25: the document's fill.
-/
import Derived.Test.YtceiipcdkonnlaaGreatYa
namespace Go.Proofs.YtceiipcdkonnlaaGreat.Ses
open Go.RowKit Que Hp Ids Fli
set_option linter.unusedSimpArgs false
set_option linter.unusedVariables false
structure FX (A : Nat → Prop) (w wr : World) (d : Ax) (cl : ByteArray) (cn on : Bool) (T : List Bool) (L : List Se) (l : List Mg) (lost : Int) (T1 : List Bool) (L1 : List Se) (l1 : List Mg) (P : List Se) (v vq vf : Value) : Prop where
  ss : Xs (fun k => A k ∨ v.ownBlock = some k) wr d cl cn on vq vf L1 l1 lost
  tks : Tk T1 L1
  kp : Kp A w wr
  row : wr.ownsRow w.heap.size 72 24 v P.length (pfC P)
  eq : fl on T L l = ((fl on T1 L1 l1).1, (fl on T1 L1 l1).2.1, (fl on T1 L1 l1).2.2.1, P ++ (fl on T1 L1 l1).2.2.2)
  ln : P.length + l1.length = l.length
def XFillIs (A : Nat → Prop) (w : World) (d : Ax) (cl : ByteArray) (cn on : Bool) (T : List Bool) (L : List Se) (l : List Mg) (lost : Int) (e : Ending) (w' : World) : Prop :=
  ∃ v vq vf T' L' l' P, e = .returned v ∧ Xs (fun k => A k ∨ v.ownBlock = some k) w' d cl cn on vq vf L' l' lost ∧ Tk T' L' ∧ Kp A w w' ∧ w'.ownsRow w.heap.size 72 24 v P.length (pfC P) ∧ fl on T L l = (T', L', l', P)
section
variable {A : Nat → Prop} {w wr : World} {d : Ax} {cl : ByteArray} {cn on : Bool} {T T1 : List Bool} {L L1 : List Se} {l l1 : List Mg} {lost : Int} {P : List Se} {v vq vf vf' : Value}
theorem FX.done (I : FX A w wr d cl cn on T L l lost T1 L1 l1 P v vq vf) (h : on = false ∨ l1 = [] ∨ ¬ L1.length < 8) : XFillIs A w d cl cn on T L l lost (.returned v) wr := by
  refine ⟨v, vq, vf, T1, L1, l1, P, rfl, I.ss, I.tks, I.kp, I.row, ?_⟩
  rw [I.eq, fl_stop h]
  simp
theorem FX.next {m : Mg} {r : List Mg} {bx : Nat} {w4 W6 w6 : World} {v3 vq' : Value} (I : FX A w wr d cl cn true T L l lost T1 L1 (m :: r) P v vq vf) (hA : ∀ k, A k → k < w.heap.size) (hL : L1.length < 8)
    (kk : Kp A wr w4) (s4 : Xs (fun k => (A k ∨ v.ownBlock = some k) ∨ k = bx) w4 d cl cn true vq' vf' (L1 ++ [sE T1 m]) r lost)
    (b6 : Below w4.heap.size w4 W6) (g6 : W6.grownBy w6 v.ownBlock) (o6 : w6.ownsRow w.heap.size 72 24 v3 (P.length + 1) (pfC P ++ pf (sE T1 m))) (nb : ∀ k, v3.ownBlock = some k → v.ownBlock = some k ∨ W6.heap.size ≤ k ∧ k < w6.heap.size) :
    FX A w w6 d cl cn true T L l lost (tk T1) (L1 ++ [sE T1 m]) r (P ++ [sE T1 m]) v3 vq' vf' := by
  have F6 : Far (fun k => v.ownBlock = some k) W6 w6 := Far.of_grown g6 (fun k _ e => e)
  refine ⟨(s4.ext b6).others F6 (fun k hk => .inl (.inr hk)) ?_, I.tks.next m, (I.kp.trans kk).trans ((Kp.of_ext b6).trans (F6.mono fun k _ hk hk2 => ?_)), by rw [pfC_snoc]; simpa using o6, ?_, by have := I.ln; simp at this ⊢; omega⟩
  · rintro k (hk | hk)
    · exact .inl (.inl (.inl hk))
    · rcases nb k hk with e | e
      · exact .inl (.inl (.inr e))
      · exact .inr e
  · have := (I.row.lt k hk).1
    have := hA k hk2
    omega
  · rw [I.eq, fl_step hL]
    simp
end
theorem xsend_end {A : Nat → Prop} {w wr w2 w3 W w4 : World} {d : Ax} {cl : ByteArray} {cn on : Bool} {L1 L2 : List Se} {r : List Mg} {lost : Int} {v vq vf vf' : Value} {m : Mg} {n : Nat} {xs : List Value}
    (S3 : Xs (fun k => (A k ∨ v.ownBlock = some k) ∨ k = w2.heap.size) w3 d cl cn on vq vf L1 r lost) (K3 : Kp A wr w3)
    (R3 : w3.heap[w2.heap.size]? = some (.cells #[.string m.a0, .string m.a1, .int .i64 m.a2, .bool m.a3] 33 (0, 0))) (O3 : w3.ownsRow w.heap.size 72 24 v n xs) (hb : Below w3.heap.size w3 W)
    (n4 : XN 0 W w4 d.f vf L2 vf') (l8 : L2.length ≤ 8) :
    Xs (fun k => (A k ∨ v.ownBlock = some k) ∨ k = w2.heap.size) w4 d cl cn on vq vf' L2 r lost ∧ Kp A wr w4 ∧ w4.heap[w2.heap.size]? = some (.cells #[.string m.a0, .string m.a1, .int .i64 m.a2, .bool m.a3] 33 (0, 0)) ∧ w4.ownsRow w.heap.size 72 24 v n xs := by
  have hl : w2.heap.size < w3.heap.size := (Array.getElem?_eq_some_iff.1 R3).1
  obtain ⟨S4, K4⟩ := (S3.ext hb).onF n4 l8
  refine ⟨S4, (K3.trans (Kp.of_ext hb)).trans (K4.mono fun k _ e hk => e (.inl (.inl hk))), ?_, own_fars (own_keep O3 hb) K4 (fun k hk e => e (.inl (.inr hk)))⟩
  exact (K4.block _ (Nat.lt_of_lt_of_le hl hb.size) (fun e => e (.inr rfl))).trans ((hb.block _ hl).trans R3)
theorem xmsg_cells {A : Nat → Prop} {w4 W : World} {d : Ax} {cl : ByteArray} {cn on : Bool} {L1 : List Se} {r : List Mg} {lost : Int} {vq vf : Value} {m : Mg} {bx : Nat}
    (h : Xs A w4 d cl cn on vq vf L1 r lost) (R : w4.heap[bx]? = some (.cells #[.string m.a0, .string m.a1, .int .i64 m.a2, .bool m.a3] 33 (0, 0))) (hb : Below w4.heap.size w4 W) :
    W.cell? ⟨d.x, 4, none⟩ = some (.pointer (some ⟨d.f, 0, none⟩)) ∧ W.cell? ⟨bx, 0, none⟩ = some (.string m.a0) ∧ W.cell? ⟨bx, 1, none⟩ = some (.string m.a1) ∧ W.cell? ⟨bx, 2, none⟩ = some (.int .i64 m.a2) ∧ W.cell? ⟨bx, 3, none⟩ = some (.bool m.a3) := by
  have R' := (hb.block bx (Array.getElem?_eq_some_iff.1 R).1).trans R
  exact ⟨(h.ext hb).x4, cell_of_row _ _ 0 _ 33 (0, 0) R', cell_of_row _ _ 1 _ 33 (0, 0) R', cell_of_row _ _ 2 _ 33 (0, 0) R', cell_of_row _ _ 3 _ 33 (0, 0) R'⟩
set_option maxHeartbeats 8000000 in
set_option maxRecDepth 100000 in
theorem xfill_any {A : Nat → Prop} {w : World} {d : Ax} {cl : ByteArray} {cn on : Bool} {T : List Bool} {L : List Se} {l : List Mg} {lost : Int} {vq vf : Value} (h : Xs A w d cl cn on vq vf L l lost) (hT : Tk T L) (hA : ∀ k, A k → k < w.heap.size) : Calls Tryz.prog 45 #[.pointer (some ⟨d.x, 0, none⟩)] w (XFillIs A w d cl cn on T L l lost) := by
  obtain ⟨i3, hi3, hz0, hz1, hz2⟩ := info_parts info78
  have I0 : Hid (FX A w w d cl cn on T L l lost T L l [] (.slice none 0 0) vq vf) := Lib.hid ⟨h.weaken (fun k hk => hk.elim id (fun e => by cases e)), hT, Far.refl _ _, World.ownsRow_nil _ _ _ _, by simp, by simp⟩
  have hle := h.le
  replace h := Lib.hid h
  clear hT
  go_enter Tryz.func45, Tryz.ntmps45
  go_wp2_with fail
  go_loopw [3] (fun v wr => ∃ (T1 : List Bool) (L1 : List Se) (l1 : List Mg) (P : List Se) (vq vf : Value), FX A w wr d cl cn on T L l lost T1 L1 l1 P v vq vf) (fun v _ => 17 - vlen v)
  case atStart => exact ⟨_, _, _, _, _, _, I0.out⟩
  case round =>
    obtain ⟨T1, L1, l1, P, vq1, vf1, I⟩ := hrel
    obtain ⟨va, vc, rfl⟩ := own_slice I.row
    obtain ⟨qa, qc, rfl⟩ := own_slice I.ss.xq.its
    obtain ⟨fa, fc, rfl⟩ := own_slice I.ss.xf.its
    have x2 := I.ss.x2
    have x3 := I.ss.x3
    have x4 := I.ss.x4
    have q0 := I.ss.xq.c0
    have f0 : wr.cell? ⟨d.f, 0, none⟩ = some (.slice fa L1.length fc) := cell_of_row wr _ 0 _ 57 (0, 0) I.ss.xf.row
    have hl1 : l1.length ≤ 16 := I.ss.le
    have hP : P.length ≤ 16 := by have := I.ln; omega
    have h8 : L1.length ≤ 8 := I.ss.l8
    replace I := Lib.hid I
    cases on with
    | false =>
      go_wp2_with fail
      go_ret
      exact I.out.done (.inl rfl)
    | true =>
      cases l1 with
      | nil =>
        go_wp2_with fail
        go_ret
        exact I.out.done (.inr (.inl rfl))
      | cons m r =>
        have hr0 : (0 : Int) < ((m :: r).length : Nat) := by simp
        by_cases hL : L1.length < 8
        · have hL' : (L1.length : Int) < 8 := by omega
          have hql := I.out.ss.ql m (by simp)
          have hqr : ∀ x ∈ r, x.a2 = 1 ∨ x.a2 = 2 := fun x hx => I.out.ss.ql x (by simp [hx])
          have hle2 : r.length ≤ 16 := by simp at hl1; omega
          have TK := Lib.hid (Quu.xtake_yes I.out.ss.xq (by omega) (Nat.zero_le _))
          go_wp2_with fail
          refine TK.out.mono ?_
          rintro e w2 ⟨rfl, vq2, n2⟩
          obtain ⟨S2, K2⟩ := I.out.ss.onQ n2 hle2 hqr
          have S3 : Hid (Xs (fun k => (A k ∨ (Value.slice va P.length vc).ownBlock = some k) ∨ k = w2.heap.size) (w2.alloc (.cells #[.string m.a0, .string m.a1, .int .i64 m.a2, .bool m.a3] 33)) d cl cn true vq2 (.slice fa L1.length fc) L1 r lost) := Lib.hid (S2.others (S := fun _ => False) (Far.of_ext (ext_alloc _ _)) (fun _ e => e.elim) (fun k hk => hk.imp id (fun e => by subst e; exact ⟨Nat.le_refl _, by simp⟩)))
          have R3 := Lib.hid (heap_alloc_new w2 (.cells #[.string m.a0, .string m.a1, .int .i64 m.a2, .bool m.a3] 33))
          have K3 : Hid (Kp A wr (w2.alloc (.cells #[.string m.a0, .string m.a1, .int .i64 m.a2, .bool m.a3] 33))) := Lib.hid (Kp.trans (show Kp A wr w2 from K2.mono (fun k _ e hk => e (.inl hk))) (Kp.of_ext (ext_alloc _ _)))
          have O3 : Hid ((w2.alloc (.cells #[.string m.a0, .string m.a1, .int .i64 m.a2, .bool m.a3] 33)).ownsRow w.heap.size 72 24 (.slice va P.length vc) P.length (pfC P)) := Lib.hid (own_keep (own_fars I.out.row K2 (fun k hk e => e (.inr hk))) (ext_alloc _ _))
          clear S2 K2 n2 TK x2 x3 x4 q0 f0
          have x4 := S3.out.x4
          have d0 : (w2.alloc (.cells #[.string m.a0, .string m.a1, .int .i64 m.a2, .bool m.a3] 33)).cell? ⟨w2.heap.size, 0, none⟩ = some (.string m.a0) := cell_of_row _ _ 0 _ 33 (0, 0) R3.out
          have d1 : (w2.alloc (.cells #[.string m.a0, .string m.a1, .int .i64 m.a2, .bool m.a3] 33)).cell? ⟨w2.heap.size, 1, none⟩ = some (.string m.a1) := cell_of_row _ _ 1 _ 33 (0, 0) R3.out
          have d2 : (w2.alloc (.cells #[.string m.a0, .string m.a1, .int .i64 m.a2, .bool m.a3] 33)).cell? ⟨w2.heap.size, 2, none⟩ = some (.int .i64 m.a2) := cell_of_row _ _ 2 _ 33 (0, 0) R3.out
          have d3 : (w2.alloc (.cells #[.string m.a0, .string m.a1, .int .i64 m.a2, .bool m.a3] 33)).cell? ⟨w2.heap.size, 3, none⟩ = some (.bool m.a3) := cell_of_row _ _ 3 _ 33 (0, 0) R3.out
          have SE := Lib.hid (fun W (hb : Below (w2.alloc (.cells #[.string m.a0, .string m.a1, .int .i64 m.a2, .bool m.a3] 33)).heap.size (w2.alloc (.cells #[.string m.a0, .string m.a1, .int .i64 m.a2, .bool m.a3] 33)) W) => xsend (S3.out.ext hb).xf (Nat.zero_le _) I.out.tks hL m hql)
          have KO := Lib.hid (fun W (hb : Below (w2.alloc (.cells #[.string m.a0, .string m.a1, .int .i64 m.a2, .bool m.a3] 33)).heap.size (w2.alloc (.cells #[.string m.a0, .string m.a1, .int .i64 m.a2, .bool m.a3] 33)) W) => (show W.cell? ⟨d.x, 4, none⟩ = some (.pointer (some ⟨d.f, 0, none⟩)) ∧ W.cell? ⟨w2.heap.size, 0, none⟩ = some (.string m.a0) ∧ W.cell? ⟨w2.heap.size, 1, none⟩ = some (.string m.a1) ∧ W.cell? ⟨w2.heap.size, 2, none⟩ = some (.int .i64 m.a2) ∧ W.cell? ⟨w2.heap.size, 3, none⟩ = some (.bool m.a3) from
            ⟨(S3.out.ext hb).x4, (hb.cell (by simp)).trans d0, (hb.cell (by simp)).trans d1, (hb.cell (by simp)).trans d2, (hb.cell (by simp)).trans d3⟩))
          go_wp2_with fail
          generalize hMX : (w2.alloc (.cells #[.string m.a0, .string m.a1, .int .i64 m.a2, .bool m.a3] 33)) = w3 at *
          go_region_held3 (fun W => W.cell? ⟨d.x, 4, none⟩ = some (.pointer (some ⟨d.f, 0, none⟩)) ∧ W.cell? ⟨w2.heap.size, 0, none⟩ = some (.string m.a0) ∧ W.cell? ⟨w2.heap.size, 1, none⟩ = some (.string m.a1) ∧ W.cell? ⟨w2.heap.size, 2, none⟩ = some (.int .i64 m.a2) ∧ W.cell? ⟨w2.heap.size, 3, none⟩ = some (.bool m.a3))
            (first | exact KO.out _ (by first | exact Below.refl _ _ | exact ext_drew _ | assumption) | exact KA.out _ (by first | exact Below.refl _ _ | exact ext_drew _ | assumption))
            (first
              | (go_at_call 68; refine (SE.out _ (by first | exact Below.refl _ _ | exact ext_drew _ | assumption)).mono ?_; rintro e w4 ⟨rfl, vf4, n4⟩; have X4 : Hid (Xs (fun k => (A k ∨ (Value.slice va P.length vc).ownBlock = some k) ∨ k = w2.heap.size) w4 d cl cn true vq2 vf4 (L1 ++ [sE T1 m]) r lost ∧ Kp A wr w4 ∧ w4.heap[w2.heap.size]? = some (.cells #[.string m.a0, .string m.a1, .int .i64 m.a2, .bool m.a3] 33 (0, 0)) ∧ w4.ownsRow w.heap.size 72 24 (.slice va P.length vc) P.length (pfC P)) := Lib.hid (xsend_end S3.out K3.out R3.out O3.out (by first | exact Below.refl _ _ | exact ext_drew _) n4 (by simp; omega)); clear n4; have KA := Lib.hid (fun W (hb : Below w4.heap.size w4 W) => xmsg_cells X4.out.1 X4.out.2.2.1 hb)))
          all_goals
            obtain ⟨s4, k4, r4, o4⟩ := X4.out
            clear KA KO SE x4 d0 d1 d2 d3 hMX
            have b0 : w4.cell? ⟨w2.heap.size, 0, none⟩ = some (.string m.a0) := cell_of_row _ _ 0 _ 33 (0, 0) r4
            have b1 : w4.cell? ⟨w2.heap.size, 1, none⟩ = some (.string m.a1) := cell_of_row _ _ 1 _ 33 (0, 0) r4
            have b2 : w4.cell? ⟨w2.heap.size, 2, none⟩ = some (.int .i64 m.a2) := cell_of_row _ _ 2 _ 33 (0, 0) r4
            have b3 : w4.cell? ⟨w2.heap.size, 3, none⟩ = some (.bool m.a3) := cell_of_row _ _ 3 _ 33 (0, 0) r4
            have oA := Lib.hid (own_keep o4 (ext_alloc w4 (.cells #[.int .i64 3, .int .i64 ((nxt T1 : Int) + 1), .bool false, .string m.a0, .string m.a1, .int .i64 m.a2, .bool m.a3, .int .i64 0, .bool false, .int .i64 0, .string { data := #[] }, .bool false, .string { data := #[] }, .string { data := #[] }, .int .i64 0, .bool false, .bool false, .string { data := #[] }, .bool false, .string { data := #[] }, .bool false, .int .i64 0, .slice none 0 0, .slice none 0 0] 72)))
            have sz4 := Lib.hid (show w.heap.size ≤ w4.heap.size from Nat.le_trans I.out.kp.size k4.size)
            have hnew : Hid (∀ j u, ([.int .i64 3, .int .i64 ((nxt T1 : Int) + 1), .bool false, .string m.a0, .string m.a1, .int .i64 m.a2, .bool m.a3, .int .i64 0, .bool false, .int .i64 0, .string { data := #[] }, .bool false, .string { data := #[] }, .string { data := #[] }, .int .i64 0, .bool false, .bool false, .string { data := #[] }, .bool false, .string { data := #[] }, .bool false, .int .i64 0, .slice none 0 0, .slice none 0 0] : List Value)[j]? = some u → (w4.alloc (.cells #[.int .i64 3, .int .i64 ((nxt T1 : Int) + 1), .bool false, .string m.a0, .string m.a1, .int .i64 m.a2, .bool m.a3, .int .i64 0, .bool false, .int .i64 0, .string { data := #[] }, .bool false, .string { data := #[] }, .string { data := #[] }, .int .i64 0, .bool false, .bool false, .string { data := #[] }, .bool false, .string { data := #[] }, .bool false, .int .i64 0, .slice none 0 0, .slice none 0 0] 72)).cell? ((⟨w4.heap.size, 0, none⟩ : Addr).add j) = some u) := Lib.hid (by
              intro j u hj
              have := cell_of_row (w4.alloc (.cells #[.int .i64 3, .int .i64 ((nxt T1 : Int) + 1), .bool false, .string m.a0, .string m.a1, .int .i64 m.a2, .bool m.a3, .int .i64 0, .bool false, .int .i64 0, .string { data := #[] }, .bool false, .string { data := #[] }, .string { data := #[] }, .int .i64 0, .bool false, .bool false, .string { data := #[] }, .bool false, .string { data := #[] }, .bool false, .int .i64 0, .slice none 0 0, .slice none 0 0] 72)) w4.heap.size j _ 72 (0, 0) (heap_alloc_new w4 _)
              rw [add_off', Nat.zero_add, this, ← hj]
              exact List.getElem?_toArray)
            have hpo : Hid (∀ u ∈ ([.int .i64 3, .int .i64 ((nxt T1 : Int) + 1), .bool false, .string m.a0, .string m.a1, .int .i64 m.a2, .bool m.a3, .int .i64 0, .bool false, .int .i64 0, .string { data := #[] }, .bool false, .string { data := #[] }, .string { data := #[] }, .int .i64 0, .bool false, .bool false, .string { data := #[] }, .bool false, .string { data := #[] }, .bool false, .int .i64 0, .slice none 0 0, .slice none 0 0] : List Value), u.oneCell' = true) := Lib.hid (pf_one (sE T1 m))
            have NX := Lib.hid (fun W6 w6 v3 b6 g6 o6 nb => I.out.next (W6 := W6) (w6 := w6) (v3 := v3) hA hL k4 s4 b6 g6 o6 nb)
            clear s4 k4 r4 o4 X4 S3 K3 R3 O3
            go_wp2_with (first
              | (at_builtin; go_loud (refine wpList_append_own_at _ rfl (.tmp 51) (.tmp 55) 64 rfl w.heap.size 72 i3 zP 24 280 Tryz.underlying64 hi3 hz0 hz1 hz2 rfl (by decide) (.slice va P.length vc) P.length (pfC P) rfl oA.out ⟨w4.heap.size, 0, none⟩ 1 1 [.int .i64 3, .int .i64 ((nxt T1 : Int) + 1), .bool false, .string m.a0, .string m.a1, .int .i64 m.a2, .bool m.a3, .int .i64 0, .bool false, .int .i64 0, .string { data := #[] }, .bool false, .string { data := #[] }, .string { data := #[] }, .int .i64 0, .bool false, .bool false, .string { data := #[] }, .bool false, .string { data := #[] }, .bool false, .int .i64 0, .slice none 0 0, .slice none 0 0] rfl rfl hnew.out hpo.out (by unfold maxLen; omega) (by omega) (by have := sz4.out; simp; omega) ?_); intro v3 w6 o3 g3 _ hat))
            have nb : ∀ k, v3.ownBlock = some k → (Value.slice va P.length vc).ownBlock = some k ∨ _ ≤ k ∧ k < w6.heap.size := fun k hk => hat.elim (fun e => .inl (e ▸ hk)) (fun e => .inr ⟨by rw [e] at hk; simp only [Option.some.injEq] at hk; exact Nat.le_of_eq hk, (o3.lt k hk).2⟩)
            have FN := Lib.hid (NX.out _ w6 v3 (ext_alloc w4 _) g3 o3 nb)
            obtain ⟨va3, vc3, rfl⟩ := own_slice o3
            go_roundw
            case rel => exact ⟨_, _, _, _, _, _, FN.out⟩
            case measure => simp only [vlen]; omega
        · have hL' : ¬ (L1.length : Int) < 8 := by omega
          go_wp2_with fail
          go_ret
          exact I.out.done (.inr (.inr hL))
end Go.Proofs.YtceiipcdkonnlaaGreat.Ses

/-
  LAYER 25: the document's Attach.
-/
namespace Go.Proofs.YtceiipcdkonnlaaGreat.Ses
open Go.RowKit Que Hp Ids Fli
set_option linter.unusedSimpArgs false
set_option linter.unusedVariables false
def XAttIs (A : Nat → Prop) (w : World) (d : Ax) (cl : ByteArray) (cn : Bool) (T : List Bool) (L : List Se) (l : List Mg) (lost : Int) (e : Ending) (w' : World) : Prop :=
  ∃ v vq vf T' L' l' P, e = .returned v ∧ Xs (fun k => A k ∨ v.ownBlock = some k) w' d cl cn true vq vf L' l' lost ∧ Tk T' L' ∧ Kp A w w' ∧ w'.ownsRow w.heap.size 72 24 v (L.length + P.length) (pkC L ++ pfC P) ∧ fl true T L l = (T', L', l', P)
theorem xatt_end {A : Nat → Prop} {w w3 w6 : World} {d : Ax} {cl : ByteArray} {cn : Bool} {L1 : List Se} {l1 : List Mg} {lost : Int} {v0 v1 v3 vq vf : Value} {n : Nat} {xs xs3 : List Value} {n3 : Nat}
    (S3 : Xs (fun k => (A k ∨ v0.ownBlock = some k) ∨ v1.ownBlock = some k) w3 d cl cn true vq vf L1 l1 lost) (K3 : Kp A w w3) (O3 : w3.ownsRow w.heap.size 72 24 v0 n xs) (hA : ∀ k, A k → k < w.heap.size)
    (o6 : w6.ownsRow w.heap.size 72 24 v3 n3 xs3) (g6 : w3.grownBy w6 v0.ownBlock) (hat : v3.ownBlock = v0.ownBlock ∨ v3.ownBlock = some w3.heap.size) :
    Xs (fun k => A k ∨ v3.ownBlock = some k) w6 d cl cn true vq vf L1 l1 lost ∧ Kp A w w6 := by
  have F6 : Far (fun k => v0.ownBlock = some k) w3 w6 := Far.of_grown g6 (fun k _ e => e)
  refine ⟨S3.others F6 (fun k hk => .inl (.inr hk)) ?_, K3.trans (F6.mono fun k _ hk hk2 => ?_)⟩
  · rintro k (hk | hk)
    · exact .inl (.inl (.inl hk))
    · rcases hat with e | e
      · exact .inl (.inl (.inr (e ▸ hk)))
      · right
        have := (o6.lt k hk).2
        rw [e] at hk
        simp only [Option.some.injEq] at hk
        exact ⟨Nat.le_of_eq hk, this⟩
  · have := (O3.lt k hk).1
    have := hA k hk2
    omega
set_option maxHeartbeats 8000000 in
set_option maxRecDepth 100000 in
theorem xattach {A : Nat → Prop} {w : World} {d : Ax} {cl : ByteArray} {cn on : Bool} {T : List Bool} {L : List Se} {l : List Mg} {lost : Int} {vq vf : Value} (h : Xs A w d cl cn on vq vf L l lost) (hT : Tk T L) (hA : ∀ k, A k → k < w.heap.size) :
    Calls Tryz.prog 19 #[.pointer (some ⟨d.x, 0, none⟩)] w (XAttIs A w d cl cn T L l lost) := by
  obtain ⟨i3, hi3, hz0, hz1, hz2⟩ := info_parts info78
  have hle := h.l8
  have hll := h.le
  obtain ⟨S1, K1⟩ := h.line true
  have s2 := h.x2
  have fz : w.frozen? ⟨d.x, 2, none⟩ = false := frozen_of_row w _ 2 _ 63 h.row
  have x4 := S1.x4
  have AG := Lib.hid (xagain_any S1.xf hle)
  have sz1 : (w.setCell ⟨d.x, 2, none⟩ (.bool true)).heap.size = w.heap.size := by simp [World.setCell]
  replace S1 := Lib.hid S1
  replace K1 := Lib.hid K1
  replace h := Lib.hid h
  replace hA := Lib.hid hA
  replace hT := Lib.hid hT
  go_enter Tryz.func19, Tryz.ntmps19
  go_wp2_with fail
  generalize hW1 : w.setCell ⟨d.x, 2, none⟩ (.bool true) = w1 at *
  refine AG.out.mono ?_
  rintro e w2 ⟨v0, rfl, o2, b2⟩
  rw [sz1] at o2
  have S2 : Hid (Xs (fun k => A k ∨ v0.ownBlock = some k) w2 d cl cn true vq vf L l lost) := Lib.hid (S1.out.others (S := fun _ => False) (Far.of_ext b2) (fun _ e => e.elim) (fun k hk => hk.imp id (fun e => by have := o2.lt k e; omega)))
  have K2 : Hid (Kp A w w2) := Lib.hid (K1.out.trans (Kp.of_ext b2))
  have FL := Lib.hid (xfill_any S2.out hT.out (fun k hk => hk.elim (fun e => Nat.lt_of_lt_of_le (hA.out k e) K2.out.size) (fun e => (o2.lt k e).2)))
  replace o2 := Lib.hid o2
  clear AG x4 b2 hW1
  go_wp2_with fail
  refine FL.out.mono ?_
  rintro e w3 ⟨v1, vq', vf', T', L', l', P, rfl, s3, t3, k3, o3, e3⟩
  have hP : P.length ≤ 16 := by
    have := fl_ln true l T L
    rw [e3] at this
    simp only at this
    omega
  have K3 : Hid (Kp A w w3) := Lib.hid (K2.out.trans (k3.mono fun k _ e hk => e (.inl hk)))
  have O3 : Hid (w3.ownsRow w.heap.size 72 24 v0 L.length (pkC L)) := Lib.hid (own_fars o2.out k3 (fun k hk e => e (.inr hk)))
  have S3 := Lib.hid s3
  have E3 := Lib.hid e3
  have T3 := Lib.hid t3
  have sz3 := Lib.hid (show w.heap.size ≤ w3.heap.size from K3.out.size)
  clear s3 k3 e3 t3 FL
  obtain ⟨a0, c0, rfl⟩ := own_slice O3.out
  have hne := o3.2
  replace o3 := Lib.hid o3
  rcases hne with ⟨rfl, hn⟩ | ⟨g, cap, cur, rfl, -⟩
  · have hP0 : P = [] := List.eq_nil_of_length_eq_zero hn
    subst hP0
    go_wp2_with (first
      | (at_builtin; go_loud (refine wpList_append_own_none rfl (.tmp 10) (.tmp 12) 64 rfl w.heap.size 72 i3 24 Tryz.underlying64 hi3 (.slice a0 L.length c0) L.length (pkC L) rfl O3.out rfl ?_)))
    go_ret
    exact ⟨_, vq', vf', T', L', l', [], rfl, S3.out.weaken (fun k hk => .inl hk), T3.out, K3.out, by simpa [pfC] using O3.out, E3.out⟩
  · have hnew : Hid (∀ j u, (pfC P)[j]? = some u → w3.cell? ((⟨g, 0, none⟩ : Addr).add j) = some u) := Lib.hid (by
      intro j u hj
      rw [add_off', Nat.zero_add]
      exact own_get o3.out hj)
    go_wp2_with (first
      | (at_builtin; go_loud (refine wpList_append_own_at _ rfl (.tmp 10) (.tmp 12) 64 rfl w.heap.size 72 i3 zP 24 280 Tryz.underlying64 hi3 hz0 hz1 hz2 rfl (by decide) (.slice a0 L.length c0) L.length (pkC L) rfl O3.out ⟨g, 0, none⟩ P.length cap (pfC P) rfl (pfC_len P) hnew.out (pfC_one P) (by unfold maxLen; omega) (by omega) sz3.out ?_); intro v3 w6 o6 g6 _ hat))
    go_ret
    obtain ⟨x1, x2⟩ := xatt_end S3.out K3.out O3.out hA.out o6 g6 hat
    exact ⟨_, vq', vf', T', L', l', P, rfl, x1, T3.out, x2, o6, E3.out⟩
end Go.Proofs.YtceiipcdkonnlaaGreat.Ses
