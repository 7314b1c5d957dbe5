/-
  LAYER 23: keep.
-/
import Derived.Test.YtceiipcdkonnlaaFb
namespace Go.Proofs.Ytceiipcdkonnlaa.Fli
set_option linter.unusedSimpArgs false
set_option linter.unusedVariables false
open Go.RowKit Que Hp Ids
theorem stp_any (e : Se) (id : Int) (p : Nat) (w : World) (hp : w.cell? ⟨p, 0, none⟩ = some (.int .i64 id)) : Calls Try.prog 72 #[.agg #[.int .i64 e.i, .int .i64 e.s, .string e.t, .string e.x, .int .i64 e.q, .bool e.r], .pointer (some ⟨p, 0, none⟩)] w fun x w' => x = .returned (.bool (e.i != id)) ∧ Below w.heap.size w w' := by
  have hp2 := ((ext_alloc w (.cells #[.int .i64 e.i, .int .i64 e.s, .string e.t, .string e.x, .int .i64 e.q, .bool e.r] 101)).cell (p := ⟨p, 0, none⟩) (World.block_lt_of_cell? w _ hp)).trans hp
  obtain ⟨ei, es, et, ex, eq, er⟩ := e
  simp only at hp2 ⊢
  go_enter Try.func72, Try.ntmps72
  go_wp2
  go_ret
  exact ⟨rfl, ext_alloc _ _⟩
def oth (id : Int) (L : List Se) : List Se := L.filter fun e => e.i != id
theorem oth_snoc (id : Int) (L : List Se) (k : Nat) (e : Se) (h : L[k]? = some e) : oth id (L.take (k + 1)) = if e.i != id then oth id (L.take k) ++ [e] else oth id (L.take k) := by
  unfold oth
  obtain ⟨hk, rfl⟩ := List.getElem?_eq_some_iff.1 h
  rw [List.take_succ_eq_append_getElem hk, List.filter_append]
  by_cases hb : (L[k].i != id) = true
  · rw [if_pos hb]; simp [hb]
  · rw [if_neg hb]; simp [hb]
theorem oth_len (id : Int) (L : List Se) : (oth id L).length ≤ L.length := List.length_filter_le _ _
section
variable {w w' : World} {f g : Nat} {v : Value} {L : List Se}
theorem keep_end {W : World} {v' : Value} {L' : List Se} (h : Fw 0 w f g v L) (hb : Below w.heap.size w W) (o : W.ownsRow w.heap.size 101 6 v' L'.length (seC L')) : WNew w (W.setCell ⟨f, 1, none⟩ v') f g v L' v' := by
  have R1 := (hb.block f h.lt).trans h.row
  have GG : W.grownBy (W.setCell ⟨f, 1, none⟩ v') (some f) := set_grownX
  refine ⟨⟨by simpa using setF R1 (j := 1) v', own_base (own_grown o R1 (by decide) GG) (Nat.zero_le _)⟩, ?_, fun k hk => .inr (o.lt k hk).1⟩
  exact (Far.of_ext hb).trans (Far.of_grown (S := SF f v) GG (fun k _ e => .inl (by simpa using e.symm))) (fun k _ h => h)
set_option maxHeartbeats 8000000 in
set_option maxRecDepth 100000 in
theorem keep_any (h : Fw 0 w f g v L) (hL : L.length ≤ 8) (id : Int) (p : Nat) (hp : w.cell? ⟨p, 0, none⟩ = some (.int .i64 id)) : Calls Try.prog 71 #[.pointer (some ⟨f, 0, none⟩), .func (.func 72) #[] #[.pointer (some ⟨p, 0, none⟩)]] w fun e w' => e = .returned (.tuple #[]) ∧ ∃ v', WNew w w' f g v (oth id L) v' := by
  obtain ⟨i3, hi3, hz0, hz1, hz2⟩ := info_parts info103
  have hplt := World.block_lt_of_cell? w _ hp
  have IS := Lib.hid (fun (e : Se) W (hW : Below w.heap.size w W) => stp_any e id p W ((hW.cell (p := ⟨p, 0, none⟩) hplt).trans hp))
  have c1 := h.c1
  have f1 := h.fz 1
  have flt := h.lt
  obtain ⟨a, c, rfl⟩ := own_slice h.its
  have hL' : (L.length : Int) ≤ 8 := by omega
  replace h := Lib.hid h
  go_enter Try.func71, Try.ntmps71
  go_wp2_with fail
  go_loopw [4, 12] (fun v iv wr => ∃ k : Nat, iv = .int .i64 (k : Int) ∧ k ≤ L.length ∧ wr.ownsRow w.heap.size 101 6 v (oth id (L.take k)).length (seC (oth id (L.take k))) ∧ Below w.heap.size w wr) (fun _ iv _ => L.length - (intOf iv).toNat)
  case atStart => exact ⟨0, rfl, by omega, World.ownsRow_nil _ _ _ _, Below.refl _ _⟩
  case round =>
    obtain ⟨k, rfl, hk, o, hb⟩ := hrel
    have HB := Lib.hid hb
    have hll : (oth id (L.take k)).length ≤ 8 := Nat.le_trans (oth_len id (L.take k)) (by rw [List.length_take]; omega)
    obtain ⟨M, hM⟩ : ∃ M, M = oth id (L.take k) := ⟨_, rfl⟩
    rw [← hM] at o hll
    obtain ⟨va, vc, rfl⟩ := own_slice o
    by_cases hlt : k < L.length
    · have hlt' : (k : Int) < (L.length : Int) := by omega
      obtain ⟨e, he⟩ : ∃ e, L[k]? = some e := ⟨_, List.getElem?_eq_getElem hlt⟩
      obtain ⟨gb, cb, hv⟩ := own_slice' h.out.its (by omega)
      obtain ⟨q0, q1, q2, q3, q4, q5⟩ := (h.out.keep hb).at hv he
      simp only [Value.slice.injEq] at hv
      obtain ⟨rfl, -, rfl⟩ := hv
      have sz := hb.size
      have hba := ext_alloc wr (.cells #[.int .i64 e.i, .int .i64 e.s, .string e.t, .string e.x, .int .i64 e.q, .bool e.r] 101)
      have I := IS.out e _ (ext_trans hb hba)
      have E := oth_snoc id L k e he
      rw [← hM] at E
      replace hM := Lib.hid hM
      cases hne : (e.i != id)
      · rw [hne] at I E
        rw [if_neg (by simp)] at E
        replace I := Lib.hid I
        replace E := Lib.hid E
        replace hne := Lib.hid hne
        replace hba := Lib.hid hba
        replace o := Lib.hid o
        clear hb he
        go_wp2_with fail
        refine I.out.mono ?_
        rintro x w2 ⟨rfl, b2⟩
        have B2 := Lib.hid (ext_trans hba.out b2)
        clear b2 I
        go_wp2_with fail
        go_roundw
        case rel => exact ⟨k + 1, by simp, by omega, by rw [E.out]; exact own_keep o.out B2.out, ext_trans HB.out B2.out⟩
        case measure => simp [intOf]; omega
      · rw [hne] at I E
        rw [if_pos rfl] at E
        replace I := Lib.hid I
        replace E := Lib.hid E
        replace hne := Lib.hid hne
        have hrw := heap_alloc_new wr (.cells #[.int .i64 e.i, .int .i64 e.s, .string e.t, .string e.x, .int .i64 e.q, .bool e.r] 101)
        have hlt1 : wr.heap.size < (wr.alloc (.cells #[.int .i64 e.i, .int .i64 e.s, .string e.t, .string e.x, .int .i64 e.q, .bool e.r] 101)).heap.size := by simp
        replace hrw := Lib.hid hrw
        replace hlt1 := Lib.hid hlt1
        replace hba := Lib.hid hba
        replace o := Lib.hid o
        clear hb he
        go_wp2_with fail
        refine I.out.mono ?_
        rintro x w2 ⟨rfl, b2⟩
        have B2 := Lib.hid (ext_trans hba.out b2)
        have r2 := (b2.block _ hlt1.out).trans hrw.out
        have b0 := cell_of_row w2 wr.heap.size 0 _ 101 (0, 0) r2
        have b1 := cell_of_row w2 wr.heap.size 1 _ 101 (0, 0) r2
        have b2' := cell_of_row w2 wr.heap.size 2 _ 101 (0, 0) r2
        have b3 := cell_of_row w2 wr.heap.size 3 _ 101 (0, 0) r2
        have b4 := cell_of_row w2 wr.heap.size 4 _ 101 (0, 0) r2
        have b5 := cell_of_row w2 wr.heap.size 5 _ 101 (0, 0) r2
        simp at b0 b1 b2' b3 b4 b5
        have oA := Lib.hid (own_keep (own_keep o.out B2.out) (ext_alloc w2 (.cells #[.int .i64 e.i, .int .i64 e.s, .string e.t, .string e.x, .int .i64 e.q, .bool e.r] 101)))
        have sz2 : w.heap.size ≤ w2.heap.size := Nat.le_trans sz B2.out.size
        have hnew : Hid (∀ j u, e.cells[j]? = some u → (w2.alloc (.cells #[.int .i64 e.i, .int .i64 e.s, .string e.t, .string e.x, .int .i64 e.q, .bool e.r] 101)).cell? ((⟨w2.heap.size, 0, none⟩ : Addr).add j) = some u) := Lib.hid (by
          intro j u hj
          have := cell_of_row (w2.alloc (.cells #[.int .i64 e.i, .int .i64 e.s, .string e.t, .string e.x, .int .i64 e.q, .bool e.r] 101)) w2.heap.size j _ 101 (0, 0) (heap_alloc_new w2 _)
          rw [add_off', Nat.zero_add, this, ← hj]
          simp [Se.cells])
        clear b2 I r2
        go_wp2_with (first
          | (at_builtin; go_must (refine wpList_append_own _ rfl (.tmp 19) (.tmp 21) 92 rfl w.heap.size 101 i3 zS 6 64 Try.underlying92 hi3 hz0 hz1 hz2 rfl (by decide) (.slice va M.length vc) M.length (seC M) rfl oA.out ⟨w2.heap.size, 0, none⟩ 1 1 e.cells rfl rfl hnew.out (by intro u hu; simp [Se.cells] at hu; rcases hu with rfl | rfl | rfl | rfl | rfl | rfl <;> rfl) (by unfold maxLen; omega) (by omega) (by simp; omega) ?_); intro v3 w3 o3 g3 _))
        go_roundw
        case rel => exact ⟨k + 1, by simp, by omega, by rw [E.out, seC_snoc]; simpa using o3, (((HB.out.trans (B2.out.mono sz)).alloc sz2 _).grown g3 (by simp; omega) (fun j hj => (oA.out.lt j hj).1))⟩
        case measure => simp [intOf]; omega
    · obtain rfl : k = L.length := by omega
      rw [List.take_length] at hM
      subst hM
      have c1' := (hb.cell (p := ⟨f, 1, none⟩) flt).trans c1
      have f1' := (hb.frozen (p := ⟨f, 1, none⟩) flt).trans f1
      have Z := Lib.hid (keep_end h.out hb o)
      clear hb hk IS o
      go_wp2_with fail
      go_end0
      exact ⟨rfl, _, Z.out⟩
end
end Go.Proofs.Ytceiipcdkonnlaa.Fli
