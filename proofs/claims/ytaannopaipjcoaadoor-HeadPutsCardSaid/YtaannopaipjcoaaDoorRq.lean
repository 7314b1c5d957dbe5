/-
  LAYER 11: any head as bytes.
-/
import Derived.Test.YtaannopaipjcoaaDoorRp
import Derived.StillTailTactics
import Derived.Deep.QuietTactic
import Derived.BigQuiet
import Derived.Outline
namespace Go.Proofs.YtaannopaipjcoaaDoor
open Go.RowKit

def Made (l : List Nat) (err : Int) (w : World) (e : Ending) (w' : World) : Prop :=
  ∃ v, e = .returned (.tuple #[v, .int .i64 err]) ∧ BytesAt w' v l ∧ Below w.heap.size w w'
theorem made_nil {f : FuncId} {args : Array Value} {w : World} {err : Int} (h : Calls Tryd.prog f args w fun e w' => e = .returned (.tuple #[.slice none 0 0, .int .i64 err]) ∧ Below w.heap.size w w') : Calls Tryd.prog f args w (Made [] err w) :=
  h.mono fun e w' ⟨he, hw⟩ => ⟨_, he, ⟨none, 0, rfl, ⟨by simp, fun _ => rfl⟩, .inl rfl⟩, hw⟩
theorem made_ok {f : FuncId} {args : Array Value} {w : World} {l : List Nat} (h : Calls Tryd.prog f args w (PPost w.heap.size l w)) : Calls Tryd.prog f args w (Made l 0 w) :=
  h.mono fun e w' ⟨v, he, ho, hw⟩ => ⟨v, he, BytesAt.of_own ho, hw⟩
theorem both (k f n : Int) : ∃ l err, (∀ w, Tab3 w → Calls Tryd.prog 7 #[.agg #[.int .i64 k, .int .i64 f, .int .i64 n]] w (Made l err w)) ∧ ∀ w, Calls Tryd.prog 8 #[.agg #[.int .i64 k, .int .i64 f, .int .i64 n]] w (Made l err w) := by
  by_cases hE : RightF k f = 0
  · by_cases hn : n < 0 ∨ 4096 < n
    · exact ⟨[], 3, fun w ht => made_nil (put_long k f n w ht hE hn), fun w => made_nil (rput_long k f n w hE hn)⟩
    · obtain ⟨q1, q2, q3, q4⟩ := right_zero hE
      obtain ⟨K, rfl⟩ := Int.eq_ofNat_of_zero_le (show 0 ≤ k by omega)
      obtain ⟨F, rfl⟩ := Int.eq_ofNat_of_zero_le q3
      obtain ⟨N, rfl⟩ := Int.eq_ofNat_of_zero_le (show 0 ≤ n by omega)
      refine ⟨putB K F N, 0, fun w ht => made_ok ?_, fun w => made_ok ?_⟩
      · rcases Nat.lt_or_ge N 128 with h | h
        · exact put_one K F N w ht hE h
        · exact put_two K F N w ht hE h (by omega)
      · rcases Nat.lt_or_ge N 128 with h | h
        · exact rput_one K F N w hE h
        · exact rput_two K F N w hE h (by omega)
  · exact ⟨[], _, fun w ht => made_nil (put_err k f n w ht hE), fun w => made_nil (rput_err k f n w hE)⟩
set_option maxHeartbeats 2000000 in
set_option maxRecDepth 100000 in
theorem puts_any (k f n : Int) (w : World) (ht : Tab3 w)
    (b0 : -9223372036854775808 ≤ k ∧ k ≤ 9223372036854775807) (b1 : -9223372036854775808 ≤ f ∧ f ≤ 9223372036854775807) (b2 : -9223372036854775808 ≤ n ∧ n ≤ 9223372036854775807) :
    Calls Tryd.prog 3 #[.agg #[.int .i64 k, .int .i64 f, .int .i64 n]] w (Yes w) := by
  obtain ⟨l, err, P, Q⟩ := both k f n
  have R := fun W (h : Tab3 W) => right_any k f W h
  have S := fun W => ref_any k f W
  unfold Made at P Q
  generalize RightF k f = E at *
  replace P := Lib.hid P
  replace Q := Lib.hid Q
  replace R := Lib.hid R
  replace S := Lib.hid S
  replace ht := Lib.hid ht
  have hb0 : Below w.heap.size w (w.alloc (.cells #[.int .i64 k, .int .i64 f, .int .i64 n] 23)) := ext_alloc _ _
  replace hb0 := Lib.hid hb0
  clear b0 b1 b2
  go_enter Tryd.func3, Tryd.ntmps3
  go_wp2_with fail
  refine (P.out _ (ht.out.keep hb0.out)).mono ?_
  rintro e w1 ⟨v1, rfl, a1, b1⟩
  have c00 : w1.cell? ⟨w.heap.size, 0, none⟩ = some (.int .i64 k) := by rw [b1.cell (by simp), World.cell?_alloc_at _ _ _ _ rfl]; rfl
  have c01 : w1.cell? ⟨w.heap.size, 1, none⟩ = some (.int .i64 f) := by rw [b1.cell (by simp), World.cell?_alloc_at _ _ _ _ rfl]; rfl
  have c02 : w1.cell? ⟨w.heap.size, 2, none⟩ = some (.int .i64 n) := by rw [b1.cell (by simp), World.cell?_alloc_at _ _ _ _ rfl]; rfl
  have hs1 : w.heap.size < w1.heap.size := by have := b1.size; simp at this; omega
  have b1 := Lib.hid (ext_trans hb0.out b1)
  replace a1 := Lib.hid a1
  go_wp2_with fail
  refine (Q.out _).mono ?_
  rintro e w2 ⟨v2, rfl, a2, b2⟩
  have d00 : w2.cell? ⟨w.heap.size, 0, none⟩ = some (.int .i64 k) := by rw [b2.cell (by simpa using hs1)]; exact c00
  have d01 : w2.cell? ⟨w.heap.size, 1, none⟩ = some (.int .i64 f) := by rw [b2.cell (by simpa using hs1)]; exact c01
  have a1 := a1.out.keep b2 (Nat.le_refl _)
  have b3 := Lib.hid (ext_trans b1.out b2)
  have hT := Lib.hid (ht.out.keep b3.out)
  have k1 := a1.conv (P := Tryd.prog) Tryd.underlying24 Tryd.underlying5 Tryd.underlying9
  have k2 := a2.conv (P := Tryd.prog) Tryd.underlying24 Tryd.underlying5 Tryd.underlying9
  have k1' := (a1.keep (ext_drew w2) (Nat.le_refl _)).conv (P := Tryd.prog) Tryd.underlying24 Tryd.underlying5 Tryd.underlying9
  have k2' := (a2.keep (ext_drew w2) (Nat.le_refl _)).conv (P := Tryd.prog) Tryd.underlying24 Tryd.underlying5 Tryd.underlying9
  generalize strB l = sl at *
  obtain ⟨x1, n1, rfl, -, -⟩ := a1
  obtain ⟨x2, n2, rfl, -, -⟩ := a2
  clear c00 c01 c02 b2 b1 P Q hb0 hs1
  go_wp2_with fail
  go_still_tail 24, (by kernel_rfl)
  still_call ((R.out _ (hT.out.keep (ext_drew w2))).mono fun _ _ h => ⟨h.1, h.2.symm⟩)
  repeat still_step
  still_call ((S.out _).mono fun _ _ h => ⟨h.1, h.2.symm⟩)
  repeat still_step
  refine wpStill_nil ?_
  change wpList _ _ _ _ _ w2.drew
  have b4 := Lib.hid b3.out.drew
  have hT4 := Lib.hid (hT.out.keep (ext_drew w2))
  generalize w2.drew = w4 at *
  go_wp2_with fail
  refine (awake_any _ hT4.out.tab).mono ?_
  rintro e w5 ⟨rfl, b5⟩
  go_wp2_with fail
  go_ret
  exact ⟨rfl, ext_trans b4.out b5⟩
end Go.Proofs.YtaannopaipjcoaaDoor
