/-
  LAYER 11: awake.
-/
import Derived.Test.YtaannopaipjcoaaDoorHc
import Derived.Test.YtaannopaipjcoaaDoorByt
import Derived.OwnWalk
import Derived.Below
import Derived.Laws.OwnMore
import Derived.Maps.AppendAt
namespace Go.Proofs.YtaannopaipjcoaaDoor
open Go.RowKit

theorem tab_alloc {w : World} (h : Tab w) (o : Obj) : Tab (w.alloc o) := by
  unfold Tab at *
  have h0 : 0 < w.heap.size := by
    rcases Nat.eq_zero_or_pos w.heap.size with h0 | h0
    · have : w.cell? ⟨0, 2, none⟩ = none := by
        unfold World.cell?
        simp [Array.getElem?_eq_none (show w.heap.size ≤ 0 by omega)]
      rw [this] at h
      cases h
    · exact h0
  rw [World.cell?_alloc_past _ _ _ h0]
  exact h

theorem info5 : (Tryd.prog.info? 5).map (fun i => (i.zero, i.size, i.bytes)) = some (some (.int .u8 0), 1, 1) := by kernel_rfl
def hd : Value := .agg #[.int .i64 3, .int .i64 2, .int .i64 300]
def PutPost (w : World) (e : Ending) (w' : World) : Prop :=
  ∃ v, e = .returned (.tuple #[v, .int .i64 0]) ∧ w'.ownsRow w.heap.size 5 1 v 3 [.int .u8 50, .int .u8 172, .int .u8 2] ∧ Below w.heap.size w w' ∧ v ≠ .slice none 0 0

set_option maxHeartbeats 1000000 in
set_option maxRecDepth 100000 in
theorem put_any (w : World) (ht : Tab w) : Calls Tryd.prog 7 #[.agg #[.int .i64 3, .int .i64 2, .int .i64 300]] w (PutPost w) := by
  obtain ⟨i0, hi, hz0, hz1, hz2⟩ := info_parts info5
  go_enter Tryd.func7, Tryd.ntmps7
  go_wp2_with (first | (go_at_call 9; go_must (refine (right_ok 2 _ (tab_alloc ht _) (Or.inr (Or.inr (Or.inl rfl)))).mono ?_); rintro e w' ⟨rfl, rfl⟩) | fail)
  have hown0 : ((w.alloc (.cells #[.int .i64 3, .int .i64 2, .int .i64 300] 23)).alloc (.cells #[.int .u8 50] 5)).ownsRow w.heap.size 5 1 (.slice (some ⟨w.heap.size + 1, 0, none⟩) 1 1) 1 [.int .u8 50] := by
    have := World.ownsRow_lit (base := w.heap.size) (e := 5) (size := 1) (w.alloc (.cells #[.int .i64 3, .int .i64 2, .int .i64 300] 23)) #[.int .u8 50] 1 (by simp) (by unfold maxLen; omega) rfl
    simpa using this
  rw [show bits .or .i64 48 2 % 256 = 50 from by decide +kernel]
  have hc : ∀ (j : Nat) (u : Value), [Value.int IntKind.u8 (bits .or .u8 44 128)][j]? = some u → (((w.alloc (.cells #[.int .i64 3, .int .i64 2, .int .i64 300] 23)).alloc (.cells #[.int .u8 50] 5)).alloc (.cells #[.int .u8 (bits .or .u8 44 128)] 5)).cell? ((⟨w.heap.size + 1 + 1, 0, none⟩ : Addr).add j) = some u := by
    have := cell_one_new ((w.alloc (.cells #[.int .i64 3, .int .i64 2, .int .i64 300] 23)).alloc (.cells #[.int .u8 50] 5)) (.int .u8 (bits .or .u8 44 128)) 5
    simpa using this
  refine wp_loop_rounds 2 ?_
  rw [rounds_succ]
  go_wp2_with (first | (at_builtin; go_must (refine wpList_append_own _ rfl (.tmp 35) (.tmp 39) 24 rfl w.heap.size 5 i0 (.int .u8 0) 1 1 Tryd.underlying24 hi hz0 hz1 hz2 rfl (by decide) (.slice (some ⟨w.heap.size + 1, 0, none⟩) 1 1) 1 [.int .u8 50] rfl (hown0.alloc (.cells #[.int .u8 (bits .or .u8 44 128)] 5)) ⟨w.heap.size + 1 + 1, 0, none⟩ 1 1 [.int .u8 (bits .or .u8 44 128)] rfl rfl hc (by intro u hu; simp at hu; subst hu; rfl) (by unfold maxLen; omega) (by omega) (by simp; omega) ?_); intro v1 w1 hown1 hgrow1 hnil1) | fail)
  have hb1 : Below w.heap.size w w1 := (ext_trans (ext_trans (ext_alloc w _) (ext_alloc _ _)) (ext_alloc _ _)).grown hgrow1 (by simp; omega) (fun k hk => by simp [Value.ownBlock] at hk; omega)
  have hs1 := hb1.size
  rw [rounds_succ]
  go_wp2_with (first | (at_builtin; go_must (refine wpList_append_own _ rfl (.tmp 43) (.tmp 46) 24 rfl w.heap.size 5 i0 (.int .u8 0) 1 1 Tryd.underlying24 hi hz0 hz1 hz2 rfl (by decide) v1 2 _ rfl (hown1.alloc (.cells #[.int .u8 2] 5)) ⟨w1.heap.size, 0, none⟩ 1 1 [.int .u8 2] rfl rfl (cell_one_new _ _ _) (by intro u hu; simp at hu; subst hu; rfl) (by unfold maxLen; omega) (by omega) (by simp; omega) ?_); intro v2 w2 hown2 hgrow2 hnil2) | fail)
  go_ret2
  rw [show bits .or .u8 44 128 = 172 from by decide +kernel] at hown2
  exact ⟨v2, rfl, hown2, (hb1.alloc hs1 _).grown hgrow2 (by simp; omega) (fun k hk => (hown1.lt k hk).1), fun h => by have := (hnil2.1 h).2; omega⟩

set_option maxHeartbeats 1000000 in
set_option maxRecDepth 100000 in
theorem awake_any (w : World) (ht : Tab w) : Calls Tryd.prog 11 #[] w (Yes w) := by
  go_enter Tryd.func11, Tryd.ntmps11
  go_wp2_with fail
  refine (put_any w ht).mono ?_
  rintro e w1 ⟨v, rfl, hown, hb, hnn⟩
  have hB : BytesAt w1 v [50, 172, 2] := BytesAt.of_own (by simpa [bl] using hown)
  have kc := hB.conv (P := Tryd.prog) Tryd.underlying24 Tryd.underlying5 Tryd.underlying9
  rw [show strB [50, 172, 2] = { data := #[50, 172, 2] } from by decide +kernel] at kc
  clear hown hnn hB
  go_wp2
  go_ret
  exact ⟨rfl, hb⟩
end Go.Proofs.YtaannopaipjcoaaDoor
