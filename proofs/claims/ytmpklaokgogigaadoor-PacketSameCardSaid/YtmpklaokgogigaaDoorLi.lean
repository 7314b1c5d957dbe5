/-
  LAYER 16: awake.
-/
import Derived.Test.YtmpklaokgogigaaDoorLh
import Derived.Test.YtmpklaokgogigaaDoorLe
namespace Go.Proofs.YtmpklaokgogigaaDoor.Pac
set_option linter.unusedVariables false
set_option linter.unusedSimpArgs false
open Go.Proofs.YtmpklaokgogigaaDoor
open Go.RowKit
set_option maxRecDepth 100000 in
set_option maxHeartbeats 8000000 in
theorem way_id (Q : Pk) (f c : Value) (w : World) (l : List Nat) (m : Int) (h : ∀ W, Calls Tryd.prog 78 #[.int .i64 Q.id] W (Pub.Numb l m W)) : Calls Tryd.prog 48 #[.agg (Q.v f c)] w (Pub.Numb l m w) := by
  have K := Lib.hid (Blk.new w 61 (Q.v f c))
  have c1 : (w.alloc (.cells (Q.v f c) 61)).cell? ⟨w.heap.size, 1, none⟩ = some (.int .i64 Q.id) := by rw [K.out.cell]; rfl
  replace h := Lib.hid h
  generalize Q.v f c = cs at *
  generalize Q.id = i at *
  go_enter Tryd.func48, Tryd.ntmps48
  go_wp2_with fail
  refine (h.out _).mono ?_
  rintro e w1 ⟨v, rfl, hv, b⟩
  go_wp2_with fail
  refine bodyPost_ret (v := .tuple #[v, .int .i64 m]) (by simp [results, Tryd.results48, go_sem]) rfl ⟨v, rfl, hv, ext_trans (ext_alloc _ _) b⟩
theorem pid_numb (W : World) : Calls Tryd.prog 78 #[.int .i64 5] W (Pub.Numb [0, 5] 0 W) := (Pub.pid_5 W).mono fun e w' ⟨he, hb, hw⟩ => ⟨_, he, hb, hw⟩
theorem put_ack5 (w : World) (ht : Hea.Tab3 w) : Calls Tryd.prog 13 #[.agg ((pkI 4 5).v noS noS)] w (Pub.Numb [64, 2, 0, 5] 0 w) :=
  put16_ok_48 (pkI 4 5) (pkI 4 5) noS noS 0 w ht (fun w => clean_4 (pkI 4 5) noS noS w rfl) (fun f c w => body_4 (pkI 4 5) f c w rfl) (fun f c w => flags_4 (pkI 4 5) f c w rfl) (Int.le_refl _) [0, 5] 0
    (fun f c w _ _ => way_id (pkI 4 5) f c w _ _ pid_numb) rfl 4 0 rfl rfl (by decide) (by decide) (by decide)
set_option maxRecDepth 100000 in
theorem awake16_any (w : World) (ht : Hea.Tab3 w) : Calls Tryd.prog 10 #[] w (YesW w) := by
  have P := Lib.hid (put_ack5 w ht)
  go_enter Tryd.func10, Tryd.ntmps10
  go_wp2_with fail
  refine (P.out).mono ?_
  rintro e w1 ⟨v, rfl, hv, b⟩
  have kc := hv.conv (P := Tryd.prog) Tryd.underlying48 Tryd.underlying5 Tryd.underlying9
  have hs : strB [64, 2, 0, 5] = ⟨#[64, 2, 0, 5]⟩ := by decide +kernel
  rw [hs] at kc
  obtain ⟨x, n, rfl, -, -⟩ := hv
  simp only [List.length_cons, List.length_nil, Nat.reduceAdd, Nat.zero_add] at kc
  clear hs
  go_wp2_with fail
  go_ret
  exact ⟨rfl, b⟩
end Go.Proofs.YtmpklaokgogigaaDoor.Pac
