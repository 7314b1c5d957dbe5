/-
  LAYER 5: Put, of both sides.
-/
import Derived.Test.YtoglgdkeknojkaaDoorAc
import Derived.Test.YtoglgdkeknojkaaDoorWd
import Derived.StillTailTactics
namespace Go.Proofs.YtoglgdkeknojkaaDoor
open Go.RowKit

theorem base_yes (b : Int) (w : World) (h1 : 1 ≤ b) (h2 : b ≤ 1000) : Calls Tryd.prog 19 #[.int .i64 b] w fun e w' => e = .returned (.bool true) ∧ w = w' := by
  go_enter Tryd.func19, Tryd.ntmps19
  go_wp2
  go_ret
  exact ⟨rfl, rfl⟩
theorem base_no (b : Int) (w : World) (h : b < 1 ∨ (1 ≤ b ∧ 1000 < b)) : Calls Tryd.prog 19 #[.int .i64 b] w fun e w' => e = .returned (.bool false) ∧ w = w' := by
  rcases h with h | ⟨h, h'⟩
  · go_enter Tryd.func19, Tryd.ntmps19
    go_wp2
    go_ret
    exact ⟨rfl, rfl⟩
  · have hd : decide (b ≤ 1000) = false := decide_eq_false (by omega)
    go_enter Tryd.func19, Tryd.ntmps19
    go_wp2
    go_ret
    exact ⟨rfl, rfl⟩
/-- What Put makes: fields and an error. -/
def PutF (E : Int) (l : List Fd) (w : World) (e : Ending) (w' : World) : Prop := ∃ a n c, e = .returned (.tuple #[.slice a n c, .int .i64 E]) ∧ FdsAt w' (.slice a n c) l ∧ Below w.heap.size w w'
theorem vfds_nil (w : World) : FdsAt w (.slice none 0 0) [] := ⟨none, 0, rfl, by simp, .inl rfl⟩
theorem vfds_lit (w : World) (f : Fd) : FdsAt (w.alloc (.cells f.cells.toArray 48)) (.slice (some ⟨w.heap.size, 0, none⟩) 1 1) [f] := by
  refine ⟨some ⟨w.heap.size, 0, none⟩, 1, rfl, by simp, .inr ⟨w.heap.size, 0, rfl, by simp, fun i g hi => ?_⟩⟩
  have hi0 : i = 0 := by
    have := (List.getElem?_eq_some_iff.1 hi).1
    simp at this; omega
  subst hi0
  simp at hi
  subst hi
  intro j u hj
  rw [World.cell?_alloc_at _ _ _ _ rfl]
  simpa using hj
set_option maxHeartbeats 1000000 in
set_option maxRecDepth 100000 in
theorem put_base (g : FuncId) (hg : g = 7 ∨ g = 8) (v : Va) (b : Int) (raw : Bool) (w : World) (h : b < 1 ∨ (1 ≤ b ∧ 1000 < b)) : Calls Tryd.prog g #[v.val, .int .i64 b, .bool raw] w (PutF 1 [] w) := by
  have G := Lib.hid (fun w => base_no b w h)
  obtain ⟨k, n, s⟩ := v
  simp only [Va.val]
  rcases hg with rfl | rfl
  · replace h := Lib.hid h
    go_enter Tryd.func7, Tryd.ntmps7
    go_wp2_with fail
    refine (G.out _).mono ?_
    rintro e w1 ⟨rfl, rfl⟩
    go_wp2_with fail
    go_ret2
    exact ⟨_, _, _, rfl, vfds_nil _, e_alloc _ _⟩
  · clear G
    rcases h with h | ⟨h, h'⟩
    all_goals
      go_enter Tryd.func8, Tryd.ntmps8
      go_wp2
      go_ret2
      exact ⟨_, _, _, rfl, vfds_nil _, e_alloc _ _⟩
set_option maxHeartbeats 1000000 in
set_option maxRecDepth 100000 in
theorem put_wrong (g : FuncId) (hg : g = 7 ∨ g = 8) (v : Va) (b : Int) (raw : Bool) (w : World) (ht : Tabs w) (hm : v.n ≤ 18446744073709551615) (h1 : 1 ≤ b) (h2 : b ≤ 1000) (hE : rightE v ≠ 0) : Calls Tryd.prog g #[v.val, .int .i64 b, .bool raw] w (PutF (rightE v) [] w) := by
  have G := Lib.hid (fun w => base_yes b w h1 h2)
  have R := Lib.hid (fun g hg w ht => right_any g hg v w ht hm)
  have hd : (rightE v != 0) = true := by simpa using hE
  generalize rightE v = E at *
  obtain ⟨k, n, s⟩ := v
  simp only [Va.val] at R ⊢
  replace hE := Lib.hid hE
  replace hm := Lib.hid hm
  have ht1 := Lib.hid (ht.keep (e_alloc w (.cells #[.int .i64 k, .int .u64 (n : Nat), .string s] 24)))
  replace ht := Lib.hid ht
  rcases hg with rfl | rfl
  · go_enter Tryd.func7, Tryd.ntmps7
    go_wp2_with fail
    refine (G.out _).mono ?_
    rintro e w1 ⟨rfl, rfl⟩
    go_wp2_with fail
    refine (R.out 10 (.inl rfl) _ ht1.out).mono ?_
    rintro e w1 ⟨rfl, hb⟩
    replace hb := Lib.hid hb
    go_wp2_with fail
    go_ret2
    exact ⟨_, _, _, rfl, vfds_nil _, ext_trans (e_alloc _ _) hb.out⟩
  · go_enter Tryd.func8, Tryd.ntmps8
    go_wp2_with fail
    refine (R.out 11 (.inr rfl) _ ht1.out).mono ?_
    rintro e w1 ⟨rfl, hb⟩
    replace hb := Lib.hid hb
    go_wp2_with fail
    go_ret2
    exact ⟨_, _, _, rfl, vfds_nil _, ext_trans (e_alloc _ _) hb.out⟩
theorem vbcell {W w1 : World} (hb : Below W.heap.size W w1) : (∀ b o, b < W.heap.size → w1.cell? ⟨b, o, none⟩ = W.cell? ⟨b, o, none⟩) :=
  fun b o h => hb.cell (p := ⟨b, o, none⟩) h
/-- The three cells of a boxed value stay. -/
theorem box3 {w w1 : World} {a b c : Value} (hb : Below (w.alloc (.cells #[a, b, c] 24)).heap.size (w.alloc (.cells #[a, b, c] 24)) w1) :
    w1.cell? ⟨w.heap.size, 0, none⟩ = some a ∧ w1.cell? ⟨w.heap.size, 1, none⟩ = some b ∧ w1.cell? ⟨w.heap.size, 2, none⟩ = some c := by
  have h : w.heap.size < (w.alloc (.cells #[a, b, c] 24)).heap.size := by simp
  refine ⟨?_, ?_, ?_⟩
  · rw [vbcell hb _ _ h, World.cell?_alloc_at _ _ _ _ rfl]; rfl
  · rw [vbcell hb _ _ h, World.cell?_alloc_at _ _ _ _ rfl]; rfl
  · rw [vbcell hb _ _ h, World.cell?_alloc_at _ _ _ _ rfl]; rfl
set_option maxHeartbeats 1000000 in
set_option maxRecDepth 100000 in
theorem put_none (g : FuncId) (hg : g = 7 ∨ g = 8) (b : Int) (raw : Bool) (w : World) (ht : Tabs w) (h1 : 1 ≤ b) (h2 : b ≤ 1000) : Calls Tryd.prog g #[(Va.mk 0 0 ⟨#[]⟩).val, .int .i64 b, .bool raw] w (PutF 0 [] w) := by
  have G := Lib.hid (fun w => base_yes b w h1 h2)
  have R := Lib.hid (fun g hg w ht => right_any g hg (Va.mk 0 0 ⟨#[]⟩) w ht (by decide))
  rw [show rightE (Va.mk 0 0 ⟨#[]⟩) = 0 by decide] at R
  simp only [Va.val, Int.natCast_zero] at R ⊢
  have ht1 := Lib.hid (ht.keep (e_alloc w (.cells #[.int .i64 0, .int .u64 0, .string ⟨#[]⟩] 24)))
  replace ht := Lib.hid ht
  rcases hg with rfl | rfl
  · go_enter Tryd.func7, Tryd.ntmps7
    go_wp2_with fail
    refine (G.out _).mono ?_
    rintro e w1 ⟨rfl, rfl⟩
    go_wp2_with fail
    refine (R.out 10 (.inl rfl) _ ht1.out).mono ?_
    rintro e w1 ⟨rfl, hb⟩
    obtain ⟨c0, c1, c2⟩ := box3 hb
    replace hb := Lib.hid hb
    go_wp2_with fail
    go_ret2
    exact ⟨_, _, _, rfl, vfds_nil _, ext_trans (e_alloc _ _) hb.out⟩
  · go_enter Tryd.func8, Tryd.ntmps8
    go_wp2_with fail
    refine (R.out 11 (.inr rfl) _ ht1.out).mono ?_
    rintro e w1 ⟨rfl, hb⟩
    obtain ⟨c0, c1, c2⟩ := box3 hb
    replace hb := Lib.hid hb
    go_wp2_with fail
    go_ret2
    exact ⟨_, _, _, rfl, vfds_nil _, ext_trans (e_alloc _ _) hb.out⟩
set_option maxHeartbeats 1000000 in
set_option maxRecDepth 100000 in
theorem put_raw (g : FuncId) (hg : g = 7 ∨ g = 8) (s : ByteArray) (b : Int) (w : World) (ht : Tabs w) (h1 : 1 ≤ b) (h2 : b ≤ 1000) : Calls Tryd.prog g #[(Va.mk 7 0 s).val, .int .i64 b, .bool false] w (PutF 11 [] w) := by
  have G := Lib.hid (fun w => base_yes b w h1 h2)
  have R := Lib.hid (fun g hg w ht => right_any g hg (Va.mk 7 0 s) w ht (Nat.zero_le _))
  rw [show rightE (Va.mk 7 0 s) = 0 by simp [rightE, vmost]] at R
  simp only [Va.val, Int.natCast_zero] at R ⊢
  have ht1 := Lib.hid (ht.keep (e_alloc w (.cells #[.int .i64 7, .int .u64 0, .string s] 24)))
  replace ht := Lib.hid ht
  rcases hg with rfl | rfl
  · go_enter Tryd.func7, Tryd.ntmps7
    go_wp2_with fail
    refine (G.out _).mono ?_
    rintro e w1 ⟨rfl, rfl⟩
    go_wp2_with fail
    refine (R.out 10 (.inl rfl) _ ht1.out).mono ?_
    rintro e w1 ⟨rfl, hb⟩
    obtain ⟨c0, c1, c2⟩ := box3 hb
    replace hb := Lib.hid hb
    go_wp2_with fail
    go_ret2
    exact ⟨_, _, _, rfl, vfds_nil _, ext_trans (e_alloc _ _) hb.out⟩
  · go_enter Tryd.func8, Tryd.ntmps8
    go_wp2_with fail
    refine (R.out 11 (.inr rfl) _ ht1.out).mono ?_
    rintro e w1 ⟨rfl, hb⟩
    obtain ⟨c0, c1, c2⟩ := box3 hb
    replace hb := Lib.hid hb
    go_wp2_with fail
    go_ret2
    exact ⟨_, _, _, rfl, vfds_nil _, ext_trans (e_alloc _ _) hb.out⟩
theorem kind_20 (i : Int) (hi : i = 1 ∨ i = 2 ∨ i = 3 ∨ i = 4 ∨ i = 5 ∨ i = 6 ∨ i = 7) (w : World) : Calls Tryd.prog 20 #[.int .i64 i] w fun e w' => e = .returned (.int .i64 (vkind i)) ∧ w = w' := by
  rcases hi with rfl | rfl | rfl | rfl | rfl | rfl | rfl
  all_goals
    go_enter Tryd.func20, Tryd.ntmps20
    go_wp2
    go_ret
    exact ⟨rfl, rfl⟩
end Go.Proofs.YtoglgdkeknojkaaDoor
