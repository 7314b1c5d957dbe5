/-
  LAYER 14: a message's number, and awake.
-/
import Derived.Test.YtmpklaokgogigaaDoorUh
import Derived.Outline
import Derived.Deep.DeepMust
import Derived.FnLit
import Derived.Laws.EntriesVeiled
namespace Go.Proofs.YtmpklaokgogigaaDoor.Pub
set_option linter.unusedSimpArgs false
set_option linter.unusedVariables false
open Go.RowKit

set_option maxHeartbeats 1000000 in
set_option maxRecDepth 100000 in
theorem topic_a (w : World) : Calls Tryd.prog 62 #[.string ⟨#[97]⟩] w fun e w' => e = .returned (.bool true) ∧ Below w.heap.size w w' := by
  have hd : Utf8.decode ⟨#[97]⟩ 0 = (97, 1) := by decide +kernel
  have n0 : ∀ ty, (Instr.next (.pointer (some ⟨w.heap.size, 0, none⟩)) true ty).run Tryd.prog (w.iter ⟨#[97]⟩ 0) = _ := fun ty => run_next_any w ⟨#[97]⟩ 0 ty (by decide)
  rw [hd] at n0
  have n1 : ∀ ty, (Instr.next (.pointer (some ⟨w.heap.size, 0, none⟩)) true ty).run Tryd.prog (w.iter ⟨#[97]⟩ 1) = _ := fun ty => run_next_end w ⟨#[97]⟩ 1 ty (by decide)
  clear hd
  go_enter Tryd.func62, Tryd.ntmps62
  go_wp2
  refine wp_loop_rounds 2 ?_
  rw [rounds_succ]
  go_wp2
  rw [rounds_succ]
  go_wp2
  go_ret
  exact ⟨rfl, iter_below _ _ _⟩
theorem raw_a : rawL ⟨#[97]⟩ = [0, 1, 97] := by decide +kernel
theorem right_a : rightB ⟨#[97]⟩ = true := by decide +kernel
theorem put_a (w : World) : Calls Tryd.prog 96 #[.string ⟨#[97]⟩] w fun e w' => ∃ v, e = .returned (.tuple #[v, .int .i64 0]) ∧ w'.ownsRow w.heap.size 5 1 v ([0, 1, 97] : List Nat).length (bl [0, 1, 97]) ∧ Below w.heap.size w w' := by
  refine (put_ok ⟨#[97]⟩ w (by decide) right_a).mono ?_
  rintro e w' ⟨v, he, ho, hb⟩
  rw [raw_a] at ho
  exact ⟨v, he, ho, hb⟩
theorem number_1 (w : World) : Calls Tryd.prog 63 #[.int .i64 1] w fun e w' => e = .returned (.agg #[.func (.func 78) #[] #[], .func (.func 64) #[] #[]]) ∧ Below w.heap.size w w' := by
  go_enter Tryd.func63, Tryd.ntmps63
  go_wp2
  exact bodyPost_ret (v := .agg #[.func (.func 78) #[] #[], .func (.func 64) #[] #[]]) (by simp [results, Tryd.results63, go_sem]) rfl ⟨rfl, ext_alloc _ _⟩
theorem field_put (w : World) : (Instr.field 114 (.agg #[.func (.func 78) #[] #[], .func (.func 64) #[] #[]]) 0).run Tryd.prog w = .ok (.func (.func 78) #[] #[]) w := by kernel_rfl
theorem pid_ok (n : Nat) (w : World) (h1 : 1 ≤ n) (h2 : n ≤ 65535) : Calls Tryd.prog 78 #[.int .i64 n] w fun e w' => e = .returned (.tuple #[.slice (some ⟨w.heap.size, 0, none⟩) 2 2, .int .i64 0]) ∧ w' = w.alloc (.cells #[.int .u8 ((n / 256 : Nat) : Int), .int .u8 ((n % 256 : Nat) : Int)] 5) := by
  have h1' : (1 : Int) ≤ n := by omega
  have h2' : (n : Int) ≤ 65535 := by omega
  go_enter Tryd.func78, Tryd.ntmps78
  go_wp2_with fail
  refine (put2_any n _ h2).mono ?_
  rintro e w' ⟨rfl, rfl⟩
  go_wp2_with fail
  go_ret2
  exact ⟨rfl, rfl⟩
theorem lit_two (w : World) (x y : Nat) : BytesAt (w.alloc (.cells #[.int .u8 (x : Int), .int .u8 (y : Int)] 5)) (.slice (some ⟨w.heap.size, 0, none⟩) 2 2) [x, y] := by
  refine ⟨some ⟨w.heap.size, 0, none⟩, 2, rfl, ⟨by simp, fun h => by cases h⟩, .inr ⟨w.heap.size, 0, rfl, by simp, fun i hi => ?_⟩⟩
  have : i = 0 ∨ i = 1 := by simp at hi; omega
  rcases this with rfl | rfl
  · rw [World.cell?_alloc_at _ _ _ _ rfl]; rfl
  · rw [World.cell?_alloc_at _ _ _ _ rfl]; rfl
theorem pid_5 (w : World) : Calls Tryd.prog 78 #[.int .i64 5] w fun e w' => e = .returned (.tuple #[.slice (some ⟨w.heap.size, 0, none⟩) 2 2, .int .i64 0]) ∧ BytesAt w' (.slice (some ⟨w.heap.size, 0, none⟩) 2 2) [0, 5] ∧ Below w.heap.size w w' := by
  refine (pid_ok 5 w (by decide) (by decide)).mono ?_
  rintro e w' ⟨rfl, rfl⟩
  exact ⟨rfl, lit_two w 0 5, ext_alloc _ _⟩
theorem own_below {w w' : World} {B e size n : Nat} {v : Value} {xs : List Value} (h : w.ownsRow B e size v n xs) (hb : Below w.heap.size w w') : w'.ownsRow B e size v n xs := by
  obtain ⟨h1, hr⟩ := h
  refine ⟨h1, hr.imp id ?_⟩
  rintro ⟨g, cap, cur, hv, hg, hcur, rest⟩
  exact ⟨g, cap, cur, hv, hg, by rw [hb.block g (Array.getElem?_eq_some_iff.1 hcur).1]; exact hcur, rest⟩
theorem own_form {w : World} {B e n : Nat} {v : Value} {xs : List Value} (h : w.ownsRow B e 1 v (n + 1) xs) : ∃ g cap, v = .slice (some ⟨g, 0, none⟩) (n + 1) cap := by
  rcases h.2 with ⟨_, h0⟩ | ⟨g, cap, _, rfl, _⟩
  · omega
  · exact ⟨g, cap, rfl⟩
theorem five {w : World} {B : Nat} {v : Value} (h : w.ownsRow B 5 1 v ([0, 1, 97] ++ [0, 5] : List Nat).length (bl ([0, 1, 97] ++ [0, 5]))) : ∃ g cap, v = .slice (some ⟨g, 0, none⟩) 5 cap ∧ w.ownsRow B 5 1 (.slice (some ⟨g, 0, none⟩) 5 cap) 5 (bl [0, 1, 97, 0, 5]) := by
  have h' : w.ownsRow B 5 1 v (4 + 1) (bl [0, 1, 97, 0, 5]) := h
  obtain ⟨g, cap, rfl⟩ := own_form h'
  exact ⟨g, cap, rfl, h'⟩
theorem grown_ext {B : Nat} {w w' : World} {v : Value} {n : Nat} {xs : List Value} {e : TypeId} (hown : w.ownsRow B e 1 v n xs) (hg : w.grownBy w' v.ownBlock) (hB : B ≤ w.heap.size) : Below B w w' :=
  (Below.refl _ _).grown hg hB (fun k hk => (hown.lt k hk).1)
def Put14 (l : List Nat) (w : World) (e : Ending) (w' : World) : Prop := ∃ v, e = .returned (.tuple #[v, .int .i64 0]) ∧ BytesAt w' v l ∧ Below w.heap.size w w'
set_option maxHeartbeats 2000000 in
set_option maxRecDepth 100000 in
theorem put14_a (w : World) : Calls Tryd.prog 77 #[.agg #[.string ⟨#[97]⟩, .string ⟨#[120]⟩, .int .i64 1, .bool false], .int .i64 5] w (Put14 [0, 1, 97, 0, 5, 120] w) := by
  obtain ⟨i0, hi, hz0, hz1, hz2⟩ := info_parts info5
  have b0 := Lib.hid (ext_alloc w (.cells #[.string ⟨#[97]⟩, .string ⟨#[120]⟩, .int .i64 1, .bool false] 27))
  go_enter Tryd.func77, Tryd.ntmps77
  go_wp2_with fail
  refine (topic_a _).mono ?_
  rintro e w1 ⟨rfl, b1⟩
  have c1 := b1
  have b1 := Lib.hid (ext_trans b0.out b1)
  have c00 : w1.cell? ⟨w.heap.size, 0, none⟩ = some (.string ⟨#[97]⟩) := by rw [c1.cell (by simp), World.cell?_alloc_at _ _ _ _ rfl]; rfl
  have c01 : w1.cell? ⟨w.heap.size, 1, none⟩ = some (.string ⟨#[120]⟩) := by rw [c1.cell (by simp), World.cell?_alloc_at _ _ _ _ rfl]; rfl
  have c02 : w1.cell? ⟨w.heap.size, 2, none⟩ = some (.int .i64 1) := by rw [c1.cell (by simp), World.cell?_alloc_at _ _ _ _ rfl]; rfl
  have hs1 : w.heap.size < w1.heap.size := by have := c1.size; simp at this; omega
  clear c1
  go_wp2_with fail
  refine (put_a _).mono ?_
  rintro e w2 ⟨v2, rfl, o2, b2⟩
  have d01 : w2.cell? ⟨w.heap.size, 1, none⟩ = some (.string ⟨#[120]⟩) := by rw [b2.cell hs1]; exact c01
  have d02 : w2.cell? ⟨w.heap.size, 2, none⟩ = some (.int .i64 1) := by rw [b2.cell hs1]; exact c02
  have hs2 : w1.heap.size ≤ w2.heap.size := b2.size
  have hs2' : w.heap.size < w2.heap.size := by omega
  have kf := field_put
  replace b2 := Lib.hid b2
  clear c00 c01 c02
  go_wp2_with fail
  refine (number_1 _).mono ?_
  rintro e w3 ⟨rfl, b3⟩
  have e01 : w3.cell? ⟨w.heap.size, 1, none⟩ = some (.string ⟨#[120]⟩) := by rw [b3.cell hs2']; exact d01
  have hs3 : w2.heap.size ≤ w3.heap.size := b3.size
  have hs3' : w.heap.size < w3.heap.size := by omega
  replace b3 := Lib.hid b3
  clear d01 d02
  go_wp2_with fail
  refine (pid_5 _).mono ?_
  rintro e w4 ⟨rfl, a4, b4⟩
  have f01 : w4.cell? ⟨w.heap.size, 1, none⟩ = some (.string ⟨#[120]⟩) := by rw [b4.cell hs3']; exact e01
  have hs4 : w3.heap.size ≤ w4.heap.size := b4.size
  -- the text's row stands as it stood
  have b24 := ext_trans b3.out b4
  have o4 : w4.ownsRow w1.heap.size 5 1 v2 ([0, 1, 97] : List Nat).length (bl [0, 1, 97]) := own_below o2 (by simpa using ext_trans b3.out b4)
  have B4 := Lib.hid (ext_trans b1.out (ext_trans b2.out b24))
  clear e01 b24 b4 o2
  have hw1 : w1.heap.size ≤ w4.heap.size := by omega
  go_wp2_with (first
    | (at_builtin; refine wpList_append_bytes _ rfl (.tmp 42) (.tmp 43) 48 rfl w1.heap.size 5 i0 Tryd.underlying48 hi hz0 hz1 hz2 v2 [0, 1, 97] [0, 5] rfl o4 a4 (by simp) hw1 ?_; intro v5 w5 o5 g5 n5; have b5 : Below w1.heap.size w4 w5 := grown_ext o4 g5 hw1; have g01 : w5.cell? ⟨w.heap.size, 1, none⟩ = some (.string ⟨#[120]⟩) := (by rw [b5.cell hs1]; exact f01); obtain ⟨q5, r5, rfl, o5'⟩ := five o5; have hw5 : w1.heap.size ≤ w5.heap.size := (by have := b5.size; omega); clear o4 a4 g5 n5 o5)
    | (at_builtin; go_must (refine Lib.wpList_append_own_string _ rfl (.tmp 52) (.tmp 54) 48 9 rfl w1.heap.size 5 i0 Tryd.underlying48 Tryd.underlying9 hi hz0 hz1 hz2 (.slice (some ⟨q5, 0, none⟩) 5 r5) 5 (bl [0, 1, 97, 0, 5]) rfl o5' ⟨#[120]⟩ rfl (show 5 + 1 ≤ maxLen by unfold maxLen; omega) (show 5 + 1 ≤ 140737488355328 by omega) hw5 ?_); intro v6 w6 o6 g6 n6))
  go_ret2
  have hL : bl [0, 1, 97, 0, 5] ++ Lib.strCells ⟨#[120]⟩ = bl [0, 1, 97, 0, 5, 120] := rfl
  rw [hL] at o6
  have b6 : Below w1.heap.size w5 w6 := grown_ext o5' g6 hw5
  exact ⟨v6, rfl, BytesAt.of_own (l := [0, 1, 97, 0, 5, 120]) o6, B4.out.trans ((b5.mono (by omega)).trans (b6.mono (by omega)))⟩
end Go.Proofs.YtmpklaokgogigaaDoor.Pub
