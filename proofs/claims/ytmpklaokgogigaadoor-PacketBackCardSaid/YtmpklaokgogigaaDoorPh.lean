/-
  LAYER 14: a message's number, and awake.
-/
import Derived.Test.YtmpklaokgogigaaDoorUh
import Derived.Outline
import Derived.Deep.DeepMust
import Derived.FnLit
import Derived.Laws.EntriesVeiled
import Derived.Test.YtmpklaokgogigaaDoorUm
import Derived.Laws.IdiomStrings
namespace Go.Proofs.YtmpklaokgogigaaDoor.Pub
set_option linter.unusedSimpArgs false
set_option linter.unusedVariables false
open Go.RowKit

set_option maxHeartbeats 1000000 in
set_option maxRecDepth 100000 in
theorem topic_a (w : World) : Calls Tryd.prog 62 #[.string ⟨#[97]⟩] w fun e w' => e = .returned (.bool true) ∧ Below w.heap.size w w' := by
  have hd : Utf8.decode ⟨#[97]⟩ 0 = (97, 1) := by decide +kernel
  have n0 : ∀ ty, (Instr.next (.pointer (some ⟨w.heap.size, 0, none⟩)) true ty).run Tryd.prog (w.iter ⟨#[97]⟩ 0) = _ := fun ty => run_next_any w ⟨#[97]⟩ 0 ty (by decide)
  rw [hd] at n0
  have n1 : ∀ ty, (Instr.next (.pointer (some ⟨w.heap.size, 0, none⟩)) true ty).run Tryd.prog (w.iter ⟨#[97]⟩ 1) = _ := fun ty => run_next_end w ⟨#[97]⟩ 1 ty (by decide)
  clear hd
  go_enter Tryd.func62, Tryd.ntmps62
  go_wp2
  refine wp_loop_rounds 2 ?_
  rw [rounds_succ]
  go_wp2
  rw [rounds_succ]
  go_wp2
  go_ret
  exact ⟨rfl, iter_below _ _ _⟩
theorem raw_a : rawL ⟨#[97]⟩ = [0, 1, 97] := by decide +kernel
theorem right_a : rightB ⟨#[97]⟩ = true := by decide +kernel
theorem put_a (w : World) : Calls Tryd.prog 96 #[.string ⟨#[97]⟩] w fun e w' => ∃ v, e = .returned (.tuple #[v, .int .i64 0]) ∧ w'.ownsRow w.heap.size 5 1 v ([0, 1, 97] : List Nat).length (bl [0, 1, 97]) ∧ Below w.heap.size w w' := by
  refine (put_ok ⟨#[97]⟩ w (by decide) right_a).mono ?_
  rintro e w' ⟨v, he, ho, hb⟩
  rw [raw_a] at ho
  exact ⟨v, he, ho, hb⟩
theorem number_1 (w : World) : Calls Tryd.prog 63 #[.int .i64 1] w fun e w' => e = .returned (.agg #[.func (.func 78) #[] #[], .func (.func 64) #[] #[]]) ∧ Below w.heap.size w w' := by
  go_enter Tryd.func63, Tryd.ntmps63
  go_wp2
  exact bodyPost_ret (v := .agg #[.func (.func 78) #[] #[], .func (.func 64) #[] #[]]) (by simp [results, Tryd.results63, go_sem]) rfl ⟨rfl, ext_alloc _ _⟩
theorem field_put (w : World) : (Instr.field 114 (.agg #[.func (.func 78) #[] #[], .func (.func 64) #[] #[]]) 0).run Tryd.prog w = .ok (.func (.func 78) #[] #[]) w := by kernel_rfl
theorem pid_ok (n : Nat) (w : World) (h1 : 1 ≤ n) (h2 : n ≤ 65535) : Calls Tryd.prog 78 #[.int .i64 n] w fun e w' => e = .returned (.tuple #[.slice (some ⟨w.heap.size, 0, none⟩) 2 2, .int .i64 0]) ∧ w' = w.alloc (.cells #[.int .u8 ((n / 256 : Nat) : Int), .int .u8 ((n % 256 : Nat) : Int)] 5) := by
  have h1' : (1 : Int) ≤ n := by omega
  have h2' : (n : Int) ≤ 65535 := by omega
  go_enter Tryd.func78, Tryd.ntmps78
  go_wp2_with fail
  refine (put2_any n _ h2).mono ?_
  rintro e w' ⟨rfl, rfl⟩
  go_wp2_with fail
  go_ret2
  exact ⟨rfl, rfl⟩
theorem lit_two (w : World) (x y : Nat) : BytesAt (w.alloc (.cells #[.int .u8 (x : Int), .int .u8 (y : Int)] 5)) (.slice (some ⟨w.heap.size, 0, none⟩) 2 2) [x, y] := by
  refine ⟨some ⟨w.heap.size, 0, none⟩, 2, rfl, ⟨by simp, fun h => by cases h⟩, .inr ⟨w.heap.size, 0, rfl, by simp, fun i hi => ?_⟩⟩
  have : i = 0 ∨ i = 1 := by simp at hi; omega
  rcases this with rfl | rfl
  · rw [World.cell?_alloc_at _ _ _ _ rfl]; rfl
  · rw [World.cell?_alloc_at _ _ _ _ rfl]; rfl
theorem pid_5 (w : World) : Calls Tryd.prog 78 #[.int .i64 5] w fun e w' => e = .returned (.tuple #[.slice (some ⟨w.heap.size, 0, none⟩) 2 2, .int .i64 0]) ∧ BytesAt w' (.slice (some ⟨w.heap.size, 0, none⟩) 2 2) [0, 5] ∧ Below w.heap.size w w' := by
  refine (pid_ok 5 w (by decide) (by decide)).mono ?_
  rintro e w' ⟨rfl, rfl⟩
  exact ⟨rfl, lit_two w 0 5, ext_alloc _ _⟩
theorem own_below {w w' : World} {B e size n : Nat} {v : Value} {xs : List Value} (h : w.ownsRow B e size v n xs) (hb : Below w.heap.size w w') : w'.ownsRow B e size v n xs := by
  obtain ⟨h1, hr⟩ := h
  refine ⟨h1, hr.imp id ?_⟩
  rintro ⟨g, cap, cur, hv, hg, hcur, rest⟩
  exact ⟨g, cap, cur, hv, hg, by rw [hb.block g (Array.getElem?_eq_some_iff.1 hcur).1]; exact hcur, rest⟩
theorem own_form {w : World} {B e n : Nat} {v : Value} {xs : List Value} (h : w.ownsRow B e 1 v (n + 1) xs) : ∃ g cap, v = .slice (some ⟨g, 0, none⟩) (n + 1) cap := by
  rcases h.2 with ⟨_, h0⟩ | ⟨g, cap, _, rfl, _⟩
  · omega
  · exact ⟨g, cap, rfl⟩
theorem five {w : World} {B : Nat} {v : Value} (h : w.ownsRow B 5 1 v ([0, 1, 97] ++ [0, 5] : List Nat).length (bl ([0, 1, 97] ++ [0, 5]))) : ∃ g cap, v = .slice (some ⟨g, 0, none⟩) 5 cap ∧ w.ownsRow B 5 1 (.slice (some ⟨g, 0, none⟩) 5 cap) 5 (bl [0, 1, 97, 0, 5]) := by
  have h' : w.ownsRow B 5 1 v (4 + 1) (bl [0, 1, 97, 0, 5]) := h
  obtain ⟨g, cap, rfl⟩ := own_form h'
  exact ⟨g, cap, rfl, h'⟩
theorem grown_ext {B : Nat} {w w' : World} {v : Value} {n : Nat} {xs : List Value} {e : TypeId} (hown : w.ownsRow B e 1 v n xs) (hg : w.grownBy w' v.ownBlock) (hB : B ≤ w.heap.size) : Below B w w' :=
  (Below.refl _ _).grown hg hB (fun k hk => (hown.lt k hk).1)
def Put14 (l : List Nat) (w : World) (e : Ending) (w' : World) : Prop := ∃ v, e = .returned (.tuple #[v, .int .i64 0]) ∧ BytesAt w' v l ∧ Below w.heap.size w w'
set_option maxHeartbeats 2000000 in
set_option maxRecDepth 100000 in
theorem put14_a (w : World) : Calls Tryd.prog 77 #[.agg #[.string ⟨#[97]⟩, .string ⟨#[120]⟩, .int .i64 1, .bool false], .int .i64 5] w (Put14 [0, 1, 97, 0, 5, 120] w) := by
  obtain ⟨i0, hi, hz0, hz1, hz2⟩ := info_parts info5
  have b0 := Lib.hid (ext_alloc w (.cells #[.string ⟨#[97]⟩, .string ⟨#[120]⟩, .int .i64 1, .bool false] 27))
  go_enter Tryd.func77, Tryd.ntmps77
  go_wp2_with fail
  refine (topic_a _).mono ?_
  rintro e w1 ⟨rfl, b1⟩
  have c1 := b1
  have b1 := Lib.hid (ext_trans b0.out b1)
  have c00 : w1.cell? ⟨w.heap.size, 0, none⟩ = some (.string ⟨#[97]⟩) := by rw [c1.cell (by simp), World.cell?_alloc_at _ _ _ _ rfl]; rfl
  have c01 : w1.cell? ⟨w.heap.size, 1, none⟩ = some (.string ⟨#[120]⟩) := by rw [c1.cell (by simp), World.cell?_alloc_at _ _ _ _ rfl]; rfl
  have c02 : w1.cell? ⟨w.heap.size, 2, none⟩ = some (.int .i64 1) := by rw [c1.cell (by simp), World.cell?_alloc_at _ _ _ _ rfl]; rfl
  have hs1 : w.heap.size < w1.heap.size := by have := c1.size; simp at this; omega
  clear c1
  go_wp2_with fail
  refine (put_a _).mono ?_
  rintro e w2 ⟨v2, rfl, o2, b2⟩
  have d01 : w2.cell? ⟨w.heap.size, 1, none⟩ = some (.string ⟨#[120]⟩) := by rw [b2.cell hs1]; exact c01
  have d02 : w2.cell? ⟨w.heap.size, 2, none⟩ = some (.int .i64 1) := by rw [b2.cell hs1]; exact c02
  have hs2 : w1.heap.size ≤ w2.heap.size := b2.size
  have hs2' : w.heap.size < w2.heap.size := by omega
  have kf := field_put
  replace b2 := Lib.hid b2
  clear c00 c01 c02
  go_wp2_with fail
  refine (number_1 _).mono ?_
  rintro e w3 ⟨rfl, b3⟩
  have e01 : w3.cell? ⟨w.heap.size, 1, none⟩ = some (.string ⟨#[120]⟩) := by rw [b3.cell hs2']; exact d01
  have hs3 : w2.heap.size ≤ w3.heap.size := b3.size
  have hs3' : w.heap.size < w3.heap.size := by omega
  replace b3 := Lib.hid b3
  clear d01 d02
  go_wp2_with fail
  refine (pid_5 _).mono ?_
  rintro e w4 ⟨rfl, a4, b4⟩
  have f01 : w4.cell? ⟨w.heap.size, 1, none⟩ = some (.string ⟨#[120]⟩) := by rw [b4.cell hs3']; exact e01
  have hs4 : w3.heap.size ≤ w4.heap.size := b4.size
  -- the text's row stands as it stood
  have b24 := ext_trans b3.out b4
  have o4 : w4.ownsRow w1.heap.size 5 1 v2 ([0, 1, 97] : List Nat).length (bl [0, 1, 97]) := own_below o2 (by simpa using ext_trans b3.out b4)
  have B4 := Lib.hid (ext_trans b1.out (ext_trans b2.out b24))
  clear e01 b24 b4 o2
  have hw1 : w1.heap.size ≤ w4.heap.size := by omega
  go_wp2_with (first
    | (at_builtin; refine wpList_append_bytes _ rfl (.tmp 42) (.tmp 43) 48 rfl w1.heap.size 5 i0 Tryd.underlying48 hi hz0 hz1 hz2 v2 [0, 1, 97] [0, 5] rfl o4 a4 (by simp) hw1 ?_; intro v5 w5 o5 g5 n5; have b5 : Below w1.heap.size w4 w5 := grown_ext o4 g5 hw1; have g01 : w5.cell? ⟨w.heap.size, 1, none⟩ = some (.string ⟨#[120]⟩) := (by rw [b5.cell hs1]; exact f01); obtain ⟨q5, r5, rfl, o5'⟩ := five o5; have hw5 : w1.heap.size ≤ w5.heap.size := (by have := b5.size; omega); clear o4 a4 g5 n5 o5)
    | (at_builtin; go_must (refine Lib.wpList_append_own_string _ rfl (.tmp 52) (.tmp 54) 48 9 rfl w1.heap.size 5 i0 Tryd.underlying48 Tryd.underlying9 hi hz0 hz1 hz2 (.slice (some ⟨q5, 0, none⟩) 5 r5) 5 (bl [0, 1, 97, 0, 5]) rfl o5' ⟨#[120]⟩ rfl (show 5 + 1 ≤ maxLen by unfold maxLen; omega) (show 5 + 1 ≤ 140737488355328 by omega) hw5 ?_); intro v6 w6 o6 g6 n6))
  go_ret2
  have hL : bl [0, 1, 97, 0, 5] ++ Lib.strCells ⟨#[120]⟩ = bl [0, 1, 97, 0, 5, 120] := rfl
  rw [hL] at o6
  have b6 : Below w1.heap.size w5 w6 := grown_ext o5' g6 hw5
  exact ⟨v6, rfl, BytesAt.of_own (l := [0, 1, 97, 0, 5, 120]) o6, B4.out.trans ((b5.mono (by omega)).trans (b6.mono (by omega)))⟩
end Go.Proofs.YtmpklaokgogigaaDoor.Pub

/-
  LAYER 14: numbers that stand alone.
-/
namespace Go.Proofs.YtmpklaokgogigaaDoor.Pub
set_option linter.unusedSimpArgs false
set_option linter.unusedVariables false
open Go.RowKit

/-- A string's bytes in a row of their own. -/
theorem bytes_of (s : ByteArray) (w : World) : ∃ v w', (convert 9 48 (.string s)).run Tryd.prog w = .ok v w' ∧ BytesAt w' v (txtL s) ∧ Below w.heap.size w w' := by
  refine ⟨_, _, run_bytes_of_string w 9 48 5 s Tryd.underlying9 Tryd.underlying48 Tryd.underlying5, ?_, (Below.refl _ _).drew.alloc (Nat.le_refl _) _⟩
  have hcap : s.size ≤ grownCap w s.size 0 5 := by
    exact grownCap_ge _ _ _ _
  refine ⟨some ⟨w.heap.size, 0, none⟩, _, by rw [txtL_length], ⟨by rw [txtL_length]; exact hcap, fun h => by cases h⟩, .inr ⟨w.heap.size, 0, rfl, by simp, fun i hi => ?_⟩⟩
  rw [txtL_length] at hi
  have hi' : i < s.data.size := hi
  have := cell_of_row (w.drew.alloc (.cells (bytesRow s (grownCap w s.size 0 5)) 5 ((bytesRow s (grownCap w s.size 0 5)).size, (bytesRow s (grownCap w s.size 0 5)).size + 1))) w.heap.size (0 + i) _ 5 _ (heap_alloc_new _ _)
  rw [this, Nat.zero_add, bytesRow_at s _ i hi']
  simp [txtL, List.getD, Array.getElem?_eq_getElem hi']
def ofF (s : ByteArray) : Int × Int := if s.size = 2 then (if 256 * gB s 0 + gB s 1 = 0 then (0, 1) else (((256 * gB s 0 + gB s 1 : Nat) : Int), 0)) else (0, 4)
def Of2 (r : Int × Int) (w : World) (e : Ending) (w' : World) : Prop := e = .returned (.tuple #[.int .i64 r.1, .int .i64 r.2]) ∧ Below w.heap.size w w'
theorem txt_get (s : ByteArray) (i : Nat) (h : i < s.size) : (txtL s).getD i 0 = gB s i := by
  rw [← gB_at s i h]
  have h' : i < s.data.size := h
  unfold txtL
  simp only [List.getD, List.getElem?_map, Array.getElem?_toList, Array.getElem?_eq_getElem h', Option.map_some, Option.getD_some]
  rfl
theorem get2_txt (s : ByteArray) (h : s.size = 2) : get2V (txtL s) 0 = (((256 * gB s 0 + gB s 1 : Nat) : Int), 2, 0) := by
  unfold get2V
  rw [txtL_length, h, if_neg (by decide), if_neg (by decide)]
  simp only [Int.toNat_zero, Nat.zero_add]
  rw [txt_get s 0 (by omega), txt_get s 1 (by omega)]
  simp
theorem txt_lt (s : ByteArray) : ∀ x ∈ txtL s, x < 256 := by
  intro x hx
  simp only [txtL, List.mem_map] at hx
  obtain ⟨u, _, rfl⟩ := hx
  exact UInt8.toNat_lt _
set_option maxRecDepth 100000 in
theorem ofid_short (f : FuncId) (hf : f = 34 ∨ f = 41) (s : ByteArray) (w : World) (h : s.size ≠ 2) (hs : s.size ≤ 140737488355328) : Calls Tryd.prog f #[.string s] w (Of2 (0, 4) w) := by
  have h' : ((s.size : Int) != 2) = true := by simp; omega
  replace h := Lib.hid h
  rcases hf with rfl | rfl
  · go_enter Tryd.func34, Tryd.ntmps34
    go_wp2_with fail
    go_ret2
    exact ⟨rfl, Below.refl _ _⟩
  · go_enter Tryd.func41, Tryd.ntmps41
    go_wp2_with fail
    go_ret2
    exact ⟨rfl, Below.refl _ _⟩
end Go.Proofs.YtmpklaokgogigaaDoor.Pub

/-
  LAYER 14: numbers that stand alone, of two bytes.
-/
namespace Go.Proofs.YtmpklaokgogigaaDoor.Pub
set_option linter.unusedSimpArgs false
set_option linter.unusedVariables false
open Go.RowKit

def IdPost (n : Int) (w : World) (e : Ending) (w' : World) : Prop :=
  e = .returned (.tuple #[.int .i64 n, .int .i64 (if n = 0 then 0 else 2), .int .i64 (if n = 0 then 1 else 0)]) ∧ ∃ k, w' = w.drewN k
set_option maxRecDepth 100000 in
theorem getid (v : Value) (l : List Nat) (n : Int) (w : World) (hb : BytesAt w v l) (hl : l.length ≤ 140737488355328) (h256 : ∀ x ∈ l, x < 256) (hg : get2V l 0 = (n, 2, 0)) :
    Calls Tryd.prog 64 #[v, .int .i64 0] w (IdPost n w) := by
  have G := get2_any v l 0 w hb h256 hl (by decide)
  rw [hg] at G
  simp only at G
  obtain ⟨a, cap, rfl, -, -⟩ := hb
  replace G := Lib.hid G
  clear hg h256
  by_cases h : n = 0
  · subst h
    go_enter Tryd.func64, Tryd.ntmps64
    go_wp2_with fail
    refine (G.out).mono ?_
    rintro e w' ⟨rfl, k, rfl⟩
    go_wp2_with fail
    go_ret3
    exact ⟨by simp, k, rfl⟩
  · have hb : (n == 0) = false := beq_eq_false_iff_ne.2 h
    have h' := Lib.hid h
    clear h
    go_enter Tryd.func64, Tryd.ntmps64
    go_wp2_with fail
    refine (G.out).mono ?_
    rintro e w' ⟨rfl, k, rfl⟩
    go_wp2_with fail
    go_ret3
    exact ⟨by rw [if_neg h'.out, if_neg h'.out]; rfl, k, rfl⟩
set_option maxRecDepth 100000 in
theorem ofid_two (s : ByteArray) (w : World) (h : s.size = 2) : Calls Tryd.prog 34 #[.string s] w (Of2 (ofF s) w) := by
  obtain ⟨v, w1, hconv, a1, b1⟩ := bytes_of s w
  have I := getid v (txtL s) _ w1 a1 (by rw [txtL_length]; omega) (txt_lt s) (get2_txt s h)
  have hf : ofF s = if 256 * gB s 0 + gB s 1 = 0 then (0, 1) else (((256 * gB s 0 + gB s 1 : Nat) : Int), 0) := by unfold ofF; rw [if_pos h]
  rw [hf]
  clear hf
  generalize 256 * gB s 0 + gB s 1 = n at *
  have h' : ((s.size : Int) != 2) = false := by simp; omega
  obtain ⟨x, c, rfl, -, -⟩ := a1
  unfold IdPost at I
  replace b1 := Lib.hid b1
  have hsz : s.size ≤ 2 := by omega
  replace h := Lib.hid h
  by_cases hn : n = 0
  · subst hn
    simp only [Int.ofNat_eq_natCast, Int.natCast_zero, if_true] at I
    replace I := Lib.hid I
    go_enter Tryd.func34, Tryd.ntmps34
    go_wp2_with fail
    refine (I.out).mono ?_
    rintro e w' ⟨rfl, k, rfl⟩
    go_wp2_with fail
    go_ret2
    exact ⟨rfl, below_drewN b1.out k⟩
  · have hz : ¬ (n : Int) = 0 := by omega
    rw [if_neg hz, if_neg hz] at I
    rw [if_neg hn]
    replace I := Lib.hid I
    clear hz hn
    go_enter Tryd.func34, Tryd.ntmps34
    go_wp2_with fail
    refine (I.out).mono ?_
    rintro e w' ⟨rfl, k, rfl⟩
    go_wp2_with fail
    go_ret2
    exact ⟨rfl, below_drewN b1.out k⟩
set_option maxRecDepth 100000 in
theorem rofid_two (s : ByteArray) (w : World) (h : s.size = 2) : Calls Tryd.prog 41 #[.string s] w (Of2 (ofF s) w) := by
  obtain ⟨v, w1, hconv, a1, b1⟩ := bytes_of s w
  have I := rget2_any v (txtL s) 0 w1 a1 (txt_lt s) (by rw [txtL_length]; omega) (by decide)
  rw [get2_txt s h] at I
  have hf : ofF s = if 256 * gB s 0 + gB s 1 = 0 then (0, 1) else (((256 * gB s 0 + gB s 1 : Nat) : Int), 0) := by unfold ofF; rw [if_pos h]
  rw [hf]
  clear hf
  generalize 256 * gB s 0 + gB s 1 = n at *
  have h' : ((s.size : Int) != 2) = false := by simp; omega
  obtain ⟨x, c, rfl, -, -⟩ := a1
  simp only at I
  replace I := Lib.hid I
  replace b1 := Lib.hid b1
  have hsz : s.size ≤ 2 := by omega
  replace h := Lib.hid h
  by_cases hn : n = 0
  · subst hn
    go_enter Tryd.func41, Tryd.ntmps41
    go_wp2_with fail
    refine (I.out).mono ?_
    rintro e w' ⟨rfl, k, rfl⟩
    go_wp2_with fail
    go_ret2
    exact ⟨rfl, below_drewN b1.out k⟩
  · have hb : ((n : Int) == 0) = false := beq_eq_false_iff_ne.2 (by omega)
    rw [if_neg hn]
    replace hn := Lib.hid hn
    go_enter Tryd.func41, Tryd.ntmps41
    go_wp2_with fail
    refine (I.out).mono ?_
    rintro e w' ⟨rfl, k, rfl⟩
    go_wp2_with fail
    go_ret2
    exact ⟨rfl, below_drewN b1.out k⟩
theorem ofid_any (s : ByteArray) (w : World) (hs : s.size ≤ 140737488355328) : Calls Tryd.prog 34 #[.string s] w (Of2 (ofF s) w) := by
  by_cases h : s.size = 2
  · exact ofid_two s w h
  · have : ofF s = (0, 4) := by unfold ofF; rw [if_neg h]
    rw [this]; exact ofid_short 34 (.inl rfl) s w h hs
theorem rofid_any (s : ByteArray) (w : World) (hs : s.size ≤ 140737488355328) : Calls Tryd.prog 41 #[.string s] w (Of2 (ofF s) w) := by
  by_cases h : s.size = 2
  · exact rofid_two s w h
  · have : ofF s = (0, 4) := by unfold ofF; rw [if_neg h]
    rw [this]; exact ofid_short 41 (.inr rfl) s w h hs
end Go.Proofs.YtmpklaokgogigaaDoor.Pub

/-
  LAYER 14: numbers made, of both sides alike.
-/
namespace Go.Proofs.YtmpklaokgogigaaDoor.Pub
set_option linter.unusedSimpArgs false
set_option linter.unusedVariables false
open Go.RowKit

def Numb (l : List Nat) (x : Int) (w : World) (e : Ending) (w' : World) : Prop := ∃ v, e = .returned (.tuple #[v, .int .i64 x]) ∧ BytesAt w' v l ∧ Below w.heap.size w w'
theorem of_made (k : Nat) (h1 : 1 ≤ k) (h2 : k ≤ 65535) : ofF (strB [k / 256, k % 256]) = ((k : Int), 0) := by
  have hs : (strB [k / 256, k % 256]).size = 2 := by rw [strB_size]; rfl
  have e0 : gB (strB [k / 256, k % 256]) 0 = k / 256 := by
    rw [← gB_at _ _ (by omega)]
    show (UInt8.ofNat (k / 256)).toNat = k / 256
    simp; omega
  have e1 : gB (strB [k / 256, k % 256]) 1 = k % 256 := by
    rw [← gB_at _ _ (by omega)]
    show (UInt8.ofNat (k % 256)).toNat = k % 256
    simp
  unfold ofF
  rw [if_pos hs, e0, e1, show 256 * (k / 256) + k % 256 = k from by omega, if_neg (by omega)]
end Go.Proofs.YtmpklaokgogigaaDoor.Pub

/-
  LAYER 14: which topics may be, of both sides.
-/
namespace Go.Proofs.YtmpklaokgogigaaDoor.Pub
set_option linter.unusedSimpArgs false
set_option linter.unusedVariables false
open Go.RowKit

def Clean (g : Nat → Nat) (n i : Nat) : Prop := ∀ k, i ≤ k → k < n → g k ≠ 43 ∧ g k ≠ 35
def topicB (s : ByteArray) : Bool := decide (s.size ≠ 0) && s.data.toList.all (fun c => c != 43 && c != 35)
theorem clean_iff (s : ByteArray) : (s.data.toList.all (fun c => c != 43 && c != 35)) = true ↔ Clean (gB s) s.size 0 := by
  rw [List.all_eq_true]
  constructor
  · intro h k _ hk
    rw [← gB_at s k hk]
    have hm : s[k] ∈ s.data.toList := by
      have hk' : k < s.data.size := hk
      exact Array.mem_toList_iff.2 (Array.getElem_mem hk')
    have := h _ hm
    simp only [Bool.and_eq_true, bne_iff_ne, ne_eq] at this
    refine ⟨fun e => this.1 (UInt8.toNat_inj.1 e), fun e => this.2 (UInt8.toNat_inj.1 e)⟩
  · intro h c hc
    obtain ⟨k, hk, rfl⟩ := List.getElem_of_mem hc
    have hk' : k < s.size := by rw [Array.length_toList] at hk; exact hk
    have := h k (Nat.zero_le _) hk'
    rw [← gB_at s k hk'] at this
    simp only [Bool.and_eq_true, bne_iff_ne, ne_eq]
    refine ⟨fun e => this.1 ?_, fun e => this.2 ?_⟩
    · have : s[k] = 43 := by rw [← e]; rfl
      rw [this]; rfl
    · have : s[k] = 35 := by rw [← e]; rfl
      rw [this]; rfl
theorem Clean.skip {g : Nat → Nat} {n i w : Nat} (h1 : 1 ≤ w) (hw : ∀ k, 0 < k → k < w → 128 ≤ g (i + k)) (h0 : g i ≠ 43 ∧ g i ≠ 35) : Clean g n i ↔ Clean g n (i + w) := by
  constructor
  · intro h k hk hn; exact h k (by omega) hn
  · intro h k hk hn
    by_cases h2 : i + w ≤ k
    · exact h k h2 hn
    · by_cases h3 : k = i
      · subst h3; exact h0
      · have := hw (k - i) (by omega) (by omega)
        rw [show i + (k - i) = k by omega] at this
        omega
/-- The rune at a place is below 128 just if its byte is, and then they are one. -/
theorem stp_low (g : Nat → Nat) (n i : Nat) : (g i < 128 → (stp g n i) = (1, g i)) ∧ (128 ≤ g i → (stp g n i).1 ≠ 0 → 128 ≤ (stp g n i).2) := by
  constructor
  · intro h; unfold stp; rw [if_pos h]
  · intro h
    unfold stp
    rw [if_neg (by omega)]
    split
    · intro _; simp; omega
    · split
      · split
        · intro h; exact absurd rfl h
        · intro _; simp; omega
      · split
        · split
          · intro h; exact absurd rfl h
          · intro _; simp; omega
        · intro h; exact absurd rfl h
/-- The decoder's rune and width at a place. -/
theorem rune_at (s : ByteArray) (i : Nat) : ∃ (c w : Nat), Utf8.decode s i = (c, w) ∧ 1 ≤ w ∧ w ≤ 4 ∧ (∀ k, 0 < k → k < w → i + k < s.size ∧ 128 ≤ gB s (i + k)) ∧ ((c = 43 ↔ gB s i = 43) ∧ (c = 35 ↔ gB s i = 35)) ∧ c ≤ 1114111 := by
  have hd := decode_stp s i
  have hl := stp_low (gB s) s.size i
  have hs := stp_small (gB s) s.size i
  have ht := stp_tail (gB s) s.size i
  have hle := stp_le (gB s) s.size i (gB_lt s)
  by_cases h0 : (stp (gB s) s.size i).1 = 0
  · rw [if_pos h0] at hd
    refine ⟨65533, 1, hd, by omega, by omega, fun k h1 h2 => by omega, ?_, by omega⟩
    have : 128 ≤ gB s i := by
      by_cases h : gB s i < 128
      · rw [hl.1 h] at h0; simp at h0
      · omega
    omega
  · rw [if_neg h0] at hd
    refine ⟨_, _, hd, by omega, hs, fun k h1 h2 => ⟨(ht k h1 h2).1, (ht k h1 h2).2.1⟩, ?_, hle⟩
    by_cases h : gB s i < 128
    · rw [hl.1 h]; simp
    · have := hl.2 (by omega) h0
      omega
set_option maxHeartbeats 1000000 in
set_option maxRecDepth 100000 in
theorem topic_any (s : ByteArray) (w : World) (hs : s.size ≤ 140737488355328) : Calls Tryd.prog 62 #[.string s] w fun e w' => e = .returned (.bool (topicB s)) ∧ Below w.heap.size w w' := by
  obtain ⟨T, hT⟩ : ∃ T, topicB s = T := ⟨_, rfl⟩
  have hTi : T = true ↔ s.size ≠ 0 ∧ Clean (gB s) s.size 0 := by rw [← hT]; unfold topicB; rw [Bool.and_eq_true, clean_iff, decide_eq_true_eq]
  rw [hT]
  clear hT
  replace hTi := Lib.hid hTi
  have hs' : (s.size : Int) ≤ 140737488355328 := by omega
  go_enter Tryd.func62, Tryd.ntmps62
  go_wp2
  go_loopw [4] (fun _ w' => ∃ pos : Nat, w' = w.iter s pos ∧ pos ≤ s.size ∧ (Clean (gB s) s.size 0 ↔ Clean (gB s) s.size pos)) (fun _ w' => s.size - w'.iterPos w.heap.size)
  case atStart => exact ⟨0, rfl, by omega, Iff.rfl⟩
  case round =>
    obtain ⟨pos, rfl, hps, hc⟩ := hrel
    replace hc := Lib.hid hc
    by_cases hp : pos < s.size
    · obtain ⟨c, wd', hd, h1, h4, htl, ⟨e43, e35⟩, hcl⟩ := rune_at s pos
      have hnx : ∀ ty, (Instr.next (.pointer (some ⟨w.heap.size, 0, none⟩)) true ty).run Tryd.prog (w.iter s pos) = _ := fun ty => run_next_any w s pos ty hp
      rw [hd] at hnx
      simp only at hnx
      have hcl' : (c : Int) ≤ 1114111 := by omega
      by_cases hbad : c = 43 ∨ c = 35
      · have hf : T = false := by
          cases hT : T with
          | false => rfl
          | true =>
            have := (hTi.out.1 hT).2
            have := (hc.out.1 this) pos (Nat.le_refl _) hp
            exfalso
            rcases hbad with h | h
            · exact this.1 (e43.1 h)
            · exact this.2 (e35.1 h)
        subst hf
        clear hd e43 e35 htl
        rcases hbad with rfl | rfl
        all_goals
          go_wp2_with fail
          go_ret
          exact ⟨rfl, iter_below _ _ _⟩
      · have b43 : ((c : Int) == 43) = false := beq_eq_false_iff_ne.2 (by omega)
        have b35 : ((c : Int) == 35) = false := beq_eq_false_iff_ne.2 (by omega)
        have hfit : pos + wd' ≤ s.size := by
          by_cases h : wd' ≤ 1
          · omega
          · have := (htl (wd' - 1) (by omega) (by omega)).1; omega
        have hrel : Clean (gB s) s.size 0 ↔ Clean (gB s) s.size (pos + wd') := hc.out.trans (Clean.skip h1 (fun k a b => (htl k a b).2) ⟨fun h => hbad (.inl (e43.2 h)), fun h => hbad (.inr (e35.2 h))⟩)
        replace hrel := Lib.hid hrel
        clear hd e43 e35 htl hbad
        go_wp2_with fail
        go_roundw
        case rel => exact ⟨pos + wd', rfl, hfit, hrel.out⟩
        case measure => simp; omega
    · have hnx : ∀ ty, (Instr.next (.pointer (some ⟨w.heap.size, 0, none⟩)) true ty).run Tryd.prog (w.iter s pos) = _ := fun ty => run_next_end w s pos ty hp
      have hcl : Clean (gB s) s.size 0 := hc.out.2 (fun k hk hn => by omega)
      have hf : T = !s.toList.isEmpty := by
        have e : s.toList.isEmpty = decide (s.size = 0) := by
          rw [ByteArray.toList_eq, Bool.eq_iff_iff, List.isEmpty_iff, decide_eq_true_eq, ← List.length_eq_zero_iff, Array.length_toList]; rfl
        rw [e, Bool.eq_iff_iff, hTi.out]
        simp [hcl]
      replace hf := Lib.hid hf
      clear hcl
      go_wp2_with fail
      go_ret
      exact ⟨by rw [hf.out]; rfl, iter_below _ _ _⟩
end Go.Proofs.YtmpklaokgogigaaDoor.Pub

/-
  LAYER 14: Put, the program's, of any message.
-/
namespace Go.Proofs.YtmpklaokgogigaaDoor.Pub
set_option linter.unusedSimpArgs false
set_option linter.unusedVariables false
open Go.RowKit

theorem form_of {w : World} {B : Nat} {v : Value} {p : List Nat} (h : w.ownsRow B 5 1 v p.length (bl p)) (hn : p ≠ []) : ∃ g cap, v = .slice (some ⟨g, 0, none⟩) p.length cap := by
  rcases h.2 with ⟨_, h0⟩ | ⟨g, cap, _, rfl, _⟩
  · exact absurd (List.eq_nil_of_length_eq_zero h0) hn
  · exact ⟨g, cap, rfl⟩
theorem number_pos (q : Int) (w : World) (h : 0 < q) : Calls Tryd.prog 63 #[.int .i64 q] w fun e w' => e = .returned (.agg #[.func (.func 78) #[] #[], .func (.func 64) #[] #[]]) ∧ Below w.heap.size w w' := by
  go_enter Tryd.func63, Tryd.ntmps63
  go_wp2
  exact bodyPost_ret (v := .agg #[.func (.func 78) #[] #[], .func (.func 64) #[] #[]]) (by simp [results, Tryd.results63, go_sem]) rfl ⟨rfl, ext_alloc _ _⟩
theorem number_0 (w : World) : Calls Tryd.prog 63 #[.int .i64 0] w fun e w' => e = .returned (.agg #[.func (.func 87) #[] #[], .func (.func 88) #[] #[]]) ∧ Below w.heap.size w w' := by
  go_enter Tryd.func63, Tryd.ntmps63
  go_wp2
  exact bodyPost_ret (v := .agg #[.func (.func 87) #[] #[], .func (.func 88) #[] #[]]) (by simp [results, Tryd.results63, go_sem]) rfl ⟨rfl, ext_alloc _ _⟩
theorem field_0 (w : World) : (Instr.field 114 (.agg #[.func (.func 87) #[] #[], .func (.func 88) #[] #[]]) 0).run Tryd.prog w = .ok (.func (.func 87) #[] #[]) w := by kernel_rfl
theorem none_ok (w : World) : Calls Tryd.prog 87 #[.int .i64 0] w (Numb [] 0 w) := by
  have : Calls Tryd.prog 87 #[.int .i64 0] w fun e w' => e = .returned (.tuple #[.slice none 0 0, .int .i64 0]) ∧ w = w' := by
    go_enter Tryd.func87, Tryd.ntmps87
    go_wp2
    go_ret2
    exact ⟨rfl, rfl⟩
  refine this.mono ?_
  rintro e w' ⟨rfl, rfl⟩
  exact ⟨_, rfl, ⟨none, 0, rfl, ⟨by simp, fun _ => rfl⟩, .inl rfl⟩, Below.refl _ _⟩
theorem none_err (id : Int) (w : World) (h : id ≠ 0) : Calls Tryd.prog 87 #[.int .i64 id] w (Numb [] 1 w) := by
  have hb : (id != 0) = true := by simpa using h
  have : Calls Tryd.prog 87 #[.int .i64 id] w fun e w' => e = .returned (.tuple #[.slice none 0 0, .int .i64 1]) ∧ w = w' := by
    clear h
    go_enter Tryd.func87, Tryd.ntmps87
    go_wp2
    go_ret2
    exact ⟨rfl, rfl⟩
  refine this.mono ?_
  rintro e w' ⟨rfl, rfl⟩
  exact ⟨_, rfl, ⟨none, 0, rfl, ⟨by simp, fun _ => rfl⟩, .inl rfl⟩, Below.refl _ _⟩
def msg (t x : ByteArray) (q : Int) (r : Bool) : Value := .agg #[.string t, .string x, .int .i64 q, .bool r]
theorem nil_numb {P : Program} {f : FuncId} {args : Array Value} {w : World} {err : Int} (h : Calls P f args w fun e w' => e = .returned (.tuple #[.slice none 0 0, .int .i64 err]) ∧ Below w.heap.size w w') : Calls P f args w (Numb [] err w) :=
  h.mono fun e w' ⟨he, hw⟩ => ⟨_, he, ⟨none, 0, rfl, ⟨by simp, fun _ => rfl⟩, .inl rfl⟩, hw⟩
theorem put14_qos (t x : ByteArray) (q id : Int) (r : Bool) (w : World) (h : q < 0 ∨ 2 < q) : Calls Tryd.prog 77 #[.agg #[.string t, .string x, .int .i64 q, .bool r], .int .i64 id] w (Numb [] 10 w) := by
  refine nil_numb ?_
  rcases (show q < 0 ∨ (0 ≤ q ∧ 2 < q) by omega) with h | ⟨h, h'⟩
  all_goals
    go_enter Tryd.func77, Tryd.ntmps77
    go_wp2
    go_ret2
    exact ⟨rfl, ext_alloc _ _⟩
set_option maxHeartbeats 1000000 in
theorem put14_topic (t x : ByteArray) (q id : Int) (r : Bool) (w : World) (h0 : 0 ≤ q) (h2 : q ≤ 2) (ht : t.size ≤ 140737488355328) (htp : topicB t = false) : Calls Tryd.prog 77 #[.agg #[.string t, .string x, .int .i64 q, .bool r], .int .i64 id] w (Numb [] 13 w) := by
  refine nil_numb ?_
  have T := fun w => topic_any t w ht
  rw [htp] at T
  replace T := Lib.hid T
  clear htp
  have b0 := Lib.hid (ext_alloc w (.cells #[.string t, .string x, .int .i64 q, .bool r] 27))
  go_enter Tryd.func77, Tryd.ntmps77
  go_wp2_with fail
  refine (T.out _).mono ?_
  rintro e w1 ⟨rfl, b1⟩
  replace b1 := Lib.hid b1
  go_wp2_with fail
  go_ret2
  exact ⟨rfl, ext_trans b0.out b1.out⟩
set_option maxHeartbeats 1000000 in
theorem put14_text (t x : ByteArray) (q id E : Int) (r : Bool) (w : World) (h0 : 0 ≤ q) (h2 : q ≤ 2) (ht : t.size ≤ 140737488355328) (htp : topicB t = true) (hE : E ≠ 0)
    (P : ∀ w, Calls Tryd.prog 96 #[.string t] w fun e w' => e = .returned (.tuple #[.slice none 0 0, .int .i64 E]) ∧ Below w.heap.size w w') : Calls Tryd.prog 77 #[.agg #[.string t, .string x, .int .i64 q, .bool r], .int .i64 id] w (Numb [] E w) := by
  refine nil_numb ?_
  have T := fun w => topic_any t w ht
  rw [htp] at T
  replace T := Lib.hid T
  replace P := Lib.hid P
  have hb : (E != 0) = true := by simpa using hE
  clear htp hE
  have b0 := Lib.hid (ext_alloc w (.cells #[.string t, .string x, .int .i64 q, .bool r] 27))
  go_enter Tryd.func77, Tryd.ntmps77
  go_wp2_with fail
  refine (T.out _).mono ?_
  rintro e w1 ⟨rfl, b1⟩
  have c00 : w1.cell? ⟨w.heap.size, 0, none⟩ = some (.string t) := by rw [b1.cell (by simp), World.cell?_alloc_at _ _ _ _ rfl]; rfl
  replace b1 := Lib.hid (ext_trans b0.out b1)
  go_wp2_with fail
  refine (P.out _).mono ?_
  rintro e w2 ⟨rfl, b2⟩
  replace b2 := Lib.hid b2
  clear c00
  go_wp2_with fail
  go_ret2
  exact ⟨rfl, ext_trans b1.out b2.out⟩
end Go.Proofs.YtmpklaokgogigaaDoor.Pub

/-
  LAYER 14: Put, the program's: the number, the length, the bytes.
-/
namespace Go.Proofs.YtmpklaokgogigaaDoor.Pub
set_option linter.unusedSimpArgs false
set_option linter.unusedVariables false
open Go.RowKit

theorem put_row (t : ByteArray) (rt : List Nat) (h : t.size ≤ 65535) (hr : rightB t = true) (hrt : rt = rawL t) (w : World) : Calls Tryd.prog 96 #[.string t] w fun e w' => ∃ v, e = .returned (.tuple #[v, .int .i64 0]) ∧ w'.ownsRow w.heap.size 5 1 v rt.length (bl rt) ∧ Below w.heap.size w w' := by
  subst hrt
  exact (put_ok t w h hr).mono fun e w' h => h
set_option maxHeartbeats 2000000 in
set_option maxRecDepth 100000 in
theorem put14_runP (t x : ByteArray) (q id E : Int) (r : Bool) (nl rt p : List Nat) (w : World)
    (hq0 : 0 ≤ q) (hq2 : q ≤ 2) (hx : x.size ≤ 140737488351232) (ht : t.size ≤ 65535) (htp : topicB t = true)
    (P : ∀ w, Calls Tryd.prog 96 #[.string t] w fun e w' => ∃ v, e = .returned (.tuple #[v, .int .i64 0]) ∧ w'.ownsRow w.heap.size 5 1 v rt.length (bl rt) ∧ Below w.heap.size w w')
    (NB : ∀ w, Calls Tryd.prog 63 #[.int .i64 q] w fun e w' => e = .returned (.agg #[.func (.func 78) #[] #[], .func (.func 64) #[] #[]]) ∧ Below w.heap.size w w')
    (KF : ∀ w, (Instr.field 114 (.agg #[.func (.func 78) #[] #[], .func (.func 64) #[] #[]]) 0).run Tryd.prog w = .ok (.func (.func 78) #[] #[]) w)
    (ID : ∀ w, Calls Tryd.prog 78 #[.int .i64 id] w (Numb nl 0 w)) (hnl : nl.length ≤ 2) (hrt : rt.length ≤ 65537) (hp : p = rt ++ nl) (hp0 : p ≠ []) (hpl : p.length ≤ 65539) :
    (4096 < p.length + x.size → Calls Tryd.prog 77 #[.agg #[.string t, .string x, .int .i64 q, .bool r], .int .i64 id] w (Numb [] 3 w)) ∧
    (p.length + x.size ≤ 4096 → Calls Tryd.prog 77 #[.agg #[.string t, .string x, .int .i64 q, .bool r], .int .i64 id] w (Numb (p ++ txtL x) 0 w)) := by
  obtain ⟨i0, hi, hz0, hz1, hz2⟩ := info_parts info5
  have T := fun w => topic_any t w (by omega)
  rw [htp] at T
  replace T := Lib.hid T
  replace P := Lib.hid P
  replace NB := Lib.hid NB
  replace ID := Lib.hid ID
  replace hp := Lib.hid hp
  replace hp0 := Lib.hid hp0
  have hx' : (x.size : Int) ≤ 140737488351232 := by omega
  have hpl' : (p.length : Int) ≤ 65539 := by omega
  clear htp
  have b0 := Lib.hid (ext_alloc w (.cells #[.string t, .string x, .int .i64 q, .bool r] 27))
  refine ⟨fun hL => ?_, fun hL => ?_⟩
  · have hL' : (4096 : Int) < p.length + x.size := by omega
    go_enter Tryd.func77, Tryd.ntmps77
    go_wp2_with fail
    refine (T.out _).mono ?_
    rintro e w1 ⟨rfl, b1⟩
    have c00 : w1.cell? ⟨w.heap.size, 0, none⟩ = some (.string t) := by rw [b1.cell (by simp), World.cell?_alloc_at _ _ _ _ rfl]; rfl
    have c01 : w1.cell? ⟨w.heap.size, 1, none⟩ = some (.string x) := by rw [b1.cell (by simp), World.cell?_alloc_at _ _ _ _ rfl]; rfl
    have c02 : w1.cell? ⟨w.heap.size, 2, none⟩ = some (.int .i64 q) := by rw [b1.cell (by simp), World.cell?_alloc_at _ _ _ _ rfl]; rfl
    have hs1 : w.heap.size < w1.heap.size := by have := b1.size; simp at this; omega
    replace b1 := Lib.hid (ext_trans b0.out b1)
    go_wp2_with fail
    refine (P.out _).mono ?_
    rintro e w2 ⟨v2, rfl, o2, b2⟩
    have d01 : w2.cell? ⟨w.heap.size, 1, none⟩ = some (.string x) := by rw [b2.cell hs1]; exact c01
    have d02 : w2.cell? ⟨w.heap.size, 2, none⟩ = some (.int .i64 q) := by rw [b2.cell hs1]; exact c02
    have hs2 : w1.heap.size ≤ w2.heap.size := b2.size
    have hs2' : w.heap.size < w2.heap.size := by omega
    replace b2 := Lib.hid b2
    replace o2 := Lib.hid o2
    clear c00 c01 c02
    go_wp2_with fail
    refine (NB.out _).mono ?_
    rintro e w3 ⟨rfl, b3⟩
    have e01 : w3.cell? ⟨w.heap.size, 1, none⟩ = some (.string x) := by rw [b3.cell hs2']; exact d01
    have hs3 : w2.heap.size ≤ w3.heap.size := b3.size
    have hs3' : w.heap.size < w3.heap.size := by omega
    replace b3 := Lib.hid b3
    clear d01 d02
    go_wp2_with fail
    refine (ID.out _).mono ?_
    rintro e w4 ⟨v4, rfl, a4, b4⟩
    have f01 : w4.cell? ⟨w.heap.size, 1, none⟩ = some (.string x) := by rw [b4.cell hs3']; exact e01
    have hs4 : w3.heap.size ≤ w4.heap.size := b4.size
    have o4 : w4.ownsRow w1.heap.size 5 1 v2 rt.length (bl rt) := own_below o2.out (ext_trans b3.out b4)
    have B4 := Lib.hid (ext_trans b1.out (ext_trans b2.out (ext_trans b3.out b4)))
    clear e01 b4
    have hw1 : w1.heap.size ≤ w4.heap.size := by omega
    go_wp2_with (at_builtin; refine wpList_append_bytes _ rfl (.tmp 42) (.tmp 43) 48 rfl w1.heap.size 5 i0 Tryd.underlying48 hi hz0 hz1 hz2 v2 rt nl rfl o4 a4 (by omega) hw1 ?_; intro v5 w5 o5 g5 n5; have b5 := Lib.hid (grown_ext o4 g5 hw1); have g01 : w5.cell? ⟨w.heap.size, 1, none⟩ = some (.string x) := (by rw [b5.out.cell hs1]; exact f01); rw [← hp.out] at o5; obtain ⟨q5, r5, rfl⟩ := form_of o5 hp0.out; replace o5 := Lib.hid o5; clear o4 a4 g5 n5 f01)
    go_ret2
    exact ⟨_, rfl, ⟨none, 0, rfl, ⟨by simp, fun _ => rfl⟩, .inl rfl⟩, B4.out.trans (b5.out.mono (by omega))⟩
  · have hL' : (p.length : Int) + x.size ≤ 4096 := by omega
    go_enter Tryd.func77, Tryd.ntmps77
    go_wp2_with fail
    refine (T.out _).mono ?_
    rintro e w1 ⟨rfl, b1⟩
    have c00 : w1.cell? ⟨w.heap.size, 0, none⟩ = some (.string t) := by rw [b1.cell (by simp), World.cell?_alloc_at _ _ _ _ rfl]; rfl
    have c01 : w1.cell? ⟨w.heap.size, 1, none⟩ = some (.string x) := by rw [b1.cell (by simp), World.cell?_alloc_at _ _ _ _ rfl]; rfl
    have c02 : w1.cell? ⟨w.heap.size, 2, none⟩ = some (.int .i64 q) := by rw [b1.cell (by simp), World.cell?_alloc_at _ _ _ _ rfl]; rfl
    have hs1 : w.heap.size < w1.heap.size := by have := b1.size; simp at this; omega
    replace b1 := Lib.hid (ext_trans b0.out b1)
    go_wp2_with fail
    refine (P.out _).mono ?_
    rintro e w2 ⟨v2, rfl, o2, b2⟩
    have d01 : w2.cell? ⟨w.heap.size, 1, none⟩ = some (.string x) := by rw [b2.cell hs1]; exact c01
    have d02 : w2.cell? ⟨w.heap.size, 2, none⟩ = some (.int .i64 q) := by rw [b2.cell hs1]; exact c02
    have hs2 : w1.heap.size ≤ w2.heap.size := b2.size
    have hs2' : w.heap.size < w2.heap.size := by omega
    replace b2 := Lib.hid b2
    replace o2 := Lib.hid o2
    clear c00 c01 c02
    go_wp2_with fail
    refine (NB.out _).mono ?_
    rintro e w3 ⟨rfl, b3⟩
    have e01 : w3.cell? ⟨w.heap.size, 1, none⟩ = some (.string x) := by rw [b3.cell hs2']; exact d01
    have hs3 : w2.heap.size ≤ w3.heap.size := b3.size
    have hs3' : w.heap.size < w3.heap.size := by omega
    replace b3 := Lib.hid b3
    clear d01 d02
    go_wp2_with fail
    refine (ID.out _).mono ?_
    rintro e w4 ⟨v4, rfl, a4, b4⟩
    have f01 : w4.cell? ⟨w.heap.size, 1, none⟩ = some (.string x) := by rw [b4.cell hs3']; exact e01
    have hs4 : w3.heap.size ≤ w4.heap.size := b4.size
    have o4 : w4.ownsRow w1.heap.size 5 1 v2 rt.length (bl rt) := own_below o2.out (ext_trans b3.out b4)
    have B4 := Lib.hid (ext_trans b1.out (ext_trans b2.out (ext_trans b3.out b4)))
    clear e01 b4
    have hw1 : w1.heap.size ≤ w4.heap.size := by omega
    go_wp2_with (first
      | (at_builtin; refine wpList_append_bytes _ rfl (.tmp 42) (.tmp 43) 48 rfl w1.heap.size 5 i0 Tryd.underlying48 hi hz0 hz1 hz2 v2 rt nl rfl o4 a4 (by omega) hw1 ?_; intro v5 w5 o5 g5 n5; have b5 := Lib.hid (grown_ext o4 g5 hw1); have g01 : w5.cell? ⟨w.heap.size, 1, none⟩ = some (.string x) := (by rw [b5.out.cell hs1]; exact f01); rw [← hp.out] at o5; obtain ⟨q5, r5, rfl⟩ := form_of o5 hp0.out; have hw5 : w1.heap.size ≤ w5.heap.size := (by have := b5.out.size; omega); clear o4 a4 g5 n5 f01)
      | (at_builtin; refine Lib.wpList_append_own_string _ rfl (.tmp 52) (.tmp 54) 48 9 rfl w1.heap.size 5 i0 Tryd.underlying48 Tryd.underlying9 hi hz0 hz1 hz2 (.slice (some ⟨q5, 0, none⟩) p.length r5) p.length (bl p) rfl o5 x rfl (by unfold maxLen; omega) (by omega) hw5 ?_; intro v6 w6 o6 g6 n6; have b6 := Lib.hid (grown_ext o5 g6 hw5); clear o5 g6 n6))
    go_ret2
    refine ⟨_, rfl, BytesAt.of_own (l := p ++ txtL x) (e := 5) (B := w1.heap.size) ?_, B4.out.trans ((b5.out.mono (by omega)).trans (b6.out.mono (by omega)))⟩
    rw [bl_append, bl_txt, List.length_append, txtL_length]
    exact o6
set_option maxHeartbeats 2000000 in
set_option maxRecDepth 100000 in
theorem put14_run0 (t x : ByteArray) (q id E : Int) (r : Bool) (nl rt p : List Nat) (w : World)
    (hq0 : 0 ≤ q) (hq2 : q ≤ 2) (hx : x.size ≤ 140737488351232) (ht : t.size ≤ 65535) (htp : topicB t = true)
    (P : ∀ w, Calls Tryd.prog 96 #[.string t] w fun e w' => ∃ v, e = .returned (.tuple #[v, .int .i64 0]) ∧ w'.ownsRow w.heap.size 5 1 v rt.length (bl rt) ∧ Below w.heap.size w w')
    (NB : ∀ w, Calls Tryd.prog 63 #[.int .i64 q] w fun e w' => e = .returned (.agg #[.func (.func 87) #[] #[], .func (.func 88) #[] #[]]) ∧ Below w.heap.size w w')
    (KF : ∀ w, (Instr.field 114 (.agg #[.func (.func 87) #[] #[], .func (.func 88) #[] #[]]) 0).run Tryd.prog w = .ok (.func (.func 87) #[] #[]) w)
    (ID : ∀ w, Calls Tryd.prog 87 #[.int .i64 id] w (Numb nl 0 w)) (hnl : nl.length ≤ 2) (hrt : rt.length ≤ 65537) (hp : p = rt ++ nl) (hp0 : p ≠ []) (hpl : p.length ≤ 65539) :
    (4096 < p.length + x.size → Calls Tryd.prog 77 #[.agg #[.string t, .string x, .int .i64 q, .bool r], .int .i64 id] w (Numb [] 3 w)) ∧
    (p.length + x.size ≤ 4096 → Calls Tryd.prog 77 #[.agg #[.string t, .string x, .int .i64 q, .bool r], .int .i64 id] w (Numb (p ++ txtL x) 0 w)) := by
  obtain ⟨i0, hi, hz0, hz1, hz2⟩ := info_parts info5
  have T := fun w => topic_any t w (by omega)
  rw [htp] at T
  replace T := Lib.hid T
  replace P := Lib.hid P
  replace NB := Lib.hid NB
  replace ID := Lib.hid ID
  replace hp := Lib.hid hp
  replace hp0 := Lib.hid hp0
  have hx' : (x.size : Int) ≤ 140737488351232 := by omega
  have hpl' : (p.length : Int) ≤ 65539 := by omega
  clear htp
  have b0 := Lib.hid (ext_alloc w (.cells #[.string t, .string x, .int .i64 q, .bool r] 27))
  refine ⟨fun hL => ?_, fun hL => ?_⟩
  · have hL' : (4096 : Int) < p.length + x.size := by omega
    go_enter Tryd.func77, Tryd.ntmps77
    go_wp2_with fail
    refine (T.out _).mono ?_
    rintro e w1 ⟨rfl, b1⟩
    have c00 : w1.cell? ⟨w.heap.size, 0, none⟩ = some (.string t) := by rw [b1.cell (by simp), World.cell?_alloc_at _ _ _ _ rfl]; rfl
    have c01 : w1.cell? ⟨w.heap.size, 1, none⟩ = some (.string x) := by rw [b1.cell (by simp), World.cell?_alloc_at _ _ _ _ rfl]; rfl
    have c02 : w1.cell? ⟨w.heap.size, 2, none⟩ = some (.int .i64 q) := by rw [b1.cell (by simp), World.cell?_alloc_at _ _ _ _ rfl]; rfl
    have hs1 : w.heap.size < w1.heap.size := by have := b1.size; simp at this; omega
    replace b1 := Lib.hid (ext_trans b0.out b1)
    go_wp2_with fail
    refine (P.out _).mono ?_
    rintro e w2 ⟨v2, rfl, o2, b2⟩
    have d01 : w2.cell? ⟨w.heap.size, 1, none⟩ = some (.string x) := by rw [b2.cell hs1]; exact c01
    have d02 : w2.cell? ⟨w.heap.size, 2, none⟩ = some (.int .i64 q) := by rw [b2.cell hs1]; exact c02
    have hs2 : w1.heap.size ≤ w2.heap.size := b2.size
    have hs2' : w.heap.size < w2.heap.size := by omega
    replace b2 := Lib.hid b2
    replace o2 := Lib.hid o2
    clear c00 c01 c02
    go_wp2_with fail
    refine (NB.out _).mono ?_
    rintro e w3 ⟨rfl, b3⟩
    have e01 : w3.cell? ⟨w.heap.size, 1, none⟩ = some (.string x) := by rw [b3.cell hs2']; exact d01
    have hs3 : w2.heap.size ≤ w3.heap.size := b3.size
    have hs3' : w.heap.size < w3.heap.size := by omega
    replace b3 := Lib.hid b3
    clear d01 d02
    go_wp2_with fail
    refine (ID.out _).mono ?_
    rintro e w4 ⟨v4, rfl, a4, b4⟩
    have f01 : w4.cell? ⟨w.heap.size, 1, none⟩ = some (.string x) := by rw [b4.cell hs3']; exact e01
    have hs4 : w3.heap.size ≤ w4.heap.size := b4.size
    have o4 : w4.ownsRow w1.heap.size 5 1 v2 rt.length (bl rt) := own_below o2.out (ext_trans b3.out b4)
    have B4 := Lib.hid (ext_trans b1.out (ext_trans b2.out (ext_trans b3.out b4)))
    clear e01 b4
    have hw1 : w1.heap.size ≤ w4.heap.size := by omega
    go_wp2_with (at_builtin; refine wpList_append_bytes _ rfl (.tmp 42) (.tmp 43) 48 rfl w1.heap.size 5 i0 Tryd.underlying48 hi hz0 hz1 hz2 v2 rt nl rfl o4 a4 (by omega) hw1 ?_; intro v5 w5 o5 g5 n5; have b5 := Lib.hid (grown_ext o4 g5 hw1); have g01 : w5.cell? ⟨w.heap.size, 1, none⟩ = some (.string x) := (by rw [b5.out.cell hs1]; exact f01); rw [← hp.out] at o5; obtain ⟨q5, r5, rfl⟩ := form_of o5 hp0.out; replace o5 := Lib.hid o5; clear o4 a4 g5 n5 f01)
    go_ret2
    exact ⟨_, rfl, ⟨none, 0, rfl, ⟨by simp, fun _ => rfl⟩, .inl rfl⟩, B4.out.trans (b5.out.mono (by omega))⟩
  · have hL' : (p.length : Int) + x.size ≤ 4096 := by omega
    go_enter Tryd.func77, Tryd.ntmps77
    go_wp2_with fail
    refine (T.out _).mono ?_
    rintro e w1 ⟨rfl, b1⟩
    have c00 : w1.cell? ⟨w.heap.size, 0, none⟩ = some (.string t) := by rw [b1.cell (by simp), World.cell?_alloc_at _ _ _ _ rfl]; rfl
    have c01 : w1.cell? ⟨w.heap.size, 1, none⟩ = some (.string x) := by rw [b1.cell (by simp), World.cell?_alloc_at _ _ _ _ rfl]; rfl
    have c02 : w1.cell? ⟨w.heap.size, 2, none⟩ = some (.int .i64 q) := by rw [b1.cell (by simp), World.cell?_alloc_at _ _ _ _ rfl]; rfl
    have hs1 : w.heap.size < w1.heap.size := by have := b1.size; simp at this; omega
    replace b1 := Lib.hid (ext_trans b0.out b1)
    go_wp2_with fail
    refine (P.out _).mono ?_
    rintro e w2 ⟨v2, rfl, o2, b2⟩
    have d01 : w2.cell? ⟨w.heap.size, 1, none⟩ = some (.string x) := by rw [b2.cell hs1]; exact c01
    have d02 : w2.cell? ⟨w.heap.size, 2, none⟩ = some (.int .i64 q) := by rw [b2.cell hs1]; exact c02
    have hs2 : w1.heap.size ≤ w2.heap.size := b2.size
    have hs2' : w.heap.size < w2.heap.size := by omega
    replace b2 := Lib.hid b2
    replace o2 := Lib.hid o2
    clear c00 c01 c02
    go_wp2_with fail
    refine (NB.out _).mono ?_
    rintro e w3 ⟨rfl, b3⟩
    have e01 : w3.cell? ⟨w.heap.size, 1, none⟩ = some (.string x) := by rw [b3.cell hs2']; exact d01
    have hs3 : w2.heap.size ≤ w3.heap.size := b3.size
    have hs3' : w.heap.size < w3.heap.size := by omega
    replace b3 := Lib.hid b3
    clear d01 d02
    go_wp2_with fail
    refine (ID.out _).mono ?_
    rintro e w4 ⟨v4, rfl, a4, b4⟩
    have f01 : w4.cell? ⟨w.heap.size, 1, none⟩ = some (.string x) := by rw [b4.cell hs3']; exact e01
    have hs4 : w3.heap.size ≤ w4.heap.size := b4.size
    have o4 : w4.ownsRow w1.heap.size 5 1 v2 rt.length (bl rt) := own_below o2.out (ext_trans b3.out b4)
    have B4 := Lib.hid (ext_trans b1.out (ext_trans b2.out (ext_trans b3.out b4)))
    clear e01 b4
    have hw1 : w1.heap.size ≤ w4.heap.size := by omega
    go_wp2_with (first
      | (at_builtin; refine wpList_append_bytes _ rfl (.tmp 42) (.tmp 43) 48 rfl w1.heap.size 5 i0 Tryd.underlying48 hi hz0 hz1 hz2 v2 rt nl rfl o4 a4 (by omega) hw1 ?_; intro v5 w5 o5 g5 n5; have b5 := Lib.hid (grown_ext o4 g5 hw1); have g01 : w5.cell? ⟨w.heap.size, 1, none⟩ = some (.string x) := (by rw [b5.out.cell hs1]; exact f01); rw [← hp.out] at o5; obtain ⟨q5, r5, rfl⟩ := form_of o5 hp0.out; have hw5 : w1.heap.size ≤ w5.heap.size := (by have := b5.out.size; omega); clear o4 a4 g5 n5 f01)
      | (at_builtin; refine Lib.wpList_append_own_string _ rfl (.tmp 52) (.tmp 54) 48 9 rfl w1.heap.size 5 i0 Tryd.underlying48 Tryd.underlying9 hi hz0 hz1 hz2 (.slice (some ⟨q5, 0, none⟩) p.length r5) p.length (bl p) rfl o5 x rfl (by unfold maxLen; omega) (by omega) hw5 ?_; intro v6 w6 o6 g6 n6; have b6 := Lib.hid (grown_ext o5 g6 hw5); clear o5 g6 n6))
    go_ret2
    refine ⟨_, rfl, BytesAt.of_own (l := p ++ txtL x) (e := 5) (B := w1.heap.size) ?_, B4.out.trans ((b5.out.mono (by omega)).trans (b6.out.mono (by omega)))⟩
    rw [bl_append, bl_txt, List.length_append, txtL_length]
    exact o6
end Go.Proofs.YtmpklaokgogigaaDoor.Pub

/-
  LAYER 14: Put, the program's, joined; named, the document's.
-/
namespace Go.Proofs.YtmpklaokgogigaaDoor.Pub
set_option linter.unusedSimpArgs false
set_option linter.unusedVariables false
open Go.RowKit

set_option maxHeartbeats 2000000 in
set_option maxRecDepth 100000 in
theorem put14_numP (t x : ByteArray) (q id : Int) (r : Bool) (rt : List Nat) (w : World)
    (hq0 : 0 ≤ q) (hq2 : q ≤ 2) (ht : t.size ≤ 65535) (htp : topicB t = true)
    (P : ∀ w, Calls Tryd.prog 96 #[.string t] w fun e w' => ∃ v, e = .returned (.tuple #[v, .int .i64 0]) ∧ w'.ownsRow w.heap.size 5 1 v rt.length (bl rt) ∧ Below w.heap.size w w')
    (NB : ∀ w, Calls Tryd.prog 63 #[.int .i64 q] w fun e w' => e = .returned (.agg #[.func (.func 78) #[] #[], .func (.func 64) #[] #[]]) ∧ Below w.heap.size w w')
    (KF : ∀ w, (Instr.field 114 (.agg #[.func (.func 78) #[] #[], .func (.func 64) #[] #[]]) 0).run Tryd.prog w = .ok (.func (.func 78) #[] #[]) w)
    (ID : ∀ w, Calls Tryd.prog 78 #[.int .i64 id] w (Numb [] 1 w)) :
    Calls Tryd.prog 77 #[.agg #[.string t, .string x, .int .i64 q, .bool r], .int .i64 id] w (Numb [] 1 w) := by
  have T := fun w => topic_any t w (by omega)
  rw [htp] at T
  replace T := Lib.hid T
  replace P := Lib.hid P
  replace NB := Lib.hid NB
  replace ID := Lib.hid ID
  clear htp
  have b0 := Lib.hid (ext_alloc w (.cells #[.string t, .string x, .int .i64 q, .bool r] 27))
  go_enter Tryd.func77, Tryd.ntmps77
  go_wp2_with fail
  refine (T.out _).mono ?_
  rintro e w1 ⟨rfl, b1⟩
  have c00 : w1.cell? ⟨w.heap.size, 0, none⟩ = some (.string t) := by rw [b1.cell (by simp), World.cell?_alloc_at _ _ _ _ rfl]; rfl
  have c02 : w1.cell? ⟨w.heap.size, 2, none⟩ = some (.int .i64 q) := by rw [b1.cell (by simp), World.cell?_alloc_at _ _ _ _ rfl]; rfl
  have hs1 : w.heap.size < w1.heap.size := by have := b1.size; simp at this; omega
  replace b1 := Lib.hid (ext_trans b0.out b1)
  go_wp2_with fail
  refine (P.out _).mono ?_
  rintro e w2 ⟨v2, rfl, o2, b2⟩
  have d02 : w2.cell? ⟨w.heap.size, 2, none⟩ = some (.int .i64 q) := by rw [b2.cell hs1]; exact c02
  replace b2 := Lib.hid b2
  clear c00 c02 o2
  go_wp2_with fail
  refine (NB.out _).mono ?_
  rintro e w3 ⟨rfl, b3⟩
  replace b3 := Lib.hid b3
  clear d02
  go_wp2_with fail
  refine (ID.out _).mono ?_
  rintro e w4 ⟨v4, rfl, a4, b4⟩
  replace b4 := Lib.hid b4
  clear a4
  go_wp2_with fail
  go_ret2
  exact ⟨_, rfl, ⟨none, 0, rfl, ⟨by simp, fun _ => rfl⟩, .inl rfl⟩, ext_trans b1.out (ext_trans b2.out (ext_trans b3.out b4.out))⟩
set_option maxHeartbeats 2000000 in
set_option maxRecDepth 100000 in
theorem put14_num0 (t x : ByteArray) (q id : Int) (r : Bool) (rt : List Nat) (w : World)
    (hq0 : 0 ≤ q) (hq2 : q ≤ 2) (ht : t.size ≤ 65535) (htp : topicB t = true)
    (P : ∀ w, Calls Tryd.prog 96 #[.string t] w fun e w' => ∃ v, e = .returned (.tuple #[v, .int .i64 0]) ∧ w'.ownsRow w.heap.size 5 1 v rt.length (bl rt) ∧ Below w.heap.size w w')
    (NB : ∀ w, Calls Tryd.prog 63 #[.int .i64 q] w fun e w' => e = .returned (.agg #[.func (.func 87) #[] #[], .func (.func 88) #[] #[]]) ∧ Below w.heap.size w w')
    (KF : ∀ w, (Instr.field 114 (.agg #[.func (.func 87) #[] #[], .func (.func 88) #[] #[]]) 0).run Tryd.prog w = .ok (.func (.func 87) #[] #[]) w)
    (ID : ∀ w, Calls Tryd.prog 87 #[.int .i64 id] w (Numb [] 1 w)) :
    Calls Tryd.prog 77 #[.agg #[.string t, .string x, .int .i64 q, .bool r], .int .i64 id] w (Numb [] 1 w) := by
  have T := fun w => topic_any t w (by omega)
  rw [htp] at T
  replace T := Lib.hid T
  replace P := Lib.hid P
  replace NB := Lib.hid NB
  replace ID := Lib.hid ID
  clear htp
  have b0 := Lib.hid (ext_alloc w (.cells #[.string t, .string x, .int .i64 q, .bool r] 27))
  go_enter Tryd.func77, Tryd.ntmps77
  go_wp2_with fail
  refine (T.out _).mono ?_
  rintro e w1 ⟨rfl, b1⟩
  have c00 : w1.cell? ⟨w.heap.size, 0, none⟩ = some (.string t) := by rw [b1.cell (by simp), World.cell?_alloc_at _ _ _ _ rfl]; rfl
  have c02 : w1.cell? ⟨w.heap.size, 2, none⟩ = some (.int .i64 q) := by rw [b1.cell (by simp), World.cell?_alloc_at _ _ _ _ rfl]; rfl
  have hs1 : w.heap.size < w1.heap.size := by have := b1.size; simp at this; omega
  replace b1 := Lib.hid (ext_trans b0.out b1)
  go_wp2_with fail
  refine (P.out _).mono ?_
  rintro e w2 ⟨v2, rfl, o2, b2⟩
  have d02 : w2.cell? ⟨w.heap.size, 2, none⟩ = some (.int .i64 q) := by rw [b2.cell hs1]; exact c02
  replace b2 := Lib.hid b2
  clear c00 c02 o2
  go_wp2_with fail
  refine (NB.out _).mono ?_
  rintro e w3 ⟨rfl, b3⟩
  replace b3 := Lib.hid b3
  clear d02
  go_wp2_with fail
  refine (ID.out _).mono ?_
  rintro e w4 ⟨v4, rfl, a4, b4⟩
  replace b4 := Lib.hid b4
  clear a4
  go_wp2_with fail
  go_ret2
  exact ⟨_, rfl, ⟨none, 0, rfl, ⟨by simp, fun _ => rfl⟩, .inl rfl⟩, ext_trans b1.out (ext_trans b2.out (ext_trans b3.out b4.out))⟩
set_option maxRecDepth 100000 in
theorem named_any (s : ByteArray) (w : World) (hs : s.size ≤ 140737488355328) : Calls Tryd.prog 72 #[.string s] w fun e w' => e = .returned (.bool (topicB s)) ∧ w = w' := by
  obtain ⟨T, hT⟩ : ∃ T, topicB s = T := ⟨_, rfl⟩
  have hTi : T = true ↔ s.size ≠ 0 ∧ Clean (gB s) s.size 0 := by rw [← hT]; unfold topicB; rw [Bool.and_eq_true, clean_iff, decide_eq_true_eq]
  rw [hT]
  clear hT
  replace hTi := Lib.hid hTi
  have hs' : (s.size : Int) ≤ 140737488355328 := by omega
  go_enter Tryd.func72, Tryd.ntmps72
  go_wp2
  go_loop [3] (fun i => ∃ k : Nat, k ≤ s.size ∧ i = .int .i64 k ∧ (Clean (gB s) s.size 0 ↔ Clean (gB s) s.size k)) (fun i => s.size - (intOf i).toNat)
  case atStart => exact ⟨0, by omega, rfl, Iff.rfl⟩
  case round =>
    obtain ⟨k, hk, rfl, hc⟩ := hrel
    replace hc := Lib.hid hc
    by_cases hp : k < s.size
    · have hp' : (k : Int) < s.size := by omega
      have hg := gB_at s k hp
      by_cases hbad : gB s k = 43 ∨ gB s k = 35
      · have hf : T = false := by
          cases hT : T with
          | false => rfl
          | true =>
            have := (hTi.out.1 hT).2
            have := (hc.out.1 this) k (Nat.le_refl _) hp
            exfalso
            rcases hbad with h | h
            · exact this.1 h
            · exact this.2 h
        subst hf
        rcases hbad with h | h
        · have e1 : ((s[k].toNat : Int) == 43) = true := by rw [hg, h]; rfl
          clear hg h
          go_wp2
          go_ret
          exact ⟨rfl, rfl⟩
        · have e1 : ((s[k].toNat : Int) == 43) = false := by rw [hg, h]; rfl
          have e2 : ((s[k].toNat : Int) == 35) = true := by rw [hg, h]; rfl
          clear hg h
          go_wp2
          go_ret
          exact ⟨rfl, rfl⟩
      · have e1 : ((s[k].toNat : Int) == 43) = false := beq_eq_false_iff_ne.2 (by omega)
        have e2 : ((s[k].toNat : Int) == 35) = false := beq_eq_false_iff_ne.2 (by omega)
        have hrel : Clean (gB s) s.size 0 ↔ Clean (gB s) s.size (k + 1) := hc.out.trans (Clean.skip (by omega) (fun j a b => by omega) ⟨fun h => hbad (.inl h), fun h => hbad (.inr h)⟩)
        replace hrel := Lib.hid hrel
        clear hg hbad
        go_wp2
        go_round
        case rel => exact ⟨k + 1, by omega, by go_num, hrel.out⟩
        case measure => simp [intOf]; omega
    · have hp' : (s.size : Int) ≤ k := by omega
      have hcl : Clean (gB s) s.size 0 := hc.out.2 (fun j hj hn => by omega)
      have hf : T = !s.toList.isEmpty := by
        have e : s.toList.isEmpty = decide (s.size = 0) := by
          rw [ByteArray.toList_eq, Bool.eq_iff_iff, List.isEmpty_iff, decide_eq_true_eq, ← List.length_eq_zero_iff, Array.length_toList]; rfl
        rw [e, Bool.eq_iff_iff, hTi.out]
        simp [hcl]
      replace hf := Lib.hid hf
      clear hcl
      go_wp2
      go_ret
      exact ⟨by rw [hf.out]; rfl, rfl⟩
end Go.Proofs.YtmpklaokgogigaaDoor.Pub
