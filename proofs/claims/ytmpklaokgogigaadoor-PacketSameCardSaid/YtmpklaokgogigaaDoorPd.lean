/-
  LAYER 14: numbers that stand alone.
-/
import Derived.Test.YtmpklaokgogigaaDoorPa
import Derived.Test.YtmpklaokgogigaaDoorUm
import Derived.Laws.IdiomStrings
namespace Go.Proofs.YtmpklaokgogigaaDoor.Pub
set_option linter.unusedSimpArgs false
set_option linter.unusedVariables false
open Go.RowKit

/-- A string's bytes in a row of their own. -/
theorem bytes_of (s : ByteArray) (w : World) : ∃ v w', (convert 9 48 (.string s)).run Tryd.prog w = .ok v w' ∧ BytesAt w' v (txtL s) ∧ Below w.heap.size w w' := by
  refine ⟨_, _, run_bytes_of_string w 9 48 5 s Tryd.underlying9 Tryd.underlying48 Tryd.underlying5, ?_, (Below.refl _ _).drew.alloc (Nat.le_refl _) _⟩
  have hcap : s.size ≤ grownCap w s.size 0 5 := by
    exact grownCap_ge _ _ _ _
  refine ⟨some ⟨w.heap.size, 0, none⟩, _, by rw [txtL_length], ⟨by rw [txtL_length]; exact hcap, fun h => by cases h⟩, .inr ⟨w.heap.size, 0, rfl, by simp, fun i hi => ?_⟩⟩
  rw [txtL_length] at hi
  have hi' : i < s.data.size := hi
  have := cell_of_row (w.drew.alloc (.cells (bytesRow s (grownCap w s.size 0 5)) 5 ((bytesRow s (grownCap w s.size 0 5)).size, (bytesRow s (grownCap w s.size 0 5)).size + 1))) w.heap.size (0 + i) _ 5 _ (heap_alloc_new _ _)
  rw [this, Nat.zero_add, bytesRow_at s _ i hi']
  simp [txtL, List.getD, Array.getElem?_eq_getElem hi']
def ofF (s : ByteArray) : Int × Int := if s.size = 2 then (if 256 * gB s 0 + gB s 1 = 0 then (0, 1) else (((256 * gB s 0 + gB s 1 : Nat) : Int), 0)) else (0, 4)
def Of2 (r : Int × Int) (w : World) (e : Ending) (w' : World) : Prop := e = .returned (.tuple #[.int .i64 r.1, .int .i64 r.2]) ∧ Below w.heap.size w w'
theorem txt_get (s : ByteArray) (i : Nat) (h : i < s.size) : (txtL s).getD i 0 = gB s i := by
  rw [← gB_at s i h]
  have h' : i < s.data.size := h
  unfold txtL
  simp only [List.getD, List.getElem?_map, Array.getElem?_toList, Array.getElem?_eq_getElem h', Option.map_some, Option.getD_some]
  rfl
theorem get2_txt (s : ByteArray) (h : s.size = 2) : get2V (txtL s) 0 = (((256 * gB s 0 + gB s 1 : Nat) : Int), 2, 0) := by
  unfold get2V
  rw [txtL_length, h, if_neg (by decide), if_neg (by decide)]
  simp only [Int.toNat_zero, Nat.zero_add]
  rw [txt_get s 0 (by omega), txt_get s 1 (by omega)]
  simp
theorem txt_lt (s : ByteArray) : ∀ x ∈ txtL s, x < 256 := by
  intro x hx
  simp only [txtL, List.mem_map] at hx
  obtain ⟨u, _, rfl⟩ := hx
  exact UInt8.toNat_lt _
set_option maxRecDepth 100000 in
theorem ofid_short (f : FuncId) (hf : f = 34 ∨ f = 41) (s : ByteArray) (w : World) (h : s.size ≠ 2) (hs : s.size ≤ 140737488355328) : Calls Tryd.prog f #[.string s] w (Of2 (0, 4) w) := by
  have h' : ((s.size : Int) != 2) = true := by simp; omega
  replace h := Lib.hid h
  rcases hf with rfl | rfl
  · go_enter Tryd.func34, Tryd.ntmps34
    go_wp2_with fail
    go_ret2
    exact ⟨rfl, Below.refl _ _⟩
  · go_enter Tryd.func41, Tryd.ntmps41
    go_wp2_with fail
    go_ret2
    exact ⟨rfl, Below.refl _ _⟩
end Go.Proofs.YtmpklaokgogigaaDoor.Pub

/-
  LAYER 14: numbers that stand alone, of two bytes.
-/
namespace Go.Proofs.YtmpklaokgogigaaDoor.Pub
set_option linter.unusedSimpArgs false
set_option linter.unusedVariables false
open Go.RowKit

def IdPost (n : Int) (w : World) (e : Ending) (w' : World) : Prop :=
  e = .returned (.tuple #[.int .i64 n, .int .i64 (if n = 0 then 0 else 2), .int .i64 (if n = 0 then 1 else 0)]) ∧ ∃ k, w' = w.drewN k
set_option maxRecDepth 100000 in
theorem getid (v : Value) (l : List Nat) (n : Int) (w : World) (hb : BytesAt w v l) (hl : l.length ≤ 140737488355328) (h256 : ∀ x ∈ l, x < 256) (hg : get2V l 0 = (n, 2, 0)) :
    Calls Tryd.prog 64 #[v, .int .i64 0] w (IdPost n w) := by
  have G := get2_any v l 0 w hb h256 hl (by decide)
  rw [hg] at G
  simp only at G
  obtain ⟨a, cap, rfl, -, -⟩ := hb
  replace G := Lib.hid G
  clear hg h256
  by_cases h : n = 0
  · subst h
    go_enter Tryd.func64, Tryd.ntmps64
    go_wp2_with fail
    refine (G.out).mono ?_
    rintro e w' ⟨rfl, k, rfl⟩
    go_wp2_with fail
    go_ret3
    exact ⟨by simp, k, rfl⟩
  · have hb : (n == 0) = false := beq_eq_false_iff_ne.2 h
    have h' := Lib.hid h
    clear h
    go_enter Tryd.func64, Tryd.ntmps64
    go_wp2_with fail
    refine (G.out).mono ?_
    rintro e w' ⟨rfl, k, rfl⟩
    go_wp2_with fail
    go_ret3
    exact ⟨by rw [if_neg h'.out, if_neg h'.out]; rfl, k, rfl⟩
set_option maxRecDepth 100000 in
theorem ofid_two (s : ByteArray) (w : World) (h : s.size = 2) : Calls Tryd.prog 34 #[.string s] w (Of2 (ofF s) w) := by
  obtain ⟨v, w1, hconv, a1, b1⟩ := bytes_of s w
  have I := getid v (txtL s) _ w1 a1 (by rw [txtL_length]; omega) (txt_lt s) (get2_txt s h)
  have hf : ofF s = if 256 * gB s 0 + gB s 1 = 0 then (0, 1) else (((256 * gB s 0 + gB s 1 : Nat) : Int), 0) := by unfold ofF; rw [if_pos h]
  rw [hf]
  clear hf
  generalize 256 * gB s 0 + gB s 1 = n at *
  have h' : ((s.size : Int) != 2) = false := by simp; omega
  obtain ⟨x, c, rfl, -, -⟩ := a1
  unfold IdPost at I
  replace b1 := Lib.hid b1
  have hsz : s.size ≤ 2 := by omega
  replace h := Lib.hid h
  by_cases hn : n = 0
  · subst hn
    simp only [Int.ofNat_eq_natCast, Int.natCast_zero, if_true] at I
    replace I := Lib.hid I
    go_enter Tryd.func34, Tryd.ntmps34
    go_wp2_with fail
    refine (I.out).mono ?_
    rintro e w' ⟨rfl, k, rfl⟩
    go_wp2_with fail
    go_ret2
    exact ⟨rfl, below_drewN b1.out k⟩
  · have hz : ¬ (n : Int) = 0 := by omega
    rw [if_neg hz, if_neg hz] at I
    rw [if_neg hn]
    replace I := Lib.hid I
    clear hz hn
    go_enter Tryd.func34, Tryd.ntmps34
    go_wp2_with fail
    refine (I.out).mono ?_
    rintro e w' ⟨rfl, k, rfl⟩
    go_wp2_with fail
    go_ret2
    exact ⟨rfl, below_drewN b1.out k⟩
set_option maxRecDepth 100000 in
theorem rofid_two (s : ByteArray) (w : World) (h : s.size = 2) : Calls Tryd.prog 41 #[.string s] w (Of2 (ofF s) w) := by
  obtain ⟨v, w1, hconv, a1, b1⟩ := bytes_of s w
  have I := rget2_any v (txtL s) 0 w1 a1 (txt_lt s) (by rw [txtL_length]; omega) (by decide)
  rw [get2_txt s h] at I
  have hf : ofF s = if 256 * gB s 0 + gB s 1 = 0 then (0, 1) else (((256 * gB s 0 + gB s 1 : Nat) : Int), 0) := by unfold ofF; rw [if_pos h]
  rw [hf]
  clear hf
  generalize 256 * gB s 0 + gB s 1 = n at *
  have h' : ((s.size : Int) != 2) = false := by simp; omega
  obtain ⟨x, c, rfl, -, -⟩ := a1
  simp only at I
  replace I := Lib.hid I
  replace b1 := Lib.hid b1
  have hsz : s.size ≤ 2 := by omega
  replace h := Lib.hid h
  by_cases hn : n = 0
  · subst hn
    go_enter Tryd.func41, Tryd.ntmps41
    go_wp2_with fail
    refine (I.out).mono ?_
    rintro e w' ⟨rfl, k, rfl⟩
    go_wp2_with fail
    go_ret2
    exact ⟨rfl, below_drewN b1.out k⟩
  · have hb : ((n : Int) == 0) = false := beq_eq_false_iff_ne.2 (by omega)
    rw [if_neg hn]
    replace hn := Lib.hid hn
    go_enter Tryd.func41, Tryd.ntmps41
    go_wp2_with fail
    refine (I.out).mono ?_
    rintro e w' ⟨rfl, k, rfl⟩
    go_wp2_with fail
    go_ret2
    exact ⟨rfl, below_drewN b1.out k⟩
theorem ofid_any (s : ByteArray) (w : World) (hs : s.size ≤ 140737488355328) : Calls Tryd.prog 34 #[.string s] w (Of2 (ofF s) w) := by
  by_cases h : s.size = 2
  · exact ofid_two s w h
  · have : ofF s = (0, 4) := by unfold ofF; rw [if_neg h]
    rw [this]; exact ofid_short 34 (.inl rfl) s w h hs
theorem rofid_any (s : ByteArray) (w : World) (hs : s.size ≤ 140737488355328) : Calls Tryd.prog 41 #[.string s] w (Of2 (ofF s) w) := by
  by_cases h : s.size = 2
  · exact rofid_two s w h
  · have : ofF s = (0, 4) := by unfold ofF; rw [if_neg h]
    rw [this]; exact ofid_short 41 (.inr rfl) s w h hs
end Go.Proofs.YtmpklaokgogigaaDoor.Pub

/-
  LAYER 14: numbers made, of both sides alike.
-/
namespace Go.Proofs.YtmpklaokgogigaaDoor.Pub
set_option linter.unusedSimpArgs false
set_option linter.unusedVariables false
open Go.RowKit

def Numb (l : List Nat) (x : Int) (w : World) (e : Ending) (w' : World) : Prop := ∃ v, e = .returned (.tuple #[v, .int .i64 x]) ∧ BytesAt w' v l ∧ Below w.heap.size w w'
theorem of_made (k : Nat) (h1 : 1 ≤ k) (h2 : k ≤ 65535) : ofF (strB [k / 256, k % 256]) = ((k : Int), 0) := by
  have hs : (strB [k / 256, k % 256]).size = 2 := by rw [strB_size]; rfl
  have e0 : gB (strB [k / 256, k % 256]) 0 = k / 256 := by
    rw [← gB_at _ _ (by omega)]
    show (UInt8.ofNat (k / 256)).toNat = k / 256
    simp; omega
  have e1 : gB (strB [k / 256, k % 256]) 1 = k % 256 := by
    rw [← gB_at _ _ (by omega)]
    show (UInt8.ofNat (k % 256)).toNat = k % 256
    simp
  unfold ofF
  rw [if_pos hs, e0, e1, show 256 * (k / 256) + k % 256 = k from by omega, if_neg (by omega)]
end Go.Proofs.YtmpklaokgogigaaDoor.Pub
