/-
  LAYER 20: what a kind has; parts; joined.
-/
import Derived.Test.YtbmelmmefgehoaaDoorWb
import Derived.Test.YtbmelmmefgehoaaDoorIrf
import Derived.Test.YtbmelmmefgehoaaDoorSh
namespace Go.Proofs.YtbmelmmefgehoaaDoor
open Go.RowKit

def gB' (k : Nat) : Bool := decide (1 ≤ k) && decide (k ≤ 8)
def dB (k : Nat) : Bool := decide (5 ≤ k) && decide (k ≤ 8)
theorem hasg0 (w : World) (c : w.cell? ⟨0, 1, none⟩ = some (.int .i64 0)) : Calls Tryd.prog 18 #[.int .i64 0] w (Same (.bool false) w) := by
  go_enter Tryd.func18, Tryd.ntmps18
  go_wp2_with fail
  go_ret
  exact ⟨rfl, rfl⟩
theorem hasd0 (w : World) (c : w.cell? ⟨0, 1, none⟩ = some (.int .i64 0)) : Calls Tryd.prog 17 #[.int .i64 0] w (Same (.bool false) w) := by
  go_enter Tryd.func17, Tryd.ntmps17
  go_wp2_with fail
  go_ret
  exact ⟨rfl, rfl⟩
theorem hasg1 (w : World) (c : w.cell? ⟨0, 3, none⟩ = some (.int .i64 1)) : Calls Tryd.prog 18 #[.int .i64 1] w (Same (.bool true) w) := by
  go_enter Tryd.func18, Tryd.ntmps18
  go_wp2_with fail
  go_ret
  exact ⟨rfl, rfl⟩
theorem hasd1 (w : World) (c : w.cell? ⟨0, 3, none⟩ = some (.int .i64 1)) : Calls Tryd.prog 17 #[.int .i64 1] w (Same (.bool false) w) := by
  go_enter Tryd.func17, Tryd.ntmps17
  go_wp2_with fail
  go_ret
  exact ⟨rfl, rfl⟩
theorem hasg2 (w : World) (c : w.cell? ⟨0, 5, none⟩ = some (.int .i64 1)) : Calls Tryd.prog 18 #[.int .i64 2] w (Same (.bool true) w) := by
  go_enter Tryd.func18, Tryd.ntmps18
  go_wp2_with fail
  go_ret
  exact ⟨rfl, rfl⟩
theorem hasd2 (w : World) (c : w.cell? ⟨0, 5, none⟩ = some (.int .i64 1)) : Calls Tryd.prog 17 #[.int .i64 2] w (Same (.bool false) w) := by
  go_enter Tryd.func17, Tryd.ntmps17
  go_wp2_with fail
  go_ret
  exact ⟨rfl, rfl⟩
theorem hasg3 (w : World) (c : w.cell? ⟨0, 7, none⟩ = some (.int .i64 1)) : Calls Tryd.prog 18 #[.int .i64 3] w (Same (.bool true) w) := by
  go_enter Tryd.func18, Tryd.ntmps18
  go_wp2_with fail
  go_ret
  exact ⟨rfl, rfl⟩
theorem hasd3 (w : World) (c : w.cell? ⟨0, 7, none⟩ = some (.int .i64 1)) : Calls Tryd.prog 17 #[.int .i64 3] w (Same (.bool false) w) := by
  go_enter Tryd.func17, Tryd.ntmps17
  go_wp2_with fail
  go_ret
  exact ⟨rfl, rfl⟩
theorem hasg4 (w : World) (c : w.cell? ⟨0, 9, none⟩ = some (.int .i64 1)) : Calls Tryd.prog 18 #[.int .i64 4] w (Same (.bool true) w) := by
  go_enter Tryd.func18, Tryd.ntmps18
  go_wp2_with fail
  go_ret
  exact ⟨rfl, rfl⟩
theorem hasd4 (w : World) (c : w.cell? ⟨0, 9, none⟩ = some (.int .i64 1)) : Calls Tryd.prog 17 #[.int .i64 4] w (Same (.bool false) w) := by
  go_enter Tryd.func17, Tryd.ntmps17
  go_wp2_with fail
  go_ret
  exact ⟨rfl, rfl⟩
theorem hasg5 (w : World) (c : w.cell? ⟨0, 11, none⟩ = some (.int .i64 3)) : Calls Tryd.prog 18 #[.int .i64 5] w (Same (.bool true) w) := by
  go_enter Tryd.func18, Tryd.ntmps18
  go_wp2_with fail
  go_ret
  exact ⟨rfl, rfl⟩
theorem hasd5 (w : World) (c : w.cell? ⟨0, 11, none⟩ = some (.int .i64 3)) : Calls Tryd.prog 17 #[.int .i64 5] w (Same (.bool true) w) := by
  go_enter Tryd.func17, Tryd.ntmps17
  go_wp2_with fail
  go_ret
  exact ⟨rfl, rfl⟩
theorem hasg6 (w : World) (c : w.cell? ⟨0, 13, none⟩ = some (.int .i64 3)) : Calls Tryd.prog 18 #[.int .i64 6] w (Same (.bool true) w) := by
  go_enter Tryd.func18, Tryd.ntmps18
  go_wp2_with fail
  go_ret
  exact ⟨rfl, rfl⟩
theorem hasd6 (w : World) (c : w.cell? ⟨0, 13, none⟩ = some (.int .i64 3)) : Calls Tryd.prog 17 #[.int .i64 6] w (Same (.bool true) w) := by
  go_enter Tryd.func17, Tryd.ntmps17
  go_wp2_with fail
  go_ret
  exact ⟨rfl, rfl⟩
theorem hasg7 (w : World) (c : w.cell? ⟨0, 15, none⟩ = some (.int .i64 3)) : Calls Tryd.prog 18 #[.int .i64 7] w (Same (.bool true) w) := by
  go_enter Tryd.func18, Tryd.ntmps18
  go_wp2_with fail
  go_ret
  exact ⟨rfl, rfl⟩
theorem hasd7 (w : World) (c : w.cell? ⟨0, 15, none⟩ = some (.int .i64 3)) : Calls Tryd.prog 17 #[.int .i64 7] w (Same (.bool true) w) := by
  go_enter Tryd.func17, Tryd.ntmps17
  go_wp2_with fail
  go_ret
  exact ⟨rfl, rfl⟩
theorem hasg8 (w : World) (c : w.cell? ⟨0, 17, none⟩ = some (.int .i64 3)) : Calls Tryd.prog 18 #[.int .i64 8] w (Same (.bool true) w) := by
  go_enter Tryd.func18, Tryd.ntmps18
  go_wp2_with fail
  go_ret
  exact ⟨rfl, rfl⟩
theorem hasd8 (w : World) (c : w.cell? ⟨0, 17, none⟩ = some (.int .i64 3)) : Calls Tryd.prog 17 #[.int .i64 8] w (Same (.bool true) w) := by
  go_enter Tryd.func17, Tryd.ntmps17
  go_wp2_with fail
  go_ret
  exact ⟨rfl, rfl⟩
theorem hasg9 (w : World) (c : w.cell? ⟨0, 19, none⟩ = some (.int .i64 0)) : Calls Tryd.prog 18 #[.int .i64 9] w (Same (.bool false) w) := by
  go_enter Tryd.func18, Tryd.ntmps18
  go_wp2_with fail
  go_ret
  exact ⟨rfl, rfl⟩
theorem hasd9 (w : World) (c : w.cell? ⟨0, 19, none⟩ = some (.int .i64 0)) : Calls Tryd.prog 17 #[.int .i64 9] w (Same (.bool false) w) := by
  go_enter Tryd.func17, Tryd.ntmps17
  go_wp2_with fail
  go_ret
  exact ⟨rfl, rfl⟩
theorem hasg_any (k : Nat) (hk : k < 10) (w : World) (ht : Tabs w) : Calls Tryd.prog 18 #[.int .i64 (k : Int)] w (Same (.bool (gB' k)) w) := by
  have c := (ht.cells k hk).2
  match k, hk with
  | 0, _ => exact hasg0 w c
  | 1, _ => exact hasg1 w c
  | 2, _ => exact hasg2 w c
  | 3, _ => exact hasg3 w c
  | 4, _ => exact hasg4 w c
  | 5, _ => exact hasg5 w c
  | 6, _ => exact hasg6 w c
  | 7, _ => exact hasg7 w c
  | 8, _ => exact hasg8 w c
  | 9, _ => exact hasg9 w c
theorem hasd_any (k : Nat) (hk : k < 10) (w : World) (ht : Tabs w) : Calls Tryd.prog 17 #[.int .i64 (k : Int)] w (Same (.bool (dB k)) w) := by
  have c := (ht.cells k hk).2
  match k, hk with
  | 0, _ => exact hasd0 w c
  | 1, _ => exact hasd1 w c
  | 2, _ => exact hasd2 w c
  | 3, _ => exact hasd3 w c
  | 4, _ => exact hasd4 w c
  | 5, _ => exact hasd5 w c
  | 6, _ => exact hasd6 w c
  | 7, _ => exact hasd7 w c
  | 8, _ => exact hasd8 w c
  | 9, _ => exact hasd9 w c
theorem part_size {s x : ByteArray} (hx : x ∈ spS s) : x.size ≤ s.size := by
  obtain ⟨p, hp, rfl⟩ := List.mem_map.1 hx
  rw [bs_size]
  have := spl_sum _ p hp
  have h2 : s.data.toList.length = s.size := Array.length_toList
  omega
theorem nam_any (s : ByteArray) (w : World) (hs : s.size ≤ 1048576) : Calls Tryd.prog 9 #[.string s] w (BoolIs (nameB s) w) := name_any s w hs (fun _ => ca_all iRune s hs)
def partB (s : ByteArray) : Bool := nameB s && decide ((spS s).length = 1)
set_option maxHeartbeats 1000000 in
set_option maxRecDepth 100000 in
theorem part_any (s : ByteArray) (w : World) (hs : s.size ≤ 1048576) : Calls Tryd.prog 20 #[.string s] w (BoolIs (partB s) w) := by
  have N := Lib.hid (fun w => nam_any s w hs)
  have S := Lib.hid (fun w => split_any s w hs)
  have ka : (((spS s).length : Int) == 1) = decide ((spS s).length = 1) := by
    by_cases h : (spS s).length = 1
    · simp [h]
    · rw [decide_eq_false h, beq_eq_false_iff_ne]; omega
  have na := spS_pos s
  have la : ((spS s).length : Int) ≤ 1048577 := by have := spS_le s; omega
  unfold partB
  generalize nameB s = n at *
  cases n with
  | false =>
    go_enter Tryd.func20, Tryd.ntmps20
    go_wp2_with fail
    refine (N.out _).mono ?_
    rintro e w1 ⟨rfl, b1⟩
    go_wp2_with fail
    go_ret
    exact ⟨rfl, b1⟩
  | true =>
    generalize decide ((spS s).length = 1) = o at *
    go_enter Tryd.func20, Tryd.ntmps20
    go_wp2_with fail
    refine (N.out _).mono ?_
    rintro e w1 ⟨rfl, b1⟩
    go_wp2_with fail
    refine (S.out _).mono ?_
    rintro e w2 ⟨v, rfl, hown, b2⟩
    obtain ⟨g, cap, rfl, -, -, -, -⟩ := own_cells hown (by omega)
    clear hown
    go_wp2_with fail
    go_ret
    exact ⟨rfl, ext_trans b1 b2⟩
def StrIs (s : ByteArray) (w : World) (e : Ending) (w' : World) : Prop := e = .returned (.string s) ∧ Below w.heap.size w w'
def joinB (ss : List ByteArray) : ByteArray := bs (joi (ss.map (·.data.toList)))
theorem join_any (g c : Nat) (l : List ByteArray) (w : World) (hn : 1 ≤ l.length) (hc : l.length ≤ c) (hg : g < w.heap.size) (hcell : ∀ i x, l[i]? = some x → w.cell? ⟨g, i, none⟩ = some (.string x)) (h1 : l.length ≤ 8) (h2 : (joi (l.map (·.data.toList))).length ≤ 8388608) :
    Calls Tryd.prog 21 #[.slice (some ⟨g, 0, none⟩) l.length c] w (StrIs (joinB l) w) := by
  have J := Lib.hid (fun w' (hb : w' = w) => by subst hb; exact Tryd.strings_Join g 0 c l ⟨#[47]⟩ w' (fun j x hx => by rw [Nat.zero_add]; exact hcell j x hx) hg (by omega) hc (by show (Lib.join _ [47]).length ≤ _; rw [lib_join]; omega))
  have h1' : (l.length : Int) ≤ 8 := by omega
  replace hcell := Lib.hid hcell
  replace h2 := Lib.hid h2
  go_enter Tryd.func21, Tryd.ntmps21
  go_wp2_with fail
  refine (J.out _ rfl).mono ?_
  rintro e w1 ⟨rfl, b1⟩
  go_wp2_with fail
  go_ret
  refine ⟨?_, b1⟩
  show Ending.returned (.string ⟨(Lib.join _ [47]).toArray⟩) = _
  rw [lib_join]; rfl
end Go.Proofs.YtbmelmmefgehoaaDoor
