/-
  LAYER 14: numbers that stand alone, of two bytes.
-/
import Derived.Test.YtkihhnndidaloaaPb
namespace Go.Proofs.Ytkihhnndidaloaa
open Go.RowKit

def IdPost (n : Int) (w : World) (e : Ending) (w' : World) : Prop :=
  e = .returned (.tuple #[.int .i64 n, .int .i64 (if n = 0 then 0 else 2), .int .i64 (if n = 0 then 1 else 0)]) ∧ ∃ k, w' = w.drewN k
set_option maxRecDepth 100000 in
theorem getid (v : Value) (l : List Nat) (n : Int) (w : World) (hb : BytesAt w v l) (hl : l.length ≤ 140737488355328) (h256 : ∀ x ∈ l, x < 256) (hg : get2V l 0 = (n, 2, 0)) :
    Calls Try.prog 54 #[v, .int .i64 0] w (IdPost n w) := by
  have G := get2_any v l 0 w hb h256 hl (by decide)
  rw [hg] at G
  simp only at G
  obtain ⟨a, cap, rfl, -, -⟩ := hb
  replace G := Lib.hid G
  clear hg h256
  by_cases h : n = 0
  · subst h
    go_enter Try.func54, Try.ntmps54
    go_wp2_with fail
    refine (G.out).mono ?_
    rintro e w' ⟨rfl, k, rfl⟩
    go_wp2_with fail
    go_ret3
    exact ⟨by simp, k, rfl⟩
  · have hb : (n == 0) = false := beq_eq_false_iff_ne.2 h
    have h' := Lib.hid h
    clear h
    go_enter Try.func54, Try.ntmps54
    go_wp2_with fail
    refine (G.out).mono ?_
    rintro e w' ⟨rfl, k, rfl⟩
    go_wp2_with fail
    go_ret3
    exact ⟨by rw [if_neg h'.out, if_neg h'.out]; rfl, k, rfl⟩
set_option maxRecDepth 100000 in
theorem ofid_two (s : ByteArray) (w : World) (h : s.size = 2) : Calls Try.prog 21 #[.string s] w (Of2 (ofF s) w) := by
  obtain ⟨v, w1, hconv, a1, b1⟩ := bytes_of s w
  have I := getid v (txtL s) _ w1 a1 (by rw [txtL_length]; omega) (txt_lt s) (get2_txt s h)
  have hf : ofF s = if 256 * gB s 0 + gB s 1 = 0 then (0, 1) else (((256 * gB s 0 + gB s 1 : Nat) : Int), 0) := by unfold ofF; rw [if_pos h]
  rw [hf]
  clear hf
  generalize 256 * gB s 0 + gB s 1 = n at *
  have h' : ((s.size : Int) != 2) = false := by simp; omega
  obtain ⟨x, c, rfl, -, -⟩ := a1
  unfold IdPost at I
  replace b1 := Lib.hid b1
  have hsz : s.size ≤ 2 := by omega
  replace h := Lib.hid h
  by_cases hn : n = 0
  · subst hn
    simp only [Int.ofNat_eq_natCast, Int.natCast_zero, if_true] at I
    replace I := Lib.hid I
    go_enter Try.func21, Try.ntmps21
    go_wp2_with fail
    refine (I.out).mono ?_
    rintro e w' ⟨rfl, k, rfl⟩
    go_wp2_with fail
    go_ret2
    exact ⟨rfl, below_drewN b1.out k⟩
  · have hz : ¬ (n : Int) = 0 := by omega
    rw [if_neg hz, if_neg hz] at I
    rw [if_neg hn]
    replace I := Lib.hid I
    clear hz hn
    go_enter Try.func21, Try.ntmps21
    go_wp2_with fail
    refine (I.out).mono ?_
    rintro e w' ⟨rfl, k, rfl⟩
    go_wp2_with fail
    go_ret2
    exact ⟨rfl, below_drewN b1.out k⟩
set_option maxRecDepth 100000 in
theorem rofid_two (s : ByteArray) (w : World) (h : s.size = 2) : Calls Try.prog 22 #[.string s] w (Of2 (ofF s) w) := by
  obtain ⟨v, w1, hconv, a1, b1⟩ := bytes_of s w
  have I := rget2_any v (txtL s) 0 w1 a1 (txt_lt s) (by rw [txtL_length]; omega) (by decide)
  rw [get2_txt s h] at I
  have hf : ofF s = if 256 * gB s 0 + gB s 1 = 0 then (0, 1) else (((256 * gB s 0 + gB s 1 : Nat) : Int), 0) := by unfold ofF; rw [if_pos h]
  rw [hf]
  clear hf
  generalize 256 * gB s 0 + gB s 1 = n at *
  have h' : ((s.size : Int) != 2) = false := by simp; omega
  obtain ⟨x, c, rfl, -, -⟩ := a1
  simp only at I
  replace I := Lib.hid I
  replace b1 := Lib.hid b1
  have hsz : s.size ≤ 2 := by omega
  replace h := Lib.hid h
  by_cases hn : n = 0
  · subst hn
    go_enter Try.func22, Try.ntmps22
    go_wp2_with fail
    refine (I.out).mono ?_
    rintro e w' ⟨rfl, k, rfl⟩
    go_wp2_with fail
    go_ret2
    exact ⟨rfl, below_drewN b1.out k⟩
  · have hb : ((n : Int) == 0) = false := beq_eq_false_iff_ne.2 (by omega)
    rw [if_neg hn]
    replace hn := Lib.hid hn
    go_enter Try.func22, Try.ntmps22
    go_wp2_with fail
    refine (I.out).mono ?_
    rintro e w' ⟨rfl, k, rfl⟩
    go_wp2_with fail
    go_ret2
    exact ⟨rfl, below_drewN b1.out k⟩
theorem ofid_any (s : ByteArray) (w : World) (hs : s.size ≤ 140737488355328) : Calls Try.prog 21 #[.string s] w (Of2 (ofF s) w) := by
  by_cases h : s.size = 2
  · exact ofid_two s w h
  · have : ofF s = (0, 4) := by unfold ofF; rw [if_neg h]
    rw [this]; exact ofid_short 21 (.inl rfl) s w h hs
theorem rofid_any (s : ByteArray) (w : World) (hs : s.size ≤ 140737488355328) : Calls Try.prog 22 #[.string s] w (Of2 (ofF s) w) := by
  by_cases h : s.size = 2
  · exact rofid_two s w h
  · have : ofF s = (0, 4) := by unfold ofF; rw [if_neg h]
    rw [this]; exact ofid_short 22 (.inr rfl) s w h hs
end Go.Proofs.Ytkihhnndidaloaa
