/-
  LAYER 11: Get, the program's.
-/
import Derived.Test.YtceiipcdkonnlaaDoorRb
import Derived.RegionTactic
import Derived.ChangeAlike
import Derived.BigRegion
import Derived.Deep.DeepMust
namespace Go.Proofs.YtceiipcdkonnlaaDoor
set_option linter.unusedSimpArgs false
set_option linter.unusedVariables false
open Go.RowKit

def HV (k f n to e : Int) : Value := .tuple #[.agg #[.int .i64 k, .int .i64 f, .int .i64 n], .int .i64 to, .int .i64 e]
/-- What Get answers at a place within the bytes, or at their end. -/
def getV (l : List Nat) (k0 : Nat) : Value :=
  if k0 = l.length then HV 0 0 0 0 2
  else if RightF ((l.getD k0 0 / 16 : Nat) : Int) ((l.getD k0 0 % 16 : Nat) : Int) ≠ 0 then HV 0 0 0 0 (RightF ((l.getD k0 0 / 16 : Nat) : Int) ((l.getD k0 0 % 16 : Nat) : Int))
  else if (lenF 4 0 0 (l.drop (k0 + 1))).2.2 = 0 then HV ((l.getD k0 0 / 16 : Nat) : Int) ((l.getD k0 0 % 16 : Nat) : Int) ((lenF 4 0 0 (l.drop (k0 + 1))).1 : Int) ((k0 : Int) + 1 + ((lenF 4 0 0 (l.drop (k0 + 1))).2.1 : Int)) 0
  else HV 0 0 0 0 ((lenF 4 0 0 (l.drop (k0 + 1))).2.2 : Int)
def GPost (l : List Nat) (k0 : Nat) (w : World) (e : Ending) (w' : World) : Prop := e = .returned (getV l k0) ∧ Below w.heap.size w w'
theorem Tab3.keep {w w' : World} (h : Tab3 w) (hb : Below w.heap.size w w') : Tab3 w' := by
  have h0 : 2 < w.heap.size := World.block_lt_of_cell? w _ h.1
  exact ⟨(hb.cell (p := ⟨2, 0, none⟩) h0).trans h.1, (hb.cell (p := ⟨2, 1, none⟩) h0).trans h.2.1, (hb.cell (p := ⟨2, 2, none⟩) h0).trans h.2.2⟩

set_option maxHeartbeats 1000000 in
set_option maxRecDepth 100000 in
theorem get_arg (a : Option Addr) (len cap : Nat) (k : Int) (w : World) (h0 : -9223372036854775808 ≤ k) (h1 : k ≤ 9223372036854775807) (h : k < 0 ∨ (0 ≤ k ∧ (len : Int) < k)) :
    Calls Tryd.prog 26 #[.slice a len cap, .int .i64 k] w fun e w' => e = .returned (HV 0 0 0 0 1) ∧ Below w.heap.size w w' := by
  rcases h with h | ⟨h, h2⟩
  all_goals
    go_enter Tryd.func26, Tryd.ntmps26
    go_wp2
    exact bodyPost_ret (v := HV 0 0 0 0 1) (by simp [results, Tryd.results26, go_sem, HV]) rfl ⟨rfl, by repeat (first | exact Below.refl _ _ | refine Below.drew ?_ | refine Below.alloc ?_ (by simp <;> omega) _ | refine Below.setCell ?_ (by simp <;> omega) _)⟩

set_option maxHeartbeats 1000000 in
set_option maxRecDepth 100000 in
theorem get_any (v : Value) (l : List Nat) (k0 : Nat) (w : World) (ht : Tab3 w) (hB : BytesAt w v l) (h : ∀ x ∈ l, x < 256) (hl : l.length ≤ 140737488355328) (hk : k0 ≤ l.length) :
    Calls Tryd.prog 26 #[v, .int .i64 (k0 : Int)] w (GPost l k0 w) := by
  have HB := Lib.hid hB
  have HT := Lib.hid ht
  obtain ⟨a, cap, rfl, hcp, hcase⟩ := hB
  have HC := Lib.hid hcase
  have HH := Lib.hid h
  have b0 : (0 : Int) ≤ k0 := by omega
  have b1 : (k0 : Int) ≤ l.length := by omega
  clear hcase h hcp ht
  by_cases hend : k0 = l.length
  · have HVe : Hid (getV l k0 = HV 0 0 0 0 2) := Lib.hid (by unfold getV; rw [if_pos hend])
    have hb : ((k0 : Int) == (l.length : Int)) = true := by rw [beq_iff_eq]; omega
    clear hend
    go_enter Tryd.func26, Tryd.ntmps26
    go_wp2
    exact bodyPost_ret (v := HV 0 0 0 0 2) (by simp [results, Tryd.results26, go_sem, HV]) rfl ⟨by rw [HVe.out], by repeat (first | exact Below.refl _ _ | refine Below.drew ?_ | refine Below.alloc ?_ (by simp <;> omega) _ | refine Below.setCell ?_ (by simp <;> omega) _)⟩
  · obtain ⟨d, hd⟩ : ∃ d, d = l.getD k0 0 := ⟨_, rfl⟩
    have hd2 : d < 256 := by rw [hd]; exact byte_lt l HH.out k0
    have hcell : ∃ b o, a = some ⟨b, o, none⟩ ∧ b < w.heap.size ∧ w.cell? ⟨b, o + k0, none⟩ = some (.int .u8 (d : Int)) := by
      rcases HC.out with h | ⟨b, o, ha, hb, hc⟩
      · rw [h] at hk hend; simp at hk hend; omega
      · exact ⟨b, o, ha, hb, by rw [hd]; exact hc _ (by omega)⟩
    obtain ⟨b, o, rfl, hbl, hc⟩ := hcell
    have hne : ((k0 : Int) == (l.length : Int)) = false := by rw [beq_eq_false_iff_ne]; omega
    have hlt : (k0 : Int) < (l.length : Int) := by omega
    have hc1 : (w.alloc (.cells #[.int .i64 0, .int .i64 0, .int .i64 0] 33)).cell? ⟨b, o + k0, none⟩ = some (.int .u8 (d : Int)) := by rw [World.cell?_alloc_past _ _ _ hbl]; exact hc
    have kand : bits .and .u8 (d : Int) 15 = ((d % 16 : Nat) : Int) := by
      rw [show (15 : Int) = ((15 : Nat) : Int) from rfl, u8_and_nat _ _ hd2 (by decide), nat_mask4]
    obtain ⟨E, hE⟩ : ∃ E, RightF ((d : Int) / 16) ((d : Int) % 16) = E := ⟨_, rfl⟩
    have R := fun (W : World) (hW : Tab3 W) => right_any ((d : Int) / 16) ((d : Int) % 16) W hW
    rw [hE] at R
    have hq1 : ((d / 16 : Nat) : Int) = (d : Int) / 16 := by omega
    have hq2 : ((d % 16 : Nat) : Int) = (d : Int) % 16 := by omega
    obtain ⟨x, y, z, hL⟩ : ∃ x y z : Nat, lenF 4 0 0 (l.drop (k0 + 1)) = (x, y, z) := ⟨_, _, _, rfl⟩
    have hgV : getV l k0 = if E ≠ 0 then HV 0 0 0 0 E else if z = 0 then HV ((d : Int) / 16) ((d : Int) % 16) x ((k0 : Int) + 1 + y) 0 else HV 0 0 0 0 z := by
      unfold getV
      rw [if_neg hend, ← hd, hq1, hq2, hE, hL]
    have HG := Lib.hid hgV
    have RH := Lib.hid R
    have keepT : ∀ W, Below w.heap.size w W → Tab3 W := fun W hW => HT.out.keep hW
    have KT := Lib.hid keepT
    clear hend hd hE hq1 hq2 hgV R keepT
    by_cases hE0 : E = 0
    · subst hE0
      have L : ∀ W, Below w.heap.size w W → Calls Tryd.prog 31 #[.slice (some ⟨b, o, none⟩) l.length cap, .int .i64 ((k0 : Int) + 1)] W fun e w' => e = .returned (.tuple #[.int .i64 (x : Int), .int .i64 (if z = 0 then (k0 : Int) + 1 + (y : Int) else 0), .int .i64 (z : Int)]) ∧ W = w' := by
        intro W hW
        have := len_any _ l (k0 + 1) W (HB.out.keep hW (Nat.le_refl _)) HH.out hl (by omega)
        unfold lenV at this
        rw [hL] at this
        rw [show ((k0 + 1 : Nat) : Int) = (k0 : Int) + 1 from by omega] at this
        exact this
      have LH := Lib.hid L
      clear L hL
      by_cases hz : z = 0
      · subst hz
        have LH0 := LH.out
        simp only [if_true] at LH0
        have LH := Lib.hid LH0
        clear LH0
        have hHV : Hid (getV l k0 = HV ((d : Int) / 16) ((d : Int) % 16) x ((k0 : Int) + 1 + y) 0) := Lib.hid (by rw [HG.out, if_neg (by decide), if_pos rfl])
        go_enter Tryd.func26, Tryd.ntmps26
        go_wp2
        go_region
        go_wp2_with (first
          | (go_at_call 30; refine (RH.out _ (KT.out _ (by repeat (first | exact Below.refl _ _ | refine Below.drew ?_ | refine Below.alloc ?_ (by simp <;> omega) _)))).mono ?_; rintro e w' ⟨rfl, rfl⟩)
          | (go_at_call 31; refine (LH.out _ (by repeat (first | exact Below.refl _ _ | refine Below.drew ?_ | refine Below.alloc ?_ (by simp <;> omega) _))).mono ?_; rintro e w' ⟨rfl, rfl⟩))
        exact bodyPost_ret (v := HV ((d : Int) / 16) ((d : Int) % 16) x ((k0 : Int) + 1 + y) 0) (by simp [results, Tryd.results26, go_sem, HV]) rfl ⟨by rw [hHV.out], by repeat (first | exact Below.refl _ _ | refine Below.drew ?_ | refine Below.alloc ?_ (by simp <;> omega) _ | refine Below.setCell ?_ (by simp <;> omega) _)⟩
      · have hzb : (((z : Nat) : Int) != 0) = true := by simp; omega
        have LH0 := LH.out
        simp only [hz, if_false] at LH0
        have LH := Lib.hid LH0
        clear LH0
        have hHV : Hid (getV l k0 = HV 0 0 0 0 z) := Lib.hid (by rw [HG.out, if_neg (by decide), if_neg hz])
        have HZ := Lib.hid hz
        clear hz
        go_enter Tryd.func26, Tryd.ntmps26
        go_wp2
        go_region
        go_wp2_with (first
          | (go_at_call 30; refine (RH.out _ (KT.out _ (by repeat (first | exact Below.refl _ _ | refine Below.drew ?_ | refine Below.alloc ?_ (by simp <;> omega) _)))).mono ?_; rintro e w' ⟨rfl, rfl⟩)
          | (go_at_call 31; refine (LH.out _ (by repeat (first | exact Below.refl _ _ | refine Below.drew ?_ | refine Below.alloc ?_ (by simp <;> omega) _))).mono ?_; rintro e w' ⟨rfl, rfl⟩))
        exact bodyPost_ret (v := HV 0 0 0 0 z) (by simp [results, Tryd.results26, go_sem, HV]) rfl ⟨by rw [hHV.out], by repeat (first | exact Below.refl _ _ | refine Below.drew ?_ | refine Below.alloc ?_ (by simp <;> omega) _ | refine Below.setCell ?_ (by simp <;> omega) _)⟩
    · have hEb : (E != 0) = true := by simpa using hE0
      have hHV : Hid (getV l k0 = HV 0 0 0 0 E) := Lib.hid (by rw [HG.out, if_pos hE0])
      have HE0 := Lib.hid hE0
      clear hE0 hL
      go_enter Tryd.func26, Tryd.ntmps26
      go_wp2
      go_region
      go_wp2_with (go_at_call 30; refine (RH.out _ (KT.out _ (by repeat (first | exact Below.refl _ _ | refine Below.drew ?_ | refine Below.alloc ?_ (by simp <;> omega) _)))).mono ?_; rintro e w' ⟨rfl, rfl⟩)
      exact bodyPost_ret (v := HV 0 0 0 0 E) (by simp [results, Tryd.results26, go_sem, HV]) rfl ⟨by rw [hHV.out], by repeat (first | exact Below.refl _ _ | refine Below.drew ?_ | refine Below.alloc ?_ (by simp <;> omega) _ | refine Below.setCell ?_ (by simp <;> omega) _)⟩
end Go.Proofs.YtceiipcdkonnlaaDoor
