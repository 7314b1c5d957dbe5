/-
  LAYER 13: what Put lays, as Of reads it.
-/
import Derived.Test.YtkohlbafpljfjaaKg
namespace Go.Proofs.Ytkohlbafpljfjaa.Con
set_option linter.unusedVariables false
set_option linter.unusedSimpArgs false
open Go.Proofs.Ytkohlbafpljfjaa
open Go.RowKit
theorem fold_ok : ∀ (ps : List (List Nat × Int)) (S : List Nat × Int), (ps.foldl st S).2 = 0 → S.2 = 0 ∧ (∀ p ∈ ps, p.2 = 0) ∧ (ps.foldl st S).1 = S.1 ++ (ps.map (·.1)).flatten := by
  intro ps
  induction ps with
  | nil => intro S h; exact ⟨h, (fun p hp => by cases hp), by simp⟩
  | cons p r ih =>
    intro S h
    obtain ⟨h1, h2, h3⟩ := ih (st S p) h
    have hS : S.2 = 0 := by
      by_cases hh : S.2 = 0
      · exact hh
      · unfold st at h1; simp only at h1; rw [if_neg hh] at h1; exact h1
    have e : st S p = (S.1 ++ p.1, p.2) := by unfold st; rw [if_pos hS, if_pos hS]
    rw [e] at h1 h3
    refine ⟨hS, fun x hx => ?_, ?_⟩
    · rcases List.mem_cons.1 hx with rfl | hx
      · exact h1
      · exact h2 x hx
    · rw [List.foldl_cons, e, h3]
      simp
theorem fin_zero {S : List Nat × Int} (h : (Ytkohlbafpljfjaa.fin S).2 = 0) : S.2 = 0 ∧ S.1.length ≤ 4096 ∧ (Ytkohlbafpljfjaa.fin S).1 = S.1 := by
  unfold Ytkohlbafpljfjaa.fin at *
  by_cases a : S.2 ≠ 0
  · rw [if_pos a] at h; exact absurd h a
  · rw [if_neg a] at h ⊢
    by_cases b : 4096 < S.1.length
    · rw [if_pos b] at h; exact absurd h (by decide)
    · rw [if_neg b] at h ⊢
      exact ⟨h, by omega, rfl⟩
theorem fin_nil {S : List Nat × Int} (h : (Ytkohlbafpljfjaa.fin S).2 ≠ 0) : (Ytkohlbafpljfjaa.fin S).1 = [] := by
  unfold Ytkohlbafpljfjaa.fin at *
  by_cases a : S.2 ≠ 0
  · rw [if_pos a]
  · rw [if_neg a] at h ⊢
    by_cases b : 4096 < S.1.length
    · rw [if_pos b]
    · rw [if_neg b] at h
      exact absurd h a
theorem text_zero {s : ByteArray} (h : textE s = 0) : (s.size ≤ 65535 ∧ rightB s = true) ∧ uL s = rawL s := by
  unfold textE at h
  unfold uL
  by_cases a : 65535 < s.size
  · rw [if_pos a] at h; exact absurd h (by decide)
  · rw [if_neg a] at h ⊢
    by_cases b : rightB s = true
    · rw [if_pos b]; exact ⟨⟨by omega, b⟩, rfl⟩
    · rw [if_neg b] at h; exact absurd h (by decide)
theorem laid_zero {s : ByteArray} (h : laidE s = 0) : s.size ≤ 65535 ∧ rL s = rawL s := by
  unfold laidE at h
  unfold rL
  by_cases a : 65535 < s.size
  · rw [if_pos a] at h; exact absurd h (by decide)
  · rw [if_neg a]; exact ⟨by omega, rfl⟩
theorem rawL_lt {s : ByteArray} (h : s.size ≤ 65535) : ∀ x ∈ rawL s, x < 256 := by
  intro x hx
  unfold rawL at hx
  rcases List.mem_append.1 hx with hx | hx
  · simp at hx; omega
  · exact txt_lt s x hx
theorem encL_lt {cl : Bool} {n : Nat} {id : ByteArray} {hw : Bool} {wt wx : ByteArray} {q : Nat} {rb hu : Bool} {u : ByteArray} {hp : Bool} {p : ByteArray} (hq : q < 3) (hn : n ≤ 65535)
    (i1 : id.size ≤ 65535) (i2 : hw = true → wt.size ≤ 65535 ∧ wx.size ≤ 65535) (i3 : hu = true → u.size ≤ 65535) (i4 : hp = true → p.size ≤ 65535) : ∀ x ∈ encL cl n id hw wt wx q rb hu u hp p, x < 256 := by
  intro x hx
  have hf := fl_lt ⟨q, hq⟩ cl hw rb hp hu 5
  simp only at hf
  unfold encL at hx
  rcases List.mem_append.1 hx with hx | hx
  · rcases List.mem_append.1 hx with hx | hx
    · rcases List.mem_append.1 hx with hx | hx
      · rcases List.mem_append.1 hx with hx | hx
        · unfold hdL at hx
          simp only [List.mem_cons, List.not_mem_nil, or_false] at hx
          have : fl q cl hw rb hp hu 5 < 256 := hf
          omega
        · exact rawL_lt i1 x hx
      · cases hw
        · simp at hx
        · rw [if_pos rfl] at hx
          rcases List.mem_append.1 hx with hx | hx
          · exact rawL_lt (i2 rfl).1 x hx
          · exact rawL_lt (i2 rfl).2 x hx
    · cases hu
      · simp at hx
      · rw [if_pos rfl] at hx; exact rawL_lt (i3 rfl) x hx
  · cases hp
    · simp at hx
    · rw [if_pos rfl] at hx; exact rawL_lt (i4 rfl) x hx
theorem txtL_strB2 {L : List Nat} (h : ∀ x ∈ L, x < 256) : txtL (strB L) = L := by
  unfold txtL strB
  simp only [List.map_map]
  conv => rhs; rw [← List.map_id L]
  apply List.map_congr_left
  intro x hx
  have := h x hx
  simp; omega
/-- What was put, as it is read. -/
structure Laid (l : List Nat) (c : Con) : Prop where
  pos : 1 ≤ l.length
  len : l.length ≤ 4096
  lt : ∀ x ∈ l, x < 256
  it : docV l = (c, 0)
  more : ∀ m, docV (l ++ [m]) = (con0, 4)
  less : docV l.dropLast = (con0, 2)
theorem put_nil {L : Int} {cl : Bool} {K : Int} {id : ByteArray} {hw : Bool} {wt wx : ByteArray} {wq : Int} {wr hu : Bool} {u : ByteArray} {hp : Bool} {p : ByteArray} (h : (conP L cl K id hw wt wx wq wr hu u hp p).2 ≠ 0) : (conP L cl K id hw wt wx wq wr hu u hp p).1 = [] := by
  unfold conP at *
  by_cases a : conE L K hw wt wx wq wr hu u hp p ≠ 0
  · rw [if_pos a]
  · rw [if_neg a] at h ⊢
    exact fin_nil h
theorem put_laid {L : Int} {cl : Bool} {K : Int} {id : ByteArray} {hw : Bool} {wt wx : ByteArray} {wq : Int} {wr hu : Bool} {u : ByteArray} {hp : Bool} {p : ByteArray} (h : (conP L cl K id hw wt wx wq wr hu u hp p).2 = 0) :
    Laid (conP L cl K id hw wt wx wq wr hu u hp p).1 ⟨L, cl, K, id, hw, wt, wx, wq, wr, hu, u, hp, p⟩ := by
  by_cases a : conE L K hw wt wx wq wr hu u hp p ≠ 0
  · unfold conP at h
    rw [if_pos a] at h
    exact absurd h a
  · have e : conP L cl K id hw wt wx wq wr hu u hp p = Ytkohlbafpljfjaa.fin (gat (cparts cl K id hw wt wx wq wr hu u hp p)) := by unfold conP; rw [if_neg a]
    rw [e] at h ⊢
    obtain ⟨f1, f2, f3⟩ := fin_zero h
    obtain ⟨rfl, k0, k1, q0, q1, d1, d2, d3, d4⟩ := conE_zero (by simpa using a)
    obtain ⟨n, rfl⟩ := Int.eq_ofNat_of_zero_le k0
    obtain ⟨q, rfl⟩ := Int.eq_ofNat_of_zero_le q0
    have hn : n ≤ 65535 := by omega
    have hq : q < 3 := by omega
    obtain ⟨-, g2, g3⟩ := fold_ok _ _ f1
    have i1 := text_zero (g2 (uL id, textE id) (by simp [cparts]))
    have i2 : hw = true → ((wt.size ≤ 65535 ∧ rightB wt = true) ∧ uL wt = rawL wt) ∧ wx.size ≤ 65535 ∧ rL wx = rawL wx := fun e => by
      subst e
      exact ⟨text_zero (g2 (uL wt, textE wt) (by simp [cparts])), laid_zero (g2 (rL wx, laidE wx) (by simp [cparts]))⟩
    have i3 : hu = true → (u.size ≤ 65535 ∧ rightB u = true) ∧ uL u = rawL u := fun e => by
      subst e
      exact text_zero (g2 (uL u, textE u) (by simp [cparts]))
    have i4 : hp = true → p.size ≤ 65535 ∧ rL p = rawL p := fun e => by
      subst e
      exact laid_zero (g2 (rL p, laidE p) (by simp [cparts]))
    have hL : (gat (cparts cl n id hw wt wx q wr hu u hp p)).1 = encL cl n id hw wt wx q wr hu u hp p := by
      refine g3.trans ?_
      unfold cparts encL hdL
      rw [Int.toNat_natCast, Int.toNat_natCast, i1.2]
      cases hw
      · cases hu
        · cases hp
          · simp
          · rw [(i4 rfl).2]; simp
        · rw [(i3 rfl).2]
          cases hp
          · simp
          · rw [(i4 rfl).2]; simp
      · rw [(i2 rfl).1.2, (i2 rfl).2.2]
        cases hu
        · cases hp
          · simp
          · rw [(i4 rfl).2]; simp
        · rw [(i3 rfl).2]
          cases hp
          · simp
          · rw [(i4 rfl).2]; simp
    obtain ⟨b1, b2, b3⟩ := con_back cl n id hw wt wx q wr hu u hp p hq hn d1 (fun x => ⟨(d2 x).1, (d2 x).2.1, by have := (d2 x).2.2.1; omega, (d2 x).2.2.2⟩) d3 d4 i1.1 (fun x => ⟨(i2 x).1.1, (i2 x).2.1⟩) (fun x => (i3 x).1) (fun x => (i4 x).1)
    have hlt := @encL_lt cl n id hw wt wx q wr hu u hp p hq hn i1.1.1 (fun x => ⟨(i2 x).1.1.1, (i2 x).2.1⟩) (fun x => (i3 x).1.1) (fun x => (i4 x).1)
    rw [f3, hL]
    rw [hL] at f2
    exact ⟨by unfold encL hdL; simp, f2, hlt, b1, b2, b3⟩
end Go.Proofs.Ytkohlbafpljfjaa.Con
