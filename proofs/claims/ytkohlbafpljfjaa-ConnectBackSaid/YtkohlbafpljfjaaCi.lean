/-
  LAYER 13: who comes, laid by both sides; awake; ConnectPuts' walk.
-/
import Derived.Test.YtkohlbafpljfjaaCg
namespace Go.Proofs.Ytkohlbafpljfjaa
set_option linter.unusedSimpArgs false
set_option linter.unusedVariables false
open Go.RowKit

def cparts (cl : Bool) (K : Int) (id : ByteArray) (hw : Bool) (wt wx : ByteArray) (wq : Int) (wr : Bool) (hu : Bool) (u : ByteArray) (hp : Bool) (p : ByteArray) : List (List Nat × Int) :=
  [([0, 4, 77, 81, 84, 84], 0), ([4, fl wq.toNat cl hw wr hp hu 5], 0), ([K.toNat / 256, K.toNat % 256], 0), (uL id, textE id)] ++
  (if hw then [(uL wt, textE wt), (rL wx, laidE wx)] else []) ++ (if hu then [(uL u, textE u)] else []) ++ (if hp then [(rL p, laidE p)] else [])
def conP (L : Int) (cl : Bool) (K : Int) (id : ByteArray) (hw : Bool) (wt wx : ByteArray) (wq : Int) (wr : Bool) (hu : Bool) (u : ByteArray) (hp : Bool) (p : ByteArray) : List Nat × Int :=
  if conE L K hw wt wx wq wr hu u hp p ≠ 0 then ([], conE L K hw wt wx wq wr hu u hp p) else fin (gat (cparts cl K id hw wt wx wq wr hu u hp p))
theorem conE_zero {L K : Int} {hw : Bool} {wt wx : ByteArray} {wq : Int} {wr : Bool} {hu : Bool} {u : ByteArray} {hp : Bool} {p : ByteArray} (h : conE L K hw wt wx wq wr hu u hp p = 0) :
    L = 4 ∧ 0 ≤ K ∧ K ≤ 65535 ∧ 0 ≤ wq ∧ wq ≤ 2 ∧ (hp = true → hu = true) ∧ (hw = false → wt = ⟨#[]⟩ ∧ wx = ⟨#[]⟩ ∧ wq = 0 ∧ wr = false) ∧ (hu = false → u = ⟨#[]⟩) ∧ (hp = false → p = ⟨#[]⟩) := by
  unfold conE at h
  by_cases a : L ≠ 4
  · rw [if_pos a] at h; cases h
  rw [if_neg a] at h
  by_cases b : K < 0 ∨ 65535 < K
  · rw [if_pos b] at h; cases h
  rw [if_neg b] at h
  by_cases c : (wq < 0 ∨ 2 < wq) ∨ (hp = true ∧ hu = false)
  · rw [if_pos c] at h; cases h
  rw [if_neg c] at h
  by_cases d : (hw = false ∧ zmsg wt wx wq wr = false) ∨ (hu = false ∧ u.size ≠ 0) ∨ (hp = false ∧ p.size ≠ 0)
  · rw [if_pos d] at h; cases h
  clear h
  refine ⟨by omega, by omega, by omega, by omega, by omega, fun k => ?_, fun k => ?_, fun k => ?_, fun k => ?_⟩
  · cases hu with
    | true => rfl
    | false => exact absurd (Or.inr ⟨k, rfl⟩) c
  · refine zmsg_iff ?_
    cases z : zmsg wt wx wq wr with
    | true => rfl
    | false => exact absurd (Or.inl ⟨k, z⟩) d
  · refine size0 ?_
    by_cases z : u.size = 0
    · exact z
    · exact absurd (Or.inr (Or.inl ⟨k, z⟩)) d
  · refine size0 ?_
    by_cases z : p.size = 0
    · exact z
    · exact absurd (Or.inr (Or.inr ⟨k, z⟩)) d
set_option maxRecDepth 100000 in
theorem cput_err (L : Int) (cl : Bool) (K : Int) (id : ByteArray) (hw : Bool) (wt wx : ByteArray) (wq : Int) (wr : Bool) (hu : Bool) (u : ByteArray) (hp : Bool) (p : ByteArray) (w : World) (E : Int)
    (R : ∀ W, Calls Try.prog 43 #[con L cl K id hw wt wx wq wr hu u hp p] W (Wrong E W)) (hE : E ≠ 0) :
    Calls Try.prog 23 #[con L cl K id hw wt wx wq wr hu u hp p] w (Numb [] E w) := by
  have h' : (E != 0) = true := by simpa using hE
  replace hE := Lib.hid hE
  replace R := Lib.hid R
  have b0 := Lib.hid (ext_alloc w (.cells #[.int .i64 L, .bool cl, .int .i64 K, .string id, .bool hw, .string wt, .string wx, .int .i64 wq, .bool wr, .bool hu, .string u, .bool hp, .string p] 51))
  unfold con at *
  go_enter Try.func23, Try.ntmps23
  go_wp2_with fail
  refine (R.out _).mono ?_
  rintro e w1 ⟨rfl, b1⟩
  go_wp2_with fail
  go_ret2
  exact ⟨_, rfl, nil_bytes _, ext_trans b0.out b1⟩
theorem cputs (L : Int) (cl : Bool) (K : Int) (id : ByteArray) (hw : Bool) (wt wx : ByteArray) (wq : Int) (wr : Bool) (hu : Bool) (u : ByteArray) (hp : Bool) (p : ByteArray) (w : World) (hx : wx.size ≤ 140737488351232) (hpp : p.size ≤ 140737488351232) :
    Calls Try.prog 23 #[con L cl K id hw wt wx wq wr hu u hp p] w (Numb (conP L cl K id hw wt wx wq wr hu u hp p).1 (conP L cl K id hw wt wx wq wr hu u hp p).2 w) := by
  by_cases h : conE L K hw wt wx wq wr hu u hp p = 0
  · have hP : conP L cl K id hw wt wx wq wr hu u hp p = fin (gat (cparts cl K id hw wt wx wq wr hu u hp p)) := by unfold conP; rw [if_neg (by simpa using h)]
    rw [hP]
    clear hP
    obtain ⟨rfl, k0, k1, q0, q1, d, e, f, g⟩ := conE_zero h
    obtain ⟨n, rfl⟩ := Int.eq_ofNat_of_zero_le k0
    obtain ⟨q, rfl⟩ := Int.eq_ofNat_of_zero_le q0
    have hn : n ≤ 65535 := by omega
    have hq : q < 3 := by omega
    unfold cparts
    rw [Int.toNat_natCast, Int.toNat_natCast]
    cases hw
    · obtain ⟨rfl, rfl, z, rfl⟩ := e rfl
      obtain rfl : q = 0 := by omega
      cases hu
      · obtain rfl := f rfl
        have : hp = false := by cases hp with | false => rfl | true => exact absurd (d rfl) (by decide)
        subst this
        obtain rfl := g rfl
        exact cput_fff cl n id w hn h
      · cases hp
        · obtain rfl := g rfl
          exact cput_ftf cl n id u w hn h
        · exact cput_ftt cl n id u p w hn h
    · cases hu
      · obtain rfl := f rfl
        have : hp = false := by cases hp with | false => rfl | true => exact absurd (d rfl) (by decide)
        subst this
        obtain rfl := g rfl
        exact cput_tff cl n id wt wx q wr w hn hq h
      · cases hp
        · obtain rfl := g rfl
          exact cput_ttf cl n id wt wx q wr u w hn hq h
        · exact cput_ttt cl n id wt wx q wr u p w hn hq h
  · have hP : conP L cl K id hw wt wx wq wr hu u hp p = ([], conE L K hw wt wx wq wr hu u hp p) := by unfold conP; rw [if_pos h]
    rw [hP]
    exact cput_err L cl K id hw wt wx wq wr hu u hp p w _ (fun W => wrongs55 L cl K id hw wt wx wq wr hu u hp p W) h
theorem conP_a : conP 4 true 10 ⟨#[97]⟩ false ⟨#[]⟩ ⟨#[]⟩ 0 false false ⟨#[]⟩ false ⟨#[]⟩ = ([0, 4, 77, 81, 84, 84, 4, 2, 0, 10, 0, 1, 97], 0) := by decide +kernel
set_option maxRecDepth 100000 in
theorem awake13_any (w : World) : Calls Try.prog 22 #[] w (Yes w) := by
  have C := fun W => (cputs 4 true 10 ⟨#[97]⟩ false ⟨#[]⟩ ⟨#[]⟩ 0 false false ⟨#[]⟩ false ⟨#[]⟩ W (by decide) (by decide))
  rw [conP_a] at C
  unfold con at C
  replace C := Lib.hid C
  go_enter Try.func22, Try.ntmps22
  go_wp2_with fail
  refine (C.out _).mono ?_
  rintro e w1 ⟨v, rfl, a1, b1⟩
  have kc := a1.conv (P := Try.prog) Try.underlying23 Try.underlying5 Try.underlying9
  have hs : strB [0, 4, 77, 81, 84, 84, 4, 2, 0, 10, 0, 1, 97] = ⟨#[0, 4, 77, 81, 84, 84, 4, 2, 0, 10, 0, 1, 97]⟩ := by decide +kernel
  rw [hs] at kc
  obtain ⟨x, n, rfl, -, -⟩ := a1
  simp only [List.length_cons, List.length_nil, Nat.reduceAdd, Nat.zero_add] at kc
  clear hs
  go_wp2_with fail
  go_ret
  exact ⟨rfl, b1⟩
end Go.Proofs.Ytkohlbafpljfjaa
