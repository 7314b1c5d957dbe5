/-
  LAYER 35: eight keys.
-/
import Derived.Test.YtoijdmchkjmpgaaRe
import Derived.Test.YtoijdmchkjmpgaaByt
namespace Go.Proofs.Ytoijdmchkjmpgaa.Rte
open Go.RowKit Que Hp Hg
def kN (c : Nat) : ByteArray := strB [107, c]
theorem conv_lit (w : World) (c : Nat) (ci : Int) (hci : ci = c) : (convert 41 9 (.slice (some ⟨w.heap.size, 0, none⟩) 2 2)).run Try.prog (w.alloc (.cells #[.int .u8 107, .int .u8 ci] 5)) = .ok (.string (kN c)) (w.alloc (.cells #[.int .u8 107, .int .u8 ci] 5)) := by
  subst hci
  have hB : BytesAt (w.alloc (.cells #[.int .u8 107, .int .u8 (c : Int)] 5)) (.slice (some ⟨w.heap.size, 0, none⟩) 2 2) [107, c] := by
    refine ⟨_, 2, rfl, ⟨Nat.le_refl _, fun h => by cases h⟩, .inr ⟨w.heap.size, 0, rfl, by simp, fun i hi => ?_⟩⟩
    rw [World.cell?_alloc_at _ _ _ _ rfl]
    have hi' : i < 2 := hi
    rcases (by omega : i = 0 ∨ i = 1) with rfl | rfl <;> simp
  exact hB.conv Try.underlying41 Try.underlying5 Try.underlying9
theorem kN_inj : ∀ i, i < 8 → ∀ j, j < 8 → kN (48 + i) = kN (48 + j) → i = j := by decide +kernel
def xS (more : ByteArray) : ByteArray := { data := #[120] } ++ more
theorem xS_list (more : ByteArray) : (xS more).data.toList = 120 :: more.data.toList := by simp [xS]
theorem kN_list (c : Nat) : (kN c).data.toList = [107, UInt8.ofNat c] := by simp [kN, strB]
theorem xS_ne (more : ByteArray) (c : Nat) : xS more ≠ kN c := fun e => by
  have := congrArg (fun b : ByteArray => b.data.toList) e
  simp only [xS_list, kN_list] at this
  simp at this
structure RM (w wr : World) (i : Nat) (now : Int) (G : List Gr) : Prop where
  rs : Rs (fun k => k < w.heap.size) wr w.heap.size 0 G
  bw : Below w.heap.size w wr
  ln : G.length = i
  has : ∀ j, j < i → lst G (kN (48 + j)) = some now
  non : ∀ x, (∀ j, j < i → x ≠ kN (48 + j)) → lst G x = none
section
variable {w wr w' : World} {now : Int} {i : Nat} {G : List Gr}
theorem RM.ext (h : RM w wr i now G) (hb : Below wr.heap.size wr w') : RM w w' i now G := ⟨h.rs.ext hb, ext_trans h.bw hb, h.ln, h.has, h.non⟩
theorem ask_n (h : RM w wr i now G) (hi : i < 8) (hn : 0 ≤ now ∧ now ≤ 65535) : Calls Try.prog 46 #[.pointer (some ⟨w.heap.size, 0, none⟩), .string (kN (48 + i)), .int .i64 now] wr fun e w' => ∃ G2, e = .returned (.bool true) ∧ RM w w' (i + 1) now G2 := by
  refine (rask h.rs (kN (48 + i)) now).mono ?_
  rintro e w' ⟨rfl, kp, G2, r2, a1, a2⟩
  have hl : lst G (kN (48 + i)) = none := h.non _ fun j hj e => by
    have := kN_inj i hi j (by omega) e
    omega
  have hm : may 0 G (kN (48 + i)) now = true := by rw [may_new hl (by omega), decide_eq_true (by rw [h.ln]; exact hi)]
  rw [hm] at a1 ⊢
  obtain ⟨u1, u2⟩ := a1 rfl
  refine ⟨G2, rfl, ⟨r2, h.bw.trans (kp.below h.bw.size (fun k hk => hk)), by rw [u2, if_pos hl, h.ln], fun j hj => ?_, fun x hx => ?_⟩⟩
  · rw [u1]
    by_cases e : j = i
    · subst e; rw [if_pos rfl]
    · rw [if_neg (fun e2 => e (kN_inj j (by omega) i hi e2.symm))]; exact h.has j (by omega)
  · rw [u1, if_neg (fun e => hx i (by omega) e.symm)]
    exact h.non x fun j hj => hx j (by omega)
theorem last_x (h : RM w wr 8 now G) (more : ByteArray) : Calls Try.prog 50 #[.pointer (some ⟨w.heap.size, 0, none⟩), .string (xS more)] wr fun e w' => e = .returned (.tuple #[.int .i64 0, .bool false]) ∧ RM w w' 8 now G := by
  refine (rlast h.rs (xS more)).mono ?_
  rintro e w' ⟨rfl, b⟩
  rw [h.non _ fun j _ => xS_ne more _]
  exact ⟨rfl, h.ext b⟩
theorem may_x (h : RM w wr 8 now G) (hn : 0 ≤ now ∧ now ≤ 65535) (more : ByteArray) : may 0 G (xS more) now = false := by
  rw [may_new (h.non _ fun j _ => xS_ne more _) (by omega), decide_eq_false (by rw [h.ln]; omega)]
theorem rmay_x (h : RM w wr 8 now G) (hn : 0 ≤ now ∧ now ≤ 65535) (more : ByteArray) : Calls Try.prog 44 #[.pointer (some ⟨w.heap.size, 0, none⟩), .string (xS more), .int .i64 now] wr fun e w' => e = .returned (.bool false) ∧ RM w w' 8 now G := by
  refine (rmay h.rs (xS more) now).mono ?_
  rintro e w' ⟨rfl, b⟩
  rw [may_x h hn]
  exact ⟨rfl, h.ext b⟩
theorem rask_x (h : RM w wr 8 now G) (hn : 0 ≤ now ∧ now ≤ 65535) (more : ByteArray) : Calls Try.prog 46 #[.pointer (some ⟨w.heap.size, 0, none⟩), .string (xS more), .int .i64 now] wr fun e w' => e = .returned (.bool false) ∧ RM w w' 8 now G := by
  refine (rask h.rs (xS more) now).mono ?_
  rintro e w' ⟨rfl, kp, G2, r2, a1, a2⟩
  have hm := may_x h hn more
  rw [hm] at a2 ⊢
  obtain rfl := a2 rfl
  exact ⟨rfl, ⟨r2, h.bw.trans (kp.below h.bw.size (fun k hk => hk)), h.ln, h.has, h.non⟩⟩
theorem rask_0 (h : RM w wr 8 now G) (hn : 0 ≤ now ∧ now ≤ 65535) : Calls Try.prog 46 #[.pointer (some ⟨w.heap.size, 0, none⟩), .string { data := #[107, 48] }, .int .i64 now] wr fun e w' => e = .returned (.bool true) ∧ Below w.heap.size w w' ∧ Calls Try.prog 49 #[.pointer (some ⟨w.heap.size, 0, none⟩)] w' fun e w2 => e = .returned (.int .i64 8) ∧ w' = w2 := by
  have hk : ({ data := #[107, 48] } : ByteArray) = kN (48 + 0) := by decide +kernel
  rw [hk]
  refine (rask h.rs (kN (48 + 0)) now).mono ?_
  rintro e w' ⟨rfl, kp, G2, r2, a1, a2⟩
  have hl := h.has 0 (by omega)
  have hm : may 0 G (kN (48 + 0)) now = true := by rw [may_one hl (by omega), decide_eq_true (by omega)]
  rw [hm] at a1 ⊢
  obtain ⟨u1, u2⟩ := a1 rfl
  refine ⟨rfl, h.bw.trans (kp.below h.bw.size (fun k hk => hk)), ?_⟩
  have := rlen r2
  rw [u2, hl, if_neg (by simp), h.ln] at this
  exact this
end
end Go.Proofs.Ytoijdmchkjmpgaa.Rte
