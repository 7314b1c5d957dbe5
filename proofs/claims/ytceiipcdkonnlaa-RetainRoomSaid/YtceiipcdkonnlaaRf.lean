/-
  LAYER 27: as many topics as there may be.
-/
import Derived.Test.YtceiipcdkonnlaaRd
import Derived.Test.YtceiipcdkonnlaaByt
namespace Go.Proofs.Ytceiipcdkonnlaa
set_option linter.unusedSimpArgs false
set_option linter.unusedVariables false
open Go.RowKit Go.Maps Go.WideMaps

def tN (c : Nat) : ByteArray := strB [116, c]
theorem conv_lit (w : World) (c : Nat) (ci : Int) (hci : ci = c) : (convert 23 9 (.slice (some ⟨w.heap.size, 0, none⟩) 2 2)).run Try.prog (w.alloc (.cells #[.int .u8 116, .int .u8 ci] 5)) = .ok (.string (tN c)) (w.alloc (.cells #[.int .u8 116, .int .u8 ci] 5)) := by
  subst hci
  have hB : BytesAt (w.alloc (.cells #[.int .u8 116, .int .u8 (c : Int)] 5)) (.slice (some ⟨w.heap.size, 0, none⟩) 2 2) [116, c] := by
    refine ⟨_, 2, rfl, ⟨Nat.le_refl _, fun h => by cases h⟩, .inr ⟨w.heap.size, 0, rfl, by simp, fun i hi => ?_⟩⟩
    rw [World.cell?_alloc_at _ _ _ _ rfl]
    have hi' : i < 2 := hi
    rcases (by omega : i = 0 ∨ i = 1) with rfl | rfl <;> simp
  exact hB.conv Try.underlying23 Try.underlying5 Try.underlying9
theorem tN_inj : ∀ i, i < 32 → ∀ j, j < 32 → tN (48 + i) = tN (48 + j) → i = j := by decide +kernel
theorem tN_x : ∀ i, i < 32 → tN (48 + i) ≠ tX := by decide +kernel
theorem tN_name : ∀ i, i < 32 → nameB (tN (48 + i)) = true := by decide +kernel
theorem tX_name : nameB tX = true := by decide +kernel
theorem tN_size (c : Nat) : (tN c).size ≤ 140737488351232 := by simp [tN, strB_size]
theorem tX_size : tX.size ≤ 140737488351232 := by decide
structure RM (w wr : World) (i : Nat) (D : DataW Value) : Prop where
  sv : Sv wr (w.heap.size + 1) w.heap.size i D
  bw : Below w.heap.size w wr
  sz : size D = i
  hs : ∀ j, j < 32 → has D (kS (tN (48 + j))) = decide (j < i)
  nx : has D (kS tX) = false
section
variable {w wr w' : World} {i : Nat} {D : DataW Value} {T : ByteArray}
theorem rm_start (w : World) : RM w ((w.alloc (.map #[] 0)).alloc (.cells #[.map (some w.heap.size)] 84)) 0 (.map []) :=
  ⟨new_sv w, ((Below.refl w.heap.size w).alloc (Nat.le_refl _) _).alloc (by simp) _, rfl, fun _ _ => rfl, rfl⟩
theorem RM.ext (h : RM w wr i D) (hb : Below wr.heap.size wr w') : RM w w' i D := ⟨h.sv.keep hb, ext_trans h.bw hb, h.sz, h.hs, h.nx⟩
theorem keep_n (h : RM w wr i D) (hi : i < 32) (hT : T.size ≠ 0) : Calls Try.prog 26 #[.pointer (some ⟨w.heap.size + 1, 0, none⟩), .agg #[.string (tN (48 + i)), .string T, .int .i64 0, .bool false]] wr fun e w' => ∃ D2, e = .returned (.tuple #[.bool false, .int .i64 0]) ∧ RM w w' (i + 1) D2 := by
  refine (keep_any wr (w.heap.size + 1) w.heap.size w.heap.size i D (tN (48 + i)) T 0 false h.sv (by omega) (Nat.le_refl _) (by omega) (tN_size _)).mono ?_
  rintro e w' ⟨rfl, s1, b1, -⟩
  have hn := tN_name i hi
  have hh : has D (kS (tN (48 + i))) = false := by rw [h.hs i hi]; simp
  have hs := h.sz
  have e1 : kD D (tN (48 + i)) T 0 = D.put (kS (tN (48 + i))) (.held (mV (tN (48 + i)) T 0 true)) := by
    unfold kD; rw [if_neg (by rw [hn]; simp), if_neg hT, if_neg (by omega)]
  have e2 : kE D (tN (48 + i)) T = 0 := by
    unfold kE; rw [if_neg (by rw [hn]; simp), if_neg hT, if_neg (by omega)]
  have e3 : kH D (tN (48 + i)) T = false := by
    unfold kH; rw [if_neg (by rw [hn]; simp), if_neg hT, if_neg (by omega), hh]
  rw [e1] at s1
  refine ⟨_, by rw [e2, e3], s1, h.bw.trans b1, ?_, ?_, ?_⟩
  · rw [size_put (h.sv.own.tidy law9), hh, if_neg (by simp), hs]
  · intro j hj
    by_cases e : j = i
    · subst e
      rw [has_put_same h.sv.own.isMap (kS_key _)]
      simp
    · rw [has_put_other (kS_ne (fun x => e (tN_inj j hj i hi x))), h.hs j hj]
      rw [decide_eq_decide]; omega
  · rw [has_put_other (kS_ne (fun x => tN_x i hi x.symm))]
    exact h.nx
/-- The full store, and what comes of it: whether the one topic, and x, are there; how many are. -/
structure RS (w wr : World) (n r : Nat) (D : DataW Value) (sz : Nat) (ht hx : Bool) : Prop where
  sv : Sv wr (w.heap.size + 1) w.heap.size n D
  bw : Below w.heap.size w wr
  sz : size D = sz
  ht : has D (kS (tN (48 + r))) = ht
  hx : has D (kS tX) = hx
theorem RM.full (h : RM w wr 32 D) {r : Nat} (hr : r < 32) : RS w wr 32 r D 32 true false := ⟨h.sv, h.bw, h.sz, by rw [h.hs r hr]; simpa using hr, h.nx⟩
theorem RS.ext {n r sz : Nat} {ht hx : Bool} (h : RS w wr n r D sz ht hx) (hb : Below wr.heap.size wr w') : RS w w' n r D sz ht hx := ⟨h.sv.keep hb, ext_trans h.bw hb, h.sz, h.ht, h.hx⟩
/-- One more has no room. -/
theorem room1 {r n : Nat} (h : RS w wr n r D 32 true false) (hn : n ≤ 1000) (hT : T.size ≠ 0) : Calls Try.prog 26 #[.pointer (some ⟨w.heap.size + 1, 0, none⟩), .agg #[.string tX, .string T, .int .i64 0, .bool false]] wr fun e w' => e = .returned (.tuple #[.bool false, .int .i64 6]) ∧ RS w w' (n + 1) r D 32 true false := by
  refine (keep_any wr (w.heap.size + 1) w.heap.size w.heap.size n D tX T 0 false h.sv (by omega) (Nat.le_refl _) hn tX_size).mono ?_
  rintro e w' ⟨rfl, s1, b1, -⟩
  have hc : has D (kS tX) = false ∧ 32 ≤ size D := ⟨h.hx, by rw [h.sz]; omega⟩
  have e1 : kD D tX T 0 = D := by unfold kD; rw [if_neg (by rw [tX_name]; simp), if_neg hT, if_pos hc]
  have e2 : kE D tX T = 6 := by unfold kE; rw [if_neg (by rw [tX_name]; simp), if_neg hT, if_pos hc]
  have e3 : kH D tX T = false := by unfold kH; rw [if_neg (by rw [tX_name]; simp), if_neg hT, if_pos hc]
  rw [e1] at s1
  exact ⟨by rw [e2, e3], s1, h.bw.trans b1, h.sz, h.ht, h.hx⟩
/-- One that is there is replaced. -/
theorem room2 {r n : Nat} (h : RS w wr n r D 32 true false) (hr : r < 32) (hn : n ≤ 1000) (hT : T.size ≠ 0) : Calls Try.prog 26 #[.pointer (some ⟨w.heap.size + 1, 0, none⟩), .agg #[.string (tN (48 + r)), .string T, .int .i64 0, .bool false]] wr fun e w' => ∃ D2, e = .returned (.tuple #[.bool true, .int .i64 0]) ∧ RS w w' (n + 1) r D2 32 true false := by
  refine (keep_any wr (w.heap.size + 1) w.heap.size w.heap.size n D (tN (48 + r)) T 0 false h.sv (by omega) (Nat.le_refl _) hn (tN_size _)).mono ?_
  rintro e w' ⟨rfl, s1, b1, -⟩
  have hm := tN_name r hr
  have hc : ¬ (has D (kS (tN (48 + r))) = false ∧ 32 ≤ size D) := by rw [h.ht]; simp
  have e1 : kD D (tN (48 + r)) T 0 = D.put (kS (tN (48 + r))) (.held (mV (tN (48 + r)) T 0 true)) := by unfold kD; rw [if_neg (by rw [hm]; simp), if_neg hT, if_neg hc]
  have e2 : kE D (tN (48 + r)) T = 0 := by unfold kE; rw [if_neg (by rw [hm]; simp), if_neg hT, if_neg hc]
  have e3 : kH D (tN (48 + r)) T = true := by unfold kH; rw [if_neg (by rw [hm]; simp), if_neg hT, if_neg hc, h.ht]
  rw [e1] at s1
  refine ⟨_, by rw [e2, e3], s1, h.bw.trans b1, ?_, ?_, ?_⟩
  · rw [size_put (h.sv.own.tidy law9), h.ht, if_pos rfl, h.sz]
  · exact has_put_same h.sv.own.isMap (kS_key _) _
  · rw [has_put_other (kS_ne (fun x => tN_x r hr x.symm))]; exact h.hx
/-- One goes. -/
theorem room3 {r n : Nat} (h : RS w wr n r D 32 true false) (hr : r < 32) (hn : n ≤ 1000) : Calls Try.prog 26 #[.pointer (some ⟨w.heap.size + 1, 0, none⟩), .agg #[.string (tN (48 + r)), .string ⟨#[]⟩, .int .i64 0, .bool false]] wr fun e w' => ∃ D2, e = .returned (.tuple #[.bool true, .int .i64 0]) ∧ RS w w' (n + 1) r D2 31 false false := by
  refine (keep_any wr (w.heap.size + 1) w.heap.size w.heap.size n D (tN (48 + r)) ⟨#[]⟩ 0 false h.sv (by omega) (Nat.le_refl _) hn (tN_size _)).mono ?_
  rintro e w' ⟨rfl, s1, b1, -⟩
  have hm := tN_name r hr
  have e1 : kD D (tN (48 + r)) ⟨#[]⟩ 0 = D.del (kS (tN (48 + r))) := by unfold kD; rw [if_neg (by rw [hm]; simp), if_pos (show (⟨#[]⟩ : ByteArray).size = 0 from rfl)]
  have e2 : kE D (tN (48 + r)) ⟨#[]⟩ = 0 := by unfold kE; rw [if_neg (by rw [hm]; simp), if_pos (show (⟨#[]⟩ : ByteArray).size = 0 from rfl)]
  have e3 : kH D (tN (48 + r)) ⟨#[]⟩ = true := by unfold kH; rw [if_neg (by rw [hm]; simp), if_pos (show (⟨#[]⟩ : ByteArray).size = 0 from rfl), h.ht]
  rw [e1] at s1
  refine ⟨_, by rw [e2, e3], s1, h.bw.trans b1, ?_, ?_, ?_⟩
  · have := size_del (k := kS (tN (48 + r))) (h.sv.own.tidy law9)
    rw [h.ht, if_pos rfl, h.sz] at this
    omega
  · exact has_del_same
  · rw [has_del_other (kS_ne (fun x => tN_x r hr x.symm))]; exact h.hx
/-- Now x has room. -/
theorem room4 {r n : Nat} (h : RS w wr n r D 31 false false) (hr : r < 32) (hn : n ≤ 1000) (hT : T.size ≠ 0) : Calls Try.prog 26 #[.pointer (some ⟨w.heap.size + 1, 0, none⟩), .agg #[.string tX, .string T, .int .i64 0, .bool false]] wr fun e w' => ∃ D2, e = .returned (.tuple #[.bool false, .int .i64 0]) ∧ RS w w' (n + 1) r D2 32 false true := by
  refine (keep_any wr (w.heap.size + 1) w.heap.size w.heap.size n D tX T 0 false h.sv (by omega) (Nat.le_refl _) hn tX_size).mono ?_
  rintro e w' ⟨rfl, s1, b1, -⟩
  have hc : ¬ (has D (kS tX) = false ∧ 32 ≤ size D) := by rw [h.sz]; omega
  have e1 : kD D tX T 0 = D.put (kS tX) (.held (mV tX T 0 true)) := by unfold kD; rw [if_neg (by rw [tX_name]; simp), if_neg hT, if_neg hc]
  have e2 : kE D tX T = 0 := by unfold kE; rw [if_neg (by rw [tX_name]; simp), if_neg hT, if_neg hc]
  have e3 : kH D tX T = false := by unfold kH; rw [if_neg (by rw [tX_name]; simp), if_neg hT, if_neg hc, h.hx]
  rw [e1] at s1
  refine ⟨_, by rw [e2, e3], s1, h.bw.trans b1, ?_, ?_, ?_⟩
  · rw [size_put (h.sv.own.tidy law9), h.hx, if_neg (by simp), h.sz]
  · rw [has_put_other (kS_ne (fun x => tN_x r hr x))]; exact h.ht
  · exact has_put_same h.sv.own.isMap (kS_key _) _
theorem room_len {r n sz : Nat} {ht hx : Bool} (h : RS w wr n r D sz ht hx) (hn : n ≤ 1000) : Calls Try.prog 29 #[.pointer (some ⟨w.heap.size + 1, 0, none⟩)] wr fun e w' => e = .returned (.int .i64 sz) ∧ RS w w' n r D sz ht hx := by
  refine (len_any wr (w.heap.size + 1) w.heap.size n D h.sv hn).mono ?_
  rintro e w' ⟨rfl, b1⟩
  exact ⟨by rw [h.sz], h.ext b1⟩
end
end Go.Proofs.Ytceiipcdkonnlaa
