/-
  LAYER 24: awake; a round of InboxPlays step by step.
-/
import Derived.Test.YtdljddghbkcddaaJg
import Derived.Test.YtdljddghbkcddaaDe
namespace Go.Proofs.Ytdljddghbkcddaa.Inb
open Go.RowKit

theorem sorted_nil : Sorted [] := fun _ _ _ h => by simp at h
theorem sorted_one (x : Int) : Sorted [x] := fun i j hij hj => by simp at hj; omega
theorem ext_drewN (w : World) (n : Nat) : Below w.heap.size w (w.drewN n) := ⟨rfl, rfl, rfl, Nat.le_refl _, fun _ _ => rfl⟩
theorem new24_more (w : World) : Calls Try.prog 26 #[] w fun e w' => e = .returned (.pointer (some ⟨w.heap.size, 0, none⟩)) ∧ Box w' w.heap.size (List.replicate 16 0) 0 ∧ Below w.heap.size w w' ∧ w'.heap.size = w.heap.size + 1 := by
  go_enter Try.func26, Try.ntmps26
  go_wp2
  go_ret
  exact ⟨rfl, ⟨heap_alloc_new w _, by simp, by omega⟩, ext_alloc w _, by simp⟩

set_option maxHeartbeats 1000000 in
set_option maxRecDepth 100000 in
theorem awake24_any (w : World) : Calls Try.prog 34 #[] w (Yes w) := by
  go_enter Try.func34, Try.ntmps34
  go_wp2_with fail
  refine (new24_any w).mono ?_
  rintro e w1 ⟨rfl, hb1, b1⟩
  have C1 := Lib.hid (come_new w.heap.size 0 _ 5 w1 hb1 sorted_nil (by omega) (by omega) (by omega) (by decide))
  go_wp2_with fail
  refine C1.out.mono ?_
  rintro e w2 ⟨rfl, A, M, R, hA, hAl, hb2, g2⟩
  obtain ⟨rfl, rfl⟩ : A = [] ∧ M = [] := by simpa using hA
  have b2 := b1.grown g2 b1.size (fun k hk => by cases hk; exact Nat.le_refl _)
  have C2 := Lib.hid (come_there w.heap.size 1 _ 5 w2 hb2 (sorted_one 5) (by omega) (by omega) (show foundIn 5 [5] = true by decide))
  have HB2 := Lib.hid hb2
  clear C1 hA hAl hb2 hb1 b1 g2
  go_wp2_with fail
  refine C2.out.mono ?_
  rintro e w3 ⟨k, rfl, rfl⟩
  have C3 := Lib.hid (done_yes w.heap.size 1 _ 5 (w2.drewN k) (HB2.out.drewN k) (sorted_one 5) (show foundIn 5 [5] = true by decide))
  go_wp2_with fail
  refine C3.out.mono ?_
  rintro e w4 ⟨rfl, A, M, R', z, hA, hb4, g4⟩
  have C4 := Lib.hid (len_any w.heap.size 0 _ w4 hb4)
  have b3 : Below w.heap.size w (w2.drewN k) := ext_trans b2 (ext_drewN w2 k)
  have b4 := b3.grown g4 b3.size (fun k hk => by cases hk; exact Nat.le_refl _)
  clear hA hb4 b2 b3 g4
  go_wp2_with fail
  refine C4.out.mono ?_
  rintro e w5 ⟨rfl, rfl⟩
  go_wp2
  go_ret
  exact ⟨rfl, b4⟩
theorem come_bad (g n : Nat) (xs : List Int) (t : Int) (w : World) (h : Box w g xs n) (ht : t < 1 ∨ 65535 < t) :
    Calls Try.prog 30 #[.pointer (some ⟨g, 0, none⟩), .int .i64 t] w fun e w' => e = .returned (.tuple #[.bool false, .int .i64 1]) ∧ w = w' := by
  have c0 := h.made
  clear h
  by_cases h1 : t < 1
  · clear ht
    go_enter Try.func30, Try.ntmps30
    go_wp2_with go_in
    go_ret2
    exact ⟨rfl, rfl⟩
  · have h2 : 65535 < t := by omega
    clear ht
    go_enter Try.func30, Try.ntmps30
    go_wp2_with go_in
    go_ret2
    exact ⟨rfl, rfl⟩
theorem clear_none (g : Nat) (xs : List Int) (w : World) (h : Box w g xs 0) :
    Calls Try.prog 27 #[.pointer (some ⟨g, 0, none⟩)] w fun e w' => e = .returned (.int .i64 0) ∧ w = w' := by
  have HL := Lib.hid (len_any g 0 xs w h)
  clear h
  go_enter Try.func27, Try.ntmps27
  go_wp2_with fail
  refine HL.out.mono ?_
  rintro e w' ⟨rfl, rfl⟩
  go_wp2
  go_ret
  exact ⟨rfl, rfl⟩
section
variable {w : World} {g : Nat} {v : Value} {l : List Int} {t : Int}
theorem xcome_there (h : Xb w g v l) (hs : Sorted l) (h0 : 1 ≤ t) (h1 : t ≤ 65535) (hl : l.length ≤ 16) (hm : t ∈ l) :
    Calls Try.prog 31 #[.pointer (some ⟨g, 0, none⟩), .int .i64 t] w fun e w' => e = .returned (.tuple #[.bool false, .int .i64 0]) ∧ w = w' := by
  refine (xcome_any h hs h0 h1 hl).mono ?_
  rintro e w' (⟨-, h⟩ | ⟨h, -⟩ | ⟨h, -⟩)
  · exact h
  · exact absurd hm h
  · exact absurd hm h
theorem xcome_full (h : Xb w g v l) (hs : Sorted l) (h0 : 1 ≤ t) (h1 : t ≤ 65535) (hl : l.length = 16) (hm : t ∉ l) :
    Calls Try.prog 31 #[.pointer (some ⟨g, 0, none⟩), .int .i64 t] w fun e w' => e = .returned (.tuple #[.bool false, .int .i64 6]) ∧ w = w' := by
  refine (xcome_any h hs h0 h1 (by omega)).mono ?_
  rintro e w' (⟨h, -⟩ | ⟨-, -, h⟩ | ⟨-, h, -⟩)
  · exact absurd h hm
  · exact h
  · omega
theorem xcome_new (h : Xb w g v l) (hs : Sorted l) (h0 : 1 ≤ t) (h1 : t ≤ 65535) (hl : l.length < 16) (hm : t ∉ l) :
    Calls Try.prog 31 #[.pointer (some ⟨g, 0, none⟩), .int .i64 t] w fun e w' => e = .returned (.tuple #[.bool true, .int .i64 0]) ∧ (∃ v', Xb w' g v' (l.take (posOf t l) ++ t :: l.drop (posOf t l))) ∧ w.grownBy w' (some g) := by
  refine (xcome_any h hs h0 h1 (by omega)).mono ?_
  rintro e w' (⟨h, -⟩ | ⟨-, h, -⟩ | ⟨-, -, h⟩)
  · exact absurd h hm
  · omega
  · exact h
end
/-- The two inboxes. -/
structure Ir (w W : World) (xs : List Int) (n : Nat) (vx : Value) (l : List Int) : Prop where
  bx : Box W w.heap.size xs n
  tk : xs.take n = l
  so : Sorted l
  xb : Xb W (w.heap.size + 1) vx l
  bw : Below w.heap.size w W
section
variable {w W W' : World} {xs : List Int} {n : Nat} {vx : Value} {l : List Int} {t : Int}
theorem Ir.len (h : Ir w W xs n vx l) : l.length = n := by
  have := h.bx.le
  have := h.bx.len
  rw [← h.tk, List.length_take]; omega
theorem Ir.le (h : Ir w W xs n vx l) : l.length ≤ 16 := by rw [h.len]; exact h.bx.le
theorem Ir.next (h : Ir w W xs n vx l) (hb : Below W.heap.size W W') : Ir w W' xs n vx l :=
  ⟨h.bx.keep hb h.bx.lt, h.tk, h.so, h.xb.keep hb, h.bw.trans (hb.mono h.bw.size)⟩
/-- The program's first, the document's behind it. -/
theorem Ir.both (h : Ir w W xs n vx l) {W1 W2 : World} {ys m : List Int} {k : Nat} {vy : Value} (g1 : W.grownBy W1 (some w.heap.size)) (b1 : Box W1 w.heap.size ys k) (g2 : W1.grownBy W2 (some (w.heap.size + 1))) (x2 : Xb W2 (w.heap.size + 1) vy m) (tk : ys.take k = m) (so : Sorted m) : Ir w W2 ys k vy m :=
  ⟨⟨(g2.block _ b1.lt (by simp)).trans b1.row, b1.len, b1.le⟩, tk, so, x2, (h.bw.grown g1 h.bw.size (fun k hk => by cases hk; exact Nat.le_refl _)).grown g2 (Nat.le_trans h.bw.size g1.size) (fun k hk => by cases hk; omega)⟩
theorem Xb.beside {g g' : Nat} {v : Value} (h : Xb W g v l) {ys : List Int} {k : Nat} (b : Box W g' ys k) (hne : g ≠ g') (G : W.grownBy W' (some g')) : Xb W' g v l :=
  ⟨(G.block _ h.lt (by simpa using hne)).trans h.row, own_grown h.its b.row (by decide) G⟩
theorem found_iff (hs : Sorted l) : (foundIn t l = true ↔ t ∈ l) := foundIn_iff hs
theorem sorted_ins (hs : Sorted l) (hm : t ∉ l) : Sorted (l.take (posOf t l) ++ t :: l.drop (posOf t l)) := by
  have hp := pos_of t l hs
  have hle := hp.le
  have e : l.take (posOf t l) ++ l.drop (posOf t l) = l := List.take_append_drop _ _
  have hlen : (l.take (posOf t l)).length = posOf t l := by rw [List.length_take]; omega
  exact sorted_in (by rw [e]; exact hs) (by rw [e, hlen]; exact hp) (by rw [e]; exact hm)
theorem ins_of {A M : List Int} (h : l = A ++ M) (hA : A.length = posOf t l) : l.take (posOf t l) ++ t :: l.drop (posOf t l) = A ++ t :: M := by
  rw [← hA, h]; simp
theorem mem_lt {A M : List Int} (hs : Sorted (A ++ t :: M)) : (∀ x ∈ A, x < t) ∧ ∀ x ∈ M, t < x := by
  constructor
  · intro x hx
    obtain ⟨i, hi, rfl⟩ := List.mem_iff_getElem.1 hx
    have := hs i A.length (by omega) (by simp)
    rw [getD_append_left _ _ _ hi, getD_append_right _ _ _ (Nat.le_refl _)] at this
    simpa [List.getD, List.getElem?_eq_getElem hi] using this
  · intro x hx
    obtain ⟨i, hi, rfl⟩ := List.mem_iff_getElem.1 hx
    have := hs A.length (A.length + (i + 1)) (by omega) (by simp; omega)
    rw [getD_append_right _ _ _ (Nat.le_refl _), getD_append_right _ _ _ (by omega)] at this
    simpa [List.getD, List.getElem?_eq_getElem hi] using this
theorem out_of {A M : List Int} (hs : Sorted (A ++ t :: M)) : outOf t (A ++ t :: M) = A ++ M := by
  obtain ⟨h1, h2⟩ := mem_lt hs
  unfold outOf
  rw [List.filter_append, List.filter_cons_of_neg (by simp), List.filter_eq_self.2 (fun x hx => by have := h1 x hx; simp; omega), List.filter_eq_self.2 (fun x hx => by have := h2 x hx; simp; omega)]
theorem out_no (h : t ∉ l) : outOf t l = l := by
  unfold outOf
  exact List.filter_eq_self.2 (fun x hx => by simp; rintro rfl; exact h hx)
theorem Ir.norm (h : Ir w W xs n vx l) : Ir w W xs l.length vx l := by
  have := h.len
  subst this
  exact h
theorem Ir.xstep (h : Ir w W xs n vx l) {vy : Value} (x : Xb W' (w.heap.size + 1) vy l) (g2 : W.grownBy W' (some (w.heap.size + 1))) : Ir w W' xs n vy l :=
  ⟨⟨(g2.block _ h.bx.lt (by simp)).trans h.bx.row, h.bx.len, h.bx.le⟩, h.tk, h.so, x, h.bw.grown g2 h.bw.size (fun k hk => by cases hk; omega)⟩
/-- The document's list goes. -/
theorem Ir.gone (h : Ir w W xs n vx l) : Box (W.setCell ⟨w.heap.size + 1, 0, none⟩ (.slice none 0 0)) w.heap.size xs n ∧ Xb (W.setCell ⟨w.heap.size + 1, 0, none⟩ (.slice none 0 0)) (w.heap.size + 1) (.slice none 0 0) [] ∧ Below w.heap.size w (W.setCell ⟨w.heap.size + 1, 0, none⟩ (.slice none 0 0)) := by
  obtain ⟨X, G⟩ := xstore h.xb (Below.refl _ _) (v2 := .slice none 0 0) (m := []) (World.ownsRow_nil _ _ _ _)
  exact ⟨⟨(G.block _ h.bx.lt (by simp)).trans h.bx.row, h.bx.len, h.bx.le⟩, X, h.bw.grown G h.bw.size (fun k hk => by cases hk; omega)⟩
theorem Ir.clear0 (h : Ir w W xs 0 vx l) : ∃ vy, Ir w (W.setCell ⟨w.heap.size + 1, 0, none⟩ (.slice none 0 0)) xs 0 vy [] := by
  obtain ⟨b, x, bw⟩ := h.gone
  exact ⟨_, b, by simp, sorted_nil, x, bw⟩
theorem Ir.clear1 (h : Ir w W xs n vx l) (b5 : Box W' w.heap.size xs 0) (g5 : (W.setCell ⟨w.heap.size + 1, 0, none⟩ (.slice none 0 0)).grownBy W' (some w.heap.size)) : ∃ vy, Ir w W' xs 0 vy [] := by
  obtain ⟨b, x, bw⟩ := h.gone
  exact ⟨_, b5, by simp, sorted_nil, x.beside b (by omega) g5, bw.grown g5 bw.size (fun k hk => by cases hk; exact Nat.le_refl _)⟩
theorem xdone_yes {g : Nat} {v : Value} (h : Xb w g v l) (hl : l.length ≤ 16) (hm : t ∈ l) :
    Calls Try.prog 29 #[.pointer (some ⟨g, 0, none⟩), .int .i64 t] w fun e w' => e = .returned (.bool true) ∧ (∃ v', Xb w' g v' (outOf t l)) ∧ w.grownBy w' (some g) := by
  refine (xdone_any h hl).mono ?_
  rintro e w' ⟨he, h⟩
  exact ⟨by rw [he, decide_eq_true ((outOf_lt t l).2 hm)], h⟩
theorem xdone_no {g : Nat} {v : Value} (h : Xb w g v l) (hl : l.length ≤ 16) (hm : t ∉ l) :
    Calls Try.prog 29 #[.pointer (some ⟨g, 0, none⟩), .int .i64 t] w fun e w' => e = .returned (.bool false) ∧ (∃ v', Xb w' g v' l) ∧ w.grownBy w' (some g) := by
  refine (xdone_any h hl).mono ?_
  rintro e w' ⟨he, h⟩
  rw [out_no hm] at he h
  exact ⟨by rw [he]; simp, h⟩
theorem Ir.found (h : Ir w W xs n vx l) (hm : t ∈ l) : foundIn t (xs.take n) = true := by rw [h.tk]; exact (found_iff h.so).2 hm
theorem Ir.missed (h : Ir w W xs n vx l) (hm : t ∉ l) : foundIn t (xs.take n) = false := by
  rw [h.tk, Bool.eq_false_iff]
  exact fun hf => hm ((found_iff h.so).1 hf)
theorem Ir.so' (h : Ir w W xs n vx l) : Sorted (xs.take n) := by rw [h.tk]; exact h.so
/-- A number done on both sides. -/
theorem Ir.done (h : Ir w W xs n vx l) {W1 W2 : World} {A M R : List Int} {z : Int} {vy : Value} (hx : xs.take n = A ++ t :: M) (b1 : Box W1 w.heap.size (A ++ (M ++ z :: R)) (n - 1)) (g1 : W.grownBy W1 (some w.heap.size)) (x2 : Xb W2 (w.heap.size + 1) vy (outOf t l)) (g2 : W1.grownBy W2 (some (w.heap.size + 1))) : Ir w W2 (A ++ (M ++ z :: R)) (n - 1) vy (outOf t l) := by
  have hl : l = A ++ t :: M := h.tk.symm.trans hx
  have hn := h.len
  have ho : outOf t l = A ++ M := by rw [hl]; exact out_of (by rw [← hl]; exact h.so)
  rw [ho] at x2 ⊢
  refine h.both g1 b1 g2 x2 ?_ (sorted_out (by rw [← hl]; exact h.so))
  have e : n - 1 = (A ++ M).length := by rw [← hn, hl]; simp
  rw [e, ← List.append_assoc, List.take_left']
  rfl
/-- A number new on both sides. -/
theorem Ir.came (h : Ir w W xs n vx l) (hm : t ∉ l) {W1 W2 : World} {A M R : List Int} {vy : Value} (hx : xs.take n = A ++ M) (hA : A.length = posOf t (xs.take n)) (b1 : Box W1 w.heap.size (A ++ t :: (M ++ R)) (n + 1)) (g1 : W.grownBy W1 (some w.heap.size)) (x2 : Xb W2 (w.heap.size + 1) vy (l.take (posOf t l) ++ t :: l.drop (posOf t l))) (g2 : W1.grownBy W2 (some (w.heap.size + 1))) :
    Ir w W2 (A ++ t :: (M ++ R)) (n + 1) vy (l.take (posOf t l) ++ t :: l.drop (posOf t l)) := by
  have hl : l = A ++ M := h.tk.symm.trans hx
  have hn := h.len
  rw [h.tk] at hA
  have e := ins_of hl hA
  have so := sorted_ins h.so hm
  rw [e] at so x2 ⊢
  refine h.both g1 b1 g2 x2 ?_ so
  have e : n + 1 = (A ++ t :: M).length := by rw [← hn, hl]; simp; omega
  rw [e, show A ++ t :: (M ++ R) = (A ++ t :: M) ++ R by simp, List.take_left']
  rfl
end
end Go.Proofs.Ytdljddghbkcddaa.Inb
