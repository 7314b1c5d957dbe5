/-
  LAYER 32: the document's Born, Told, Dies.
-/
import Derived.Test.YtdljddghbkcddaaDp
namespace Go.Proofs.Ytdljddghbkcddaa
open Go.RowKit

theorem ItsAt.beside {w w' : World} {v : Value} {l : List It} (h : ItsAt w v l) {g : Nat} {cs : Array Value} {t : TypeId} {fr : Nat × Nat} (hr : w.heap[g]? = some (.cells cs t fr)) (hs : cs.size ≤ 7) (G : w.grownBy w' (some g)) : ItsAt w' v l := by
  obtain ⟨a, cap, hv, hc, h⟩ := h
  refine ⟨a, cap, hv, hc, ?_⟩
  rcases h with h | ⟨b, o, ha, hlt, hcell⟩
  · exact .inl h
  · cases l with
    | nil => exact .inl rfl
    | cons f l =>
      have c7 := hcell 0 f rfl 7 _ rfl
      have hne : b ≠ g := by
        rintro rfl
        rw [cell_of_row w b _ _ t fr hr] at c7
        have := (Array.getElem?_eq_some_iff.1 c7).1
        omega
      exact .inr ⟨b, o, ha, Nat.lt_of_lt_of_le hlt G.size, fun i f' hi j u hu => by
        rw [World.cell?_of_block (G.block b hlt (by simp; omega))]
        exact hcell i f' hi j u hu⟩
set_option maxHeartbeats 4000000 in
set_option maxRecDepth 100000 in
theorem xborn_any {w : World} {g : Nat} {nm : ByteArray} {on : Bool} {v : Value} {L : List It} {n : Int} (h : Dv 33 w g nm on v L n) (v1 : Value) (L1 : List It) (h1 : ItsAt w v1 L1) (hb : 0 ≤ n ∧ n ≤ 1000) :
    Calls Try.prog 11 #[.pointer (some ⟨g, 0, none⟩), v1] w (fun e w' => e = .returned (.tuple #[]) ∧ (∃ v', Dv 33 w' g nm true v' L1 (n + 1) ∧ w'.ownsRow w.heap.size 49 8 v' L1.length (itsAtC L1)) ∧ w.grownBy w' (some g)) := by
  obtain ⟨i0, z, hi, hz0, hz1, hz2, hzs⟩ := info49
  obtain ⟨c0, c1, c2, c3⟩ := h.cell
  obtain ⟨hb0, hb1⟩ := hb
  have f1 := h.free 1
  have f2 := h.free 2
  have f3 := h.free 3
  have H := Lib.hid h
  have G1 : w.grownBy (w.setCell ⟨g, 1, none⟩ (.bool true)) (some g) := set_grown _
  have I1 := Lib.hid ((h1.beside h.row (by simp) G1).keep (ext_alloc _ (.cells #[] 49)) (Nat.le_refl _))
  have R1 : (w.setCell ⟨g, 1, none⟩ (.bool true)).heap[g]? = some (.cells #[.string nm, .bool true, v, .int .i64 n] 33 (0, 0)) := by simpa using setRow h.row (j := 1) (.bool true)
  have hs : (w.setCell ⟨g, 1, none⟩ (.bool true)).heap.size = w.heap.size := by simp [World.setCell]
  replace G1 := Lib.hid G1
  replace R1 := Lib.hid R1
  replace hs := Lib.hid hs
  obtain ⟨a, cap, rfl, hl, -⟩ := id h1
  replace h1 := Lib.hid h1
  clear h
  go_enter Try.func11, Try.ntmps11
  go_wp2_with (at_builtin; refine wpList_append_its _ rfl (.tmp 9) (.tmp 10) 29 rfl w.heap.size 49 i0 z Try.underlying29 hi hz0 hzs hz1 hz2 (.slice (some ⟨w.heap.size, 0, none⟩) 0 0) L1 rfl (by have := World.ownsRow_made (w.setCell ⟨g, 1, none⟩ (.bool true)) (e := 49) (size := 8) #[] 0 (Nat.le_refl _) (Nat.zero_le _) (by simp); rw [hs.out] at this; exact this) I1.out (by simp) ?_; intro v2 w2 o2 g2; have b2 : Below w.heap.size (w.setCell ⟨g, 1, none⟩ (.bool true)) w2 := ((Below.refl _ _).alloc (by rw [hs.out]; exact Nat.le_refl _) _).grown g2 (by simp) (fun k hk => (by (have : w.heap.size = k := by simpa [Value.ownBlock] using hk); omega)); obtain ⟨va, vc, rfl⟩ := own_slice o2; have R2 := (b2.block g H.out.lt).trans R1.out; have q3 := (cell_of_row w2 g 3 _ 33 (0, 0) R2).trans (by simp : _ = some (.int .i64 n)); have q2 := (cell_of_row w2 g 2 _ 33 (0, 0) R2).trans (by simp : _ = some v); have e2 := frozen_of_row w2 g 2 _ 33 R2; have e3 := frozen_of_row w2 g 3 _ 33 R2; replace b2 := Lib.hid b2; replace o2 := Lib.hid o2; replace g2 := Lib.hid g2; replace R2 := Lib.hid R2)
  have B2 : Below w.heap.size (w.setCell ⟨g, 1, none⟩ (.bool true)) w2 := b2.out
  have G : w2.grownBy ((w2.setCell ⟨g, 2, none⟩ (.slice va L1.length vc)).setCell ⟨g, 3, none⟩ (.int .i64 (n + 1))) (some g) := grown_trans (set_grown _) (set_grown _)
  refine bodyPost_end (v := .tuple #[]) (by simp [results, Try.results11, go_sem]) rfl ⟨rfl, ⟨_, ⟨?_, own_base (own_grown o2.out R2.out (by decide) G) (Nat.zero_le _), hl⟩, own_grown o2.out R2.out (by decide) G⟩, grown_trans G1.out (grown_trans (grown_below b2.out (by rw [hs.out]; exact Nat.le_refl _)) G)⟩
  have := setRow (setRow R2.out (j := 2) (.slice va L1.length vc)) (j := 3) (.int .i64 (n + 1))
  simpa using this
set_option maxHeartbeats 4000000 in
set_option maxRecDepth 100000 in
theorem xtold_any {w : World} {g : Nat} {nm : ByteArray} {on : Bool} {v : Value} {L : List It} {n : Int} (h : Dv 33 w g nm true v L n) (v1 : Value) (L1 : List It) (h1 : ItsAt w v1 L1)  :
    Calls Try.prog 13 #[.pointer (some ⟨g, 0, none⟩), v1] w (fun e w' => e = .returned (.int .i64 0) ∧ (∃ v', Dv 33 w' g nm true v' L1 n ∧ w'.ownsRow w.heap.size 49 8 v' L1.length (itsAtC L1)) ∧ w.grownBy w' (some g)) := by
  obtain ⟨i0, z, hi, hz0, hz1, hz2, hzs⟩ := info49
  obtain ⟨c0, c1, c2, c3⟩ := h.cell
  have f1 := h.free 1
  have f2 := h.free 2
  have f3 := h.free 3
  have H := Lib.hid h
  have I1 := Lib.hid (h1.keep (ext_alloc _ (.cells #[] 49)) (Nat.le_refl _))
  obtain ⟨a, cap, rfl, hl, -⟩ := id h1
  replace h1 := Lib.hid h1
  clear h
  go_enter Try.func13, Try.ntmps13
  go_wp2_with (at_builtin; refine wpList_append_its _ rfl (.tmp 12) (.tmp 13) 29 rfl w.heap.size 49 i0 z Try.underlying29 hi hz0 hzs hz1 hz2 (.slice (some ⟨w.heap.size, 0, none⟩) 0 0) L1 rfl (World.ownsRow_made w #[] 0 (Nat.le_refl _) (Nat.zero_le _) (by simp)) I1.out (by simp) ?_; intro v2 w2 o2 g2; have b2 : Below w.heap.size w w2 := ((Below.refl _ _).alloc (Nat.le_refl _) _).grown g2 (by simp) (fun k hk => (by (have : w.heap.size = k := by simpa [Value.ownBlock] using hk); omega)); obtain ⟨va, vc, rfl⟩ := own_slice o2; have R2 := (b2.block g H.out.lt).trans H.out.row; have q2 := (cell_of_row w2 g 2 _ 33 (0, 0) R2).trans (by simp : _ = some v); have e2 := frozen_of_row w2 g 2 _ 33 R2; replace b2 := Lib.hid b2; replace o2 := Lib.hid o2; replace g2 := Lib.hid g2; replace R2 := Lib.hid R2)
  go_ret
  have G : w2.grownBy (w2.setCell ⟨g, 2, none⟩ (.slice va L1.length vc)) (some g) := set_grown _
  refine ⟨rfl, ⟨_, ⟨?_, own_base (own_grown o2.out R2.out (by decide) G) (Nat.zero_le _), hl⟩, own_grown o2.out R2.out (by decide) G⟩, grown_trans (grown_below b2.out (Nat.le_refl _)) G⟩
  have := setRow R2.out (j := 2) (.slice va L1.length vc)
  simpa using this
set_option maxHeartbeats 4000000 in
set_option maxRecDepth 100000 in
theorem xtold_off {w : World} {g : Nat} {nm : ByteArray} {v : Value} {L : List It} {n : Int} (h : Dv 33 w g nm false v L n) (v1 : Value) :
    Calls Try.prog 13 #[.pointer (some ⟨g, 0, none⟩), v1] w (fun e w' => e = .returned (.int .i64 7) ∧ w = w') := by
  obtain ⟨c0, c1, c2, c3⟩ := h.cell
  have f1 := h.free 1
  clear h
  go_enter Try.func13, Try.ntmps13
  go_wp2_with fail
  go_ret
  exact ⟨rfl, rfl⟩
set_option maxHeartbeats 4000000 in
set_option maxRecDepth 100000 in
theorem xdies_off {w : World} {g : Nat} {nm : ByteArray} {v : Value} {L : List It} {n : Int} (h : Dv 33 w g nm false v L n) :
    Calls Try.prog 15 #[.pointer (some ⟨g, 0, none⟩)] w (fun e w' => e = .returned (.int .i64 7) ∧ w = w') := by
  obtain ⟨c0, c1, c2, c3⟩ := h.cell
  have f1 := h.free 1
  clear h
  go_enter Try.func15, Try.ntmps15
  go_wp2_with fail
  go_ret
  exact ⟨rfl, rfl⟩
set_option maxHeartbeats 4000000 in
set_option maxRecDepth 100000 in
theorem xdies_on {w : World} {g : Nat} {nm : ByteArray} {v : Value} {L : List It} {n : Int} (h : Dv 33 w g nm true v L n) :
    Calls Try.prog 15 #[.pointer (some ⟨g, 0, none⟩)] w (fun e w' => e = .returned (.int .i64 0) ∧ Dv 33 w' g nm false v L n ∧ w.grownBy w' (some g)) := by
  obtain ⟨c0, c1, c2, c3⟩ := h.cell
  have f1 := h.free 1
  have H := Lib.hid h
  clear h
  go_enter Try.func15, Try.ntmps15
  go_wp2_with fail
  go_ret
  have G : w.grownBy (w.setCell ⟨g, 1, none⟩ (.bool false)) (some g) := set_grown _
  refine ⟨rfl, ⟨?_, own_grown H.out.its H.out.row (by decide) G, H.out.len⟩, G⟩
  have := setRow H.out.row (j := 1) (.bool false)
  simpa using this
end Go.Proofs.Ytdljddghbkcddaa
