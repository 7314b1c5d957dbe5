/-
  LAYER 32: the view of a device.
-/
import Derived.Test.YtdljddghbkcddaaDb
import Derived.StillTailTactics
import Derived.Deep.QuietTactic
import Derived.BigQuiet
namespace Go.Proofs.Ytdljddghbkcddaa
open Go.RowKit

def ViewP (nm : ByteArray) (on : Bool) (L : List It) (w : World) (e : Ending) (w' : World) : Prop :=
  ∃ v', e = .returned (.agg #[.string nm, .bool on, v']) ∧ w'.ownsRow w.heap.size 49 8 v' L.length (itsAtC L) ∧ Below w.heap.size w w'
set_option maxHeartbeats 4000000 in
set_option maxRecDepth 100000 in
theorem view_any {w : World} {g : Nat} {nm : ByteArray} {on : Bool} {v : Value} {L : List It} {n : Int} (h : Dv 79 w g nm on v L n) (hn : nm.toList.isEmpty = false) : Calls Try.prog 19 #[.pointer (some ⟨g, 0, none⟩)] w (ViewP nm on L w) := by
  have N := Lib.hid (fun w' (hw : Below w.heap.size w w') => none_any (h.keep hw) hn)
  have C := Lib.hid (fun w' (hw : Below w.heap.size w w') => clone_any v L w' ((h.keep hw).at))
  have H := Lib.hid h
  have b0 := ext_alloc w (.cells #[.string { data := #[] }, .bool false, .slice none 0 0] 31)
  have h0 := h.keep b0
  obtain ⟨c0, c1, c2, c3⟩ := h0.cell
  obtain ⟨va, vc, rfl⟩ := own_slice h.its
  replace b0 := Lib.hid b0
  replace h0 := Lib.hid h0
  clear h
  go_enter Try.func19, Try.ntmps19
  go_wp2_with (first | (go_at_call 36; refine (N.out _ b0.out).mono ?_; rintro e w' ⟨rfl, rfl⟩))
  have r0 := heap_alloc_new w (.cells #[.string { data := #[] }, .bool false, .slice none 0 0] 31)
  have lt0 : w.heap.size < (w.alloc (.cells #[.string { data := #[] }, .bool false, .slice none 0 0] 31)).heap.size := by simp
  have KC := Lib.hid (fun W' (hb : Below (w.alloc (.cells #[.string { data := #[] }, .bool false, .slice none 0 0] 31)).heap.size (w.alloc (.cells #[.string { data := #[] }, .bool false, .slice none 0 0] 31)) W') => And.intro (h0.out.keep hb) ((hb.block _ lt0).trans r0))
  have C2 := Lib.hid (fun W' (hb : Below (w.alloc (.cells #[.string { data := #[] }, .bool false, .slice none 0 0] 31)).heap.size (w.alloc (.cells #[.string { data := #[] }, .bool false, .slice none 0 0] 31)) W') => C.out W' (ext_trans b0.out hb))
  have sz0 : (w.alloc (.cells #[.string { data := #[] }, .bool false, .slice none 0 0] 31)).heap.size = w.heap.size + 1 := by simp
  generalize hW : w.alloc (.cells #[.string { data := #[] }, .bool false, .slice none 0 0] 31) = W at *
  replace hW := Lib.hid hW
  clear r0
  go_region_with ((go_at_call 37; refine (C2.out _ (Below.refl _ _).drew).mono ?_; rintro e w2 ⟨v2, rfl, o2, b2⟩; obtain ⟨wa, wc, rfl⟩ := own_slice o2; have BB := (Below.refl _ W).drew.trans b2; obtain ⟨hd, hr⟩ := KC.out _ BB; obtain ⟨d0, d1, d2, d3⟩ := hd.cell; have e0 := cell_of_row w2 w.heap.size 0 _ 31 (0, 0) hr; have e1 := cell_of_row w2 w.heap.size 1 _ 31 (0, 0) hr; have e2 := cell_of_row w2 w.heap.size 2 _ 31 (0, 0) hr; have z0 := frozen_of_row w2 w.heap.size 0 _ 31 hr; have z1 := frozen_of_row w2 w.heap.size 1 _ 31 hr; have z2 := frozen_of_row w2 w.heap.size 2 _ 31 hr; simp at e0 e1 e2; clear hd; replace hr := Lib.hid hr; replace BB := Lib.hid BB; replace o2 := Lib.hid o2; replace b2 := Lib.hid b2))
  all_goals
    go_wp2
    have G : w2.grownBy (((w2.setCell ⟨w.heap.size, 0, none⟩ (.string nm)).setCell ⟨w.heap.size, 1, none⟩ (.bool on)).setCell ⟨w.heap.size, 2, none⟩ (.slice wa L.length wc)) (some w.heap.size) := grown_trans (grown_trans (set_grown _) (set_grown _)) (set_grown _)
    exact bodyPost_ret (v := .agg #[.string nm, .bool on, .slice wa L.length wc]) (by simp [results, Try.results19, go_sem, e0, e1, e2]) rfl ⟨_, rfl, own_base (own_grown o2.out hr.out (by decide) G) (by have := b0.out.size; simpa using this), (((ext_trans b0.out BB.out).setCell (Nat.le_refl _) _).setCell (Nat.le_refl _) _).setCell (Nat.le_refl _) _⟩
end Go.Proofs.Ytdljddghbkcddaa
