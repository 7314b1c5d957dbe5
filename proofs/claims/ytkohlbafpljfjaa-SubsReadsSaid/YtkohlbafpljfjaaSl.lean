/-
  LAYER 15: the filter at a place, read by the program.
-/
import Derived.Test.YtkohlbafpljfjaaSk
namespace Go.Proofs.Ytkohlbafpljfjaa
open Go.RowKit

def FilP (r : Fi × Nat × Int) (w : World) (e : Ending) (w' : World) : Prop :=
  e = .returned (.tuple #[.agg #[.string r.1.t, .int .i64 r.1.q], .int .i64 (r.2.1 : Nat), .int .i64 r.2.2]) ∧ Below w.heap.size w w'
theorem byte_at {w w' : World} {b o n c k : Nat} {l : List Nat} (h : BytesAt w (.slice (some ⟨b, o, none⟩) n c) l) (hk : k < l.length) (hb : Below w.heap.size w w') : w'.cell? ⟨b, o + k, none⟩ = some (.int .u8 ((l.getD k 0 : Nat) : Int)) := by
  obtain ⟨a, cap, hv, -, h⟩ := h
  simp only [Value.slice.injEq] at hv
  obtain ⟨rfl, -, -⟩ := hv
  rcases h with rfl | ⟨b', o', ha, hlt, hc⟩
  · simp at hk
  · simp only [Option.some.injEq, Addr.mk.injEq, and_true] at ha
    obtain ⟨rfl, rfl⟩ := ha
    rw [hb.cell (by simpa using hlt)]
    exact hc k hk
set_option maxHeartbeats 4000000 in
set_option maxRecDepth 100000 in
theorem filter_any (v : Value) (l : List Nat) (k : Nat) (ends : Bool) (w : World) (hb : BytesAt w v l) (h256 : ∀ x ∈ l, x < 256) (hl : l.length ≤ 140737488351232) (hk : k ≤ l.length) :
    Calls Try.prog 54 #[v, .int .i64 (k : Int), .bool ends] w (FilP (filtV l k ends) w) := by
  have hB := Lib.hid hb
  have G := Lib.hid (get_any v l k (w.alloc (.cells #[.string ⟨#[]⟩, .int .i64 0] 47)) (hb.keep (ext_alloc _ _) (Nat.le_refl _)) h256 (by omega) (by omega))
  have EN := @getV_end l k
  have hbyte : ∀ j, l.getD j 0 < 256 := fun j => by
    rw [List.getD_eq_getElem?_getD]
    cases e : l[j]? with
    | none => simp
    | some x => exact h256 x (List.mem_of_getElem? e)
  obtain ⟨a, cap, rfl, -, hcs⟩ := hb
  have row0 := heap_alloc_new w (.cells #[.string ⟨#[]⟩, .int .i64 0] 47)
  have b0 := Lib.hid (ext_alloc w (.cells #[.string ⟨#[]⟩, .int .i64 0] 47))
  have sz0 : w.heap.size < (w.alloc (.cells #[.string ⟨#[]⟩, .int .i64 0] 47)).heap.size := by simp
  have CELLS : ∀ w2 : World, Below (w.alloc (.cells #[.string ⟨#[]⟩, .int .i64 0] 47)).heap.size (w.alloc (.cells #[.string ⟨#[]⟩, .int .i64 0] 47)) w2 →
      w2.cell? ⟨w.heap.size, 0, none⟩ = some (.string ⟨#[]⟩) ∧ w2.cell? ⟨w.heap.size, 1, none⟩ = some (.int .i64 0) ∧ w2.frozen? ⟨w.heap.size, 0, none⟩ = false ∧ w2.frozen? ⟨w.heap.size, 1, none⟩ = false := by
    intro w2 b2
    have row2 := (b2.block _ sz0).trans row0
    have c0 := cell_of_row w2 w.heap.size 0 _ 47 (0, 0) row2
    have c1 := cell_of_row w2 w.heap.size 1 _ 47 (0, 0) row2
    exact ⟨by simpa using c0, by simpa using c1, frozen_of_row w2 w.heap.size 0 _ 47 row2, frozen_of_row w2 w.heap.size 1 _ 47 row2⟩
  replace CELLS := Lib.hid CELLS
  have hm : (l.length : Int) ≤ 140737488351232 := by omega
  unfold filtV
  generalize getV l k = r at *
  obtain ⟨S, y, x⟩ := r
  unfold GetPost at G
  simp only at G EN ⊢
  clear row0
  by_cases hx : x = 0
  · obtain ⟨m, rfl, hm1, hm2⟩ := EN hx h256
    subst hx
    rw [if_neg (by simp)]
    have hm3 : (m : Int) ≤ l.length := by omega
    cases ends
    · by_cases he : m = l.length
      · have eV : (if (false : Bool) = true then ((⟨S, 0⟩ : Fi), (m : Int).toNat, (0 : Int)) else if (m : Int).toNat = l.length then (noF, 0, 2) else if 2 < l.getD (m : Int).toNat 0 then (noF, 0, 5) else (⟨S, (l.getD (m : Int).toNat 0 : Nat)⟩, (m : Int).toNat + 1, 0)) = (noF, 0, 2) := by
          rw [if_neg (by simp), Int.toNat_natCast, if_pos he]
        rw [eV]
        have hd : ((m : Int) == (l.length : Int)) = true := by simp; omega
        clear eV EN hcs
        replace he := Lib.hid he
        replace h256 := Lib.hid h256
        replace hbyte := Lib.hid hbyte
        go_enter Try.func54, Try.ntmps54
        go_wp2_with fail
        refine G.out.mono ?_
        rintro e w2 ⟨rfl, b2⟩
        obtain ⟨c0, c1, f0, f1⟩ := CELLS.out _ b2
        have B2 := Lib.hid (ext_trans b0.out b2)
        clear b2
        go_wp2_with fail
        exact bodyPost_ret (v := .tuple #[.agg #[.string ⟨#[]⟩, .int .i64 0], .int .i64 0, .int .i64 2]) (by simp [results, Try.results54, go_sem, c0, c1]) rfl ⟨rfl, (B2.out.setCell (Nat.le_refl _) _).setCell (Nat.le_refl _) _⟩
      · have hlt : m < l.length := by omega
        have hlt' : (m : Int) < l.length := by omega
        have hd : ((m : Int) == (l.length : Int)) = false := by rw [beq_eq_false_iff_ne]; omega
        obtain ⟨b, o, rfl, hbl⟩ : ∃ b o, a = some ⟨b, o, none⟩ ∧ b < w.heap.size := by
          rcases hcs with rfl | ⟨b, o, rfl, hbl, -⟩
          · simp at hlt
          · exact ⟨b, o, rfl, hbl⟩
        have BY := Lib.hid fun w2 (h2 : Below w.heap.size w w2) => byte_at hB.out hlt h2
        have hc := hbyte m
        have eV : (if (false : Bool) = true then ((⟨S, 0⟩ : Fi), (m : Int).toNat, (0 : Int)) else if (m : Int).toNat = l.length then (noF, 0, 2) else if 2 < l.getD (m : Int).toNat 0 then (noF, 0, 5) else (⟨S, (l.getD (m : Int).toNat 0 : Nat)⟩, (m : Int).toNat + 1, 0)) = if 2 < l.getD m 0 then (noF, 0, 5) else (⟨S, (l.getD m 0 : Nat)⟩, m + 1, 0) := by
          rw [if_neg (by simp), Int.toNat_natCast, if_neg he]
        rw [eV]
        clear eV EN hcs
        replace he := Lib.hid he
        replace h256 := Lib.hid h256
        replace hbyte := Lib.hid hbyte
        generalize l.getD m 0 = c at *
        have hc' : (c : Int) < 256 := by omega
        by_cases h2 : 2 < c
        · rw [if_pos h2]
          have h2' : 2 < (c : Int) := by omega
          go_enter Try.func54, Try.ntmps54
          go_wp2_with fail
          refine G.out.mono ?_
          rintro e w2 ⟨rfl, b2⟩
          obtain ⟨c0, c1, f0, f1⟩ := CELLS.out _ b2
          have by0 := BY.out _ (ext_trans b0.out b2)
          have B2 := Lib.hid (ext_trans b0.out b2)
          clear b2
          go_wp2_with fail
          exact bodyPost_ret (v := .tuple #[.agg #[.string ⟨#[]⟩, .int .i64 0], .int .i64 0, .int .i64 5]) (by simp [results, Try.results54, go_sem, c0, c1]) rfl ⟨rfl, (B2.out.setCell (Nat.le_refl _) _).setCell (Nat.le_refl _) _⟩
        · rw [if_neg h2]
          have h2' : (c : Int) ≤ 2 := by omega
          go_enter Try.func54, Try.ntmps54
          go_wp2_with fail
          refine G.out.mono ?_
          rintro e w2 ⟨rfl, b2⟩
          obtain ⟨c0, c1, f0, f1⟩ := CELLS.out _ b2
          have by0 := BY.out _ (ext_trans b0.out b2)
          have B2 := Lib.hid (ext_trans b0.out b2)
          clear b2
          go_wp2_with fail
          exact bodyPost_ret (v := .tuple #[.agg #[.string S, .int .i64 (c : Int)], .int .i64 ((m : Int) + 1), .int .i64 0]) (by simp [results, Try.results54, go_sem, c0, c1]) rfl ⟨by simp, (B2.out.setCell (Nat.le_refl _) _).setCell (Nat.le_refl _) _⟩
    · rw [if_pos rfl]
      clear EN hcs
      replace h256 := Lib.hid h256
      replace hbyte := Lib.hid hbyte
      go_enter Try.func54, Try.ntmps54
      go_wp2_with fail
      refine G.out.mono ?_
      rintro e w2 ⟨rfl, b2⟩
      obtain ⟨c0, c1, f0, f1⟩ := CELLS.out _ b2
      have B2 := Lib.hid (ext_trans b0.out b2)
      clear b2
      go_wp2_with fail
      exact bodyPost_ret (v := .tuple #[.agg #[.string S, .int .i64 0], .int .i64 (m : Int), .int .i64 0]) (by simp [results, Try.results54, go_sem, c0, c1]) rfl ⟨by simp, (B2.out.setCell (Nat.le_refl _) _).setCell (Nat.le_refl _) _⟩
  · rw [if_pos hx]
    have hd : (x != 0) = true := by simpa using hx
    clear EN hcs
    replace hx := Lib.hid hx
    replace h256 := Lib.hid h256
    replace hbyte := Lib.hid hbyte
    go_enter Try.func54, Try.ntmps54
    go_wp2_with fail
    refine G.out.mono ?_
    rintro e w2 ⟨rfl, b2⟩
    obtain ⟨c0, c1, f0, f1⟩ := CELLS.out _ b2
    have B2 := Lib.hid (ext_trans b0.out b2)
    clear b2
    go_wp2_with fail
    exact bodyPost_ret (v := .tuple #[.agg #[.string ⟨#[]⟩, .int .i64 0], .int .i64 0, .int .i64 x]) (by simp [results, Try.results54, go_sem, c0, c1]) rfl ⟨rfl, (B2.out.setCell (Nat.le_refl _) _).setCell (Nat.le_refl _) _⟩
end Go.Proofs.Ytkohlbafpljfjaa
