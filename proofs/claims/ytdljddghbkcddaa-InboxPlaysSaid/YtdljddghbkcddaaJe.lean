/-
  LAYER 24: contracts of All and Clear; rows of numbers one behind the other.
-/
import Derived.Test.YtdljddghbkcddaaJd
namespace Go.Proofs.Ytdljddghbkcddaa.Inb
open Go.RowKit
theorem info3i : (Try.prog.info? 3).map (fun i => (i.zero, i.size, i.bytes)) = some (some (.int .i64 0), 1, 8) := by kernel_rfl
def il (l : List Int) : List Value := l.map (Value.int .i64)
def OwnsInts (B : Nat) (l : List Int) (w : World) (e : Ending) (w' : World) : Prop :=
  ∃ v, e = .returned v ∧ w'.ownsRow B 3 1 v l.length (il l) ∧ v ≠ .slice none 0 0 ∧ Below w.heap.size w w'

set_option maxRecDepth 100000 in
theorem clone_any (g o cap : Nat) (l : List Int) (w : World) (hl : l.length ≤ 16) (hg : g < w.heap.size)
    (hc : ∀ i, i < l.length → w.cell? ⟨g, o + i, none⟩ = some (.int .i64 (l.getD i 0))) :
    Calls Try.prog 46 #[.slice (some ⟨g, o, none⟩) l.length cap] w (OwnsInts w.heap.size l w) := by
  obtain ⟨i0, hi, hz0, hz1, hz2⟩ := info_parts info3i
  have hq := fun (w : World) => Lib.run_eql_slice_nil (P := Try.prog) w 65 3 (some ⟨g, o, none⟩) l.length cap 0 0 Try.underlying65
  have hown0 : (w.alloc (.cells #[] 3)).ownsRow w.heap.size 3 1 (.slice (some ⟨w.heap.size, 0, none⟩) 0 0) 0 [] := World.ownsRow_lit w #[] 0 (Nat.le_refl _) (by unfold maxLen; omega) rfl
  have hnews : ∀ j u, (il l)[j]? = some u → (w.alloc (.cells #[] 3)).cell? ((⟨g, o, none⟩ : Addr).add j) = some u := by
    intro j u hj
    have hjl : j < l.length := by have := (List.getElem?_eq_some_iff.1 hj).1; simpa [il] using this
    have hadd : (⟨g, o, none⟩ : Addr).add j = ⟨g, o + j, none⟩ := by unfold Addr.add; split <;> simp_all
    rw [hadd, World.cell?_alloc_past _ _ _ hg, hc j hjl]
    simp [il, List.getElem?_eq_getElem hjl] at hj
    rw [← hj]
    simp [List.getD, hjl]
  have HC := Lib.hid hc
  clear hc
  go_enter Try.func46, Try.ntmps46
  go_wp2_with (first
    | (at_builtin; go_must (refine wpList_append_own _ rfl (.tmp 5) (.tmp 6) 65 rfl w.heap.size 3 i0 (.int .i64 0) 1 8 Try.underlying65 hi hz0 hz1 hz2 rfl (by decide) _ _ _ rfl hown0 ⟨g, o, none⟩ l.length cap (il l) rfl (by simp [il]) hnews (by intro u hu; simp only [il, List.mem_map] at hu; obtain ⟨x, _, rfl⟩ := hu; rfl) (by unfold maxLen; omega) (by omega) (by simp) ?_); intro v1 w1 hown1 hgrow1 hnil1))
  go_ret
  refine ⟨v1, rfl, by simpa using hown1, (fun h => by cases (hnil1.1 h).1), ?_⟩
  exact (ext_alloc w (.cells #[] 3)).trans ((Below.refl _ _).grown hgrow1 (by simp) (fun k hk => (hown0.lt k hk).1))

set_option maxRecDepth 100000 in
theorem all_any (g n : Nat) (xs : List Int) (w : World) (h : Box w g xs n) :
    Calls Try.prog 32 #[.pointer (some ⟨g, 0, none⟩)] w (OwnsInts w.heap.size (xs.take n) w) := by
  have c0 := h.made
  have c1W := h.count
  have hn := h.le
  have hl : (xs.take n).length = n := by rw [List.length_take, h.len]; omega
  have hcl := clone_any g 2 16 (xs.take n) w.drew (by omega) h.lt (fun i hi => by
    rw [hl] at hi
    have := h.cell i (by omega)
    rw [show w.drew.cell? ⟨g, 2 + i, none⟩ = w.cell? ⟨g, 2 + i, none⟩ from rfl, this]
    simp [hi])
  rw [hl] at hcl
  have HCL := Lib.hid hcl
  have al := alen97
  have hn' : (n : Int) ≤ 16 := by omega
  clear h hl hcl
  go_enter Try.func32, Try.ntmps32
  go_wp2
  go_still_tail 8, (by kernel_rfl)
  go_wp2_with (go_at_call 46; refine HCL.out.mono ?_; rintro e w1 ⟨v, rfl, hown, hnn, hb⟩)
  go_ret
  exact ⟨v, rfl, hown, hnn, ext_trans (ext_drew w) hb⟩
theorem clear_any (g n : Nat) (xs : List Int) (w : World) (h : Box w g xs n) (hpos : 0 < n) :
    Calls Try.prog 27 #[.pointer (some ⟨g, 0, none⟩)] w fun e w' => e = .returned (.int .i64 n) ∧ Box w' g xs 0 ∧ w.grownBy w' (some g) := by
  have HL := Lib.hid (len_any g n xs w h)
  have HB := Lib.hid h
  have c1 := h.count
  have f1 := h.free 1
  clear h
  go_enter Try.func27, Try.ntmps27
  go_wp2_with fail
  refine HL.out.mono ?_
  rintro e w' ⟨rfl, rfl⟩
  go_wp2
  go_ret
  exact ⟨rfl, HB.out.recount 0 (by omega), set_grown _⟩
end Go.Proofs.Ytdljddghbkcddaa.Inb
