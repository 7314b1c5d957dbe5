/-
  LAYER 34: the document's Take of the first name of all.
-/
import Derived.Test.YtdljddghbkcddaaHm
namespace Go.Proofs.Ytdljddghbkcddaa.Hst
open Go.RowKit Go.Maps Go.WideMaps
section
variable {B : Nat} {w w' : World} {x : Nat} {v : Value} {L : List Host}
set_option maxHeartbeats 4000000 in
set_option maxRecDepth 100000 in
theorem xtake_nil_on (h : Xh B w x (.slice none 0 0) []) (hB : B ≤ w.heap.size) {k : ByteArray} (hk : k.toList.isEmpty = false) :
    Calls Try.prog 22 #[.pointer (some ⟨x, 0, none⟩), .string k, .string (tOf true)] w fun y w' => y = .returned (.int .i64 1) ∧ ∃ v', XNw B w w' x (.slice none 0 0) (ins [] k true) v' := by
  obtain ⟨i63, hi63, hz0, hz1, hz2⟩ := info63'
  have c0 := h.c0
  have f1 := h.fz 0
  have xlt := h.lt
  have H := Lib.hid h
  have hins : ins [] k true = [(k, true)] := rfl
  replace hins := Lib.hid hins
  have oA := (show (w.alloc (.cells #[] 63)).ownsRow w.heap.size 63 2 (.slice (some ⟨w.heap.size, 0, none⟩) 0 0) 0 [] from ⟨rfl, .inr ⟨_, 0, #[], rfl, Nat.le_refl _, heap_alloc_new w _, Nat.le_refl _, Nat.zero_le _, rfl, rfl⟩⟩)
  have bA := Lib.hid (ext_alloc w (.cells #[] 63))
  have oB := Lib.hid (own_keep oA (ext_alloc (w.alloc (.cells #[] 63)) (.cells #[.string k, .bool true] 63)))
  replace oA := Lib.hid oA
  have nB : Hid (∀ j u, ([Value.string k, .bool true] : List Value)[j]? = some u → ((w.alloc (.cells #[] 63)).alloc (.cells #[.string k, .bool true] 63)).cell? ((⟨w.heap.size + 1, 0, none⟩ : Addr).add j) = some u) := Lib.hid (by
    intro j u hj
    have h2 := heap_alloc_new (w.alloc (.cells #[] 63)) (.cells #[.string k, .bool true] 63)
    rw [World.size_alloc] at h2
    have := cell_of_row ((w.alloc (.cells #[] 63)).alloc (.cells #[.string k, .bool true] 63)) (w.heap.size + 1) j _ 63 (0, 0) h2
    rw [add_off2, Nat.zero_add, this, ← hj]
    simp)
  have one2 : Hid (∀ u ∈ ([Value.string k, .bool true] : List Value), u.oneCell' = true) := Lib.hid (by intro u hu; simp at hu; rcases hu with rfl | rfl <;> rfl)
  have FIN : Hid (∀ (W : World) v', Below w.heap.size w W → W.ownsRow w.heap.size 63 2 v' (ins [] k true).length (hcC (ins [] k true)) → XNw B w (W.setCell ⟨x, 0, none⟩ v') x _ (ins [] k true) v') := Lib.hid fun W v' hW o => xh_end H.out hW hB o
  clear h
  unfold tOf tON tOFF
  simp only [if_true, Bool.false_eq_true, if_false]
  go_enter Try.func22, Try.ntmps22
  go_wp2_with fail
  go_loopw [7] (fun iv wr => iv = .int .i64 0 ∧ w = wr) (fun _ _ => 0)
  case atStart => exact ⟨rfl, rfl⟩
  case round =>
    obtain ⟨rfl, rfl⟩ := hrel
    go_wp2_with (first
      | (at_builtin; refine wpList_append_own_none rfl (.tmp 72) (.tmp 78) 57 rfl w.heap.size 63 i63 2 Try.underlying57 hi63 (.slice (some ⟨w.heap.size, 0, none⟩) 0 0) 0 [] rfl oA.out rfl ?_)
      | (at_builtin; refine wpList_append_own _ rfl (.tmp 80) (.tmp 85) 57 rfl w.heap.size 63 i63 zH 2 24 Try.underlying57 hi63 hz0 hz1 hz2 rfl (by decide) (.slice (some ⟨w.heap.size, 0, none⟩) 0 0) 0 [] rfl oB.out ⟨w.heap.size + 1, 0, none⟩ 1 1 [.string k, .bool true] rfl rfl nB.out one2.out (by unfold maxLen; omega) (by omega) (by simp; omega) ?_; intro v4 w4 o4 g4 _
         have BW4 := Lib.hid ((bA.out.alloc bA.out.size (.cells #[.string k, .bool true] 63)).grown g4 (by simp; omega) (fun k hk => (oB.out.lt k hk).1))
         obtain ⟨va4, vc4, rfl⟩ := own_slice o4
         have d4 := (BW4.out.cell (p := ⟨x, 0, none⟩) xlt).trans c0
         have f4 := (BW4.out.frozen (p := ⟨x, 0, none⟩) xlt).trans f1
         have o4' := Lib.hid o4
         clear o4 g4)
      | (at_builtin; refine wpList_append_own_none rfl (.tmp 87) (.tmp 93) 57 rfl w.heap.size 63 i63 2 Try.underlying57 hi63 (.slice va4 (0 + 1) vc4) (0 + 1) ([] ++ [.string k, .bool true]) rfl o4'.out rfl ?_))
    go_ret
    exact ⟨rfl, _, FIN.out w4 _ BW4.out (by
      rw [hins.out]
      have := o4'.out
      simpa [hcC, encH] using this)⟩
set_option maxHeartbeats 4000000 in
set_option maxRecDepth 100000 in
theorem xtake_nil_off (h : Xh B w x (.slice none 0 0) []) (hB : B ≤ w.heap.size) {k : ByteArray} (hk : k.toList.isEmpty = false) :
    Calls Try.prog 22 #[.pointer (some ⟨x, 0, none⟩), .string k, .string (tOf false)] w fun y w' => y = .returned (.int .i64 1) ∧ ∃ v', XNw B w w' x (.slice none 0 0) (ins [] k false) v' := by
  obtain ⟨i63, hi63, hz0, hz1, hz2⟩ := info63'
  have c0 := h.c0
  have f1 := h.fz 0
  have xlt := h.lt
  have H := Lib.hid h
  have hins : ins [] k false = [(k, false)] := rfl
  replace hins := Lib.hid hins
  have oA := (show (w.alloc (.cells #[] 63)).ownsRow w.heap.size 63 2 (.slice (some ⟨w.heap.size, 0, none⟩) 0 0) 0 [] from ⟨rfl, .inr ⟨_, 0, #[], rfl, Nat.le_refl _, heap_alloc_new w _, Nat.le_refl _, Nat.zero_le _, rfl, rfl⟩⟩)
  have bA := Lib.hid (ext_alloc w (.cells #[] 63))
  have oB := Lib.hid (own_keep oA (ext_alloc (w.alloc (.cells #[] 63)) (.cells #[.string k, .bool false] 63)))
  replace oA := Lib.hid oA
  have nB : Hid (∀ j u, ([Value.string k, .bool false] : List Value)[j]? = some u → ((w.alloc (.cells #[] 63)).alloc (.cells #[.string k, .bool false] 63)).cell? ((⟨w.heap.size + 1, 0, none⟩ : Addr).add j) = some u) := Lib.hid (by
    intro j u hj
    have h2 := heap_alloc_new (w.alloc (.cells #[] 63)) (.cells #[.string k, .bool false] 63)
    rw [World.size_alloc] at h2
    have := cell_of_row ((w.alloc (.cells #[] 63)).alloc (.cells #[.string k, .bool false] 63)) (w.heap.size + 1) j _ 63 (0, 0) h2
    rw [add_off2, Nat.zero_add, this, ← hj]
    simp)
  have one2 : Hid (∀ u ∈ ([Value.string k, .bool false] : List Value), u.oneCell' = true) := Lib.hid (by intro u hu; simp at hu; rcases hu with rfl | rfl <;> rfl)
  have FIN : Hid (∀ (W : World) v', Below w.heap.size w W → W.ownsRow w.heap.size 63 2 v' (ins [] k false).length (hcC (ins [] k false)) → XNw B w (W.setCell ⟨x, 0, none⟩ v') x _ (ins [] k false) v') := Lib.hid fun W v' hW o => xh_end H.out hW hB o
  clear h
  unfold tOf tON tOFF
  simp only [if_true, Bool.false_eq_true, if_false]
  go_enter Try.func22, Try.ntmps22
  go_wp2_with fail
  go_loopw [7] (fun iv wr => iv = .int .i64 0 ∧ w = wr) (fun _ _ => 0)
  case atStart => exact ⟨rfl, rfl⟩
  case round =>
    obtain ⟨rfl, rfl⟩ := hrel
    go_wp2_with (first
      | (at_builtin; refine wpList_append_own_none rfl (.tmp 72) (.tmp 78) 57 rfl w.heap.size 63 i63 2 Try.underlying57 hi63 (.slice (some ⟨w.heap.size, 0, none⟩) 0 0) 0 [] rfl oA.out rfl ?_)
      | (at_builtin; refine wpList_append_own _ rfl (.tmp 80) (.tmp 85) 57 rfl w.heap.size 63 i63 zH 2 24 Try.underlying57 hi63 hz0 hz1 hz2 rfl (by decide) (.slice (some ⟨w.heap.size, 0, none⟩) 0 0) 0 [] rfl oB.out ⟨w.heap.size + 1, 0, none⟩ 1 1 [.string k, .bool false] rfl rfl nB.out one2.out (by unfold maxLen; omega) (by omega) (by simp; omega) ?_; intro v4 w4 o4 g4 _
         have BW4 := Lib.hid ((bA.out.alloc bA.out.size (.cells #[.string k, .bool false] 63)).grown g4 (by simp; omega) (fun k hk => (oB.out.lt k hk).1))
         obtain ⟨va4, vc4, rfl⟩ := own_slice o4
         have d4 := (BW4.out.cell (p := ⟨x, 0, none⟩) xlt).trans c0
         have f4 := (BW4.out.frozen (p := ⟨x, 0, none⟩) xlt).trans f1
         have o4' := Lib.hid o4
         clear o4 g4)
      | (at_builtin; refine wpList_append_own_none rfl (.tmp 87) (.tmp 93) 57 rfl w.heap.size 63 i63 2 Try.underlying57 hi63 (.slice va4 (0 + 1) vc4) (0 + 1) ([] ++ [.string k, .bool false]) rfl o4'.out rfl ?_))
    go_ret
    exact ⟨rfl, _, FIN.out w4 _ BW4.out (by
      rw [hins.out]
      have := o4'.out
      simpa [hcC, encH] using this)⟩
end
end Go.Proofs.Ytdljddghbkcddaa.Hst
