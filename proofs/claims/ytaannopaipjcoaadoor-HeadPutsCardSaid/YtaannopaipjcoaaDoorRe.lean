/-
  LAYER 11: any bytes as a head.
-/
import Derived.Test.YtaannopaipjcoaaDoorRd
import Derived.Test.YtaannopaipjcoaaDoorHd
import Derived.Laws.StructEq
namespace Go.Proofs.YtaannopaipjcoaaDoor
open Go.RowKit

theorem getV_form (l : List Nat) (k0 : Nat) : ∃ k f n to e : Int, getV l k0 = HV k f n to e := by
  unfold getV
  split
  · exact ⟨_, _, _, _, _, rfl⟩
  · split
    · exact ⟨_, _, _, _, _, rfl⟩
    · split
      · exact ⟨_, _, _, _, _, rfl⟩
      · exact ⟨_, _, _, _, _, rfl⟩
theorem gets (a : Option Addr) (len cap : Nat) (zs : List Int) (at' : Int) (w : World) (ht : Tab3 w) (hr : IsRow .u8 w a len cap zs) (hs : cap * 1 ≤ 140737488351232) (b : -9223372036854775808 ≤ at' ∧ at' ≤ 9223372036854775807) :
    ∃ k f n to e : Int, (Calls Tryd.prog 12 #[.slice a len cap, .int .i64 at'] w fun en w' => en = .returned (HV k f n to e) ∧ Below w.heap.size w w') ∧
      (∀ W, Below w.heap.size w W → Calls Tryd.prog 13 #[.slice a len cap, .int .i64 at'] W fun en w' => en = .returned (HV k f n to e) ∧ Below W.heap.size W w') := by
  have hle := hr.len_le
  by_cases h : at' < 0 ∨ (0 ≤ at' ∧ (len : Int) < at')
  · exact ⟨0, 0, 0, 0, 1, get_arg a len cap at' w b.1 b.2 h, fun W _ => rget_arg a len cap at' W b.1 b.2 h⟩
  · obtain ⟨k0, rfl⟩ := Int.eq_ofNat_of_zero_le (show 0 ≤ at' by omega)
    obtain ⟨hB, hlen, hlt⟩ := hr.bytes
    obtain ⟨k, f, n, to, e, hV⟩ := getV_form ((zs.take len).map Int.toNat) k0
    have g1 := get_any _ _ k0 w ht hB hlt (by omega) (by omega)
    have g2 := fun W hW => rget_any _ _ k0 W (hB.keep hW (Nat.le_refl _)) hlt (by omega) (by omega)
    unfold GPost at g1 g2
    rw [hV] at g1 g2
    exact ⟨k, f, n, to, e, g1, g2⟩
set_option maxHeartbeats 2000000 in
set_option maxRecDepth 100000 in
theorem reads_any (a : Option Addr) (len cap : Nat) (zs : List Int) (at' : Int) (w : World) (ht : Tab3 w) (hr : IsRow .u8 w a len cap zs) (hs : cap * 1 ≤ 140737488351232) (b : -9223372036854775808 ≤ at' ∧ at' ≤ 9223372036854775807) :
    Calls Tryd.prog 4 #[.slice a len cap, .int .i64 at'] w (Yes w) := by
  obtain ⟨k, f, n, to, e, G1, G2⟩ := gets a len cap zs at' w ht hr hs b
  unfold HV at G1 G2
  have G1 := Lib.hid G1
  have G2 := Lib.hid G2
  have HT := Lib.hid ht
  clear ht hr hs b
  go_enter Tryd.func4, Tryd.ntmps4
  go_wp2_with fail
  refine G1.out.mono ?_
  rintro en w1 ⟨rfl, hb1⟩
  have bA : Below w.heap.size w (w1.alloc (.cells #[.int .i64 k, .int .i64 f, .int .i64 n] 23)) := hb1.alloc hb1.size _
  have G2' := Lib.hid (G2.out _ bA)
  have HB := Lib.hid bA
  clear hb1 G1 G2 bA
  go_wp2_with fail
  refine G2'.out.mono ?_
  rintro en w2 ⟨rfl, hb2⟩
  have c0 : w2.cell? ⟨w1.heap.size, 0, none⟩ = some (.int .i64 k) := by
    rw [hb2.cell (by simp), World.cell?_alloc_at _ _ _ _ rfl]; rfl
  have c1 : w2.cell? ⟨w1.heap.size, 1, none⟩ = some (.int .i64 f) := by
    rw [hb2.cell (by simp), World.cell?_alloc_at _ _ _ _ rfl]; rfl
  have c2 : w2.cell? ⟨w1.heap.size, 2, none⟩ = some (.int .i64 n) := by
    rw [hb2.cell (by simp), World.cell?_alloc_at _ _ _ _ rfl]; rfl
  have hsz : w1.heap.size < w2.heap.size := by have := hb2.size; simp at this; omega
  have HB2 := Lib.hid (ext_trans HB.out hb2)
  have KT : ∀ W, Below w.heap.size w W → Tab W := fun W hW => (HT.out.keep hW).tab
  have KT := Lib.hid KT
  clear hb2
  go_wp2_with (go_at_call 11; refine (awake_any _ (KT.out _ (HB2.out.alloc (Below.size HB2.out) _))).mono ?_; rintro en w3 ⟨rfl, hb3⟩)
  go_ret
  exact ⟨rfl, ext_trans (HB2.out.alloc (Below.size HB2.out) _) hb3⟩
end Go.Proofs.YtaannopaipjcoaaDoor
