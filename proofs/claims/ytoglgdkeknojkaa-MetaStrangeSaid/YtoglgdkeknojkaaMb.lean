/-
  LAYER 6: the closures that get and set a part.
-/
import Derived.Test.YtoglgdkeknojkaaMa
import Derived.BigQuiet
namespace Go.Proofs.Ytoglgdkeknojkaa
open Go.RowKit

theorem capt {w : World} {g : Nat} {v : Value} (o : Obj) (h : w.cell? ⟨g, 0, none⟩ = some v) : (w.alloc o).cell? ⟨g, 0, none⟩ = some v := by
  have := World.block_lt_of_cell? w _ h
  rw [(ext_alloc w o).cell (by simpa using this)]; exact h
theorem box8 (w : World) (a b c d e f g h : Value) : (w.alloc (.cells #[a, b, c, d, e, f, g, h] 24)).cell? ⟨w.heap.size, 0, none⟩ = some a ∧ (w.alloc (.cells #[a, b, c, d, e, f, g, h] 24)).cell? ⟨w.heap.size, 1, none⟩ = some b ∧ (w.alloc (.cells #[a, b, c, d, e, f, g, h] 24)).cell? ⟨w.heap.size, 2, none⟩ = some c ∧ (w.alloc (.cells #[a, b, c, d, e, f, g, h] 24)).cell? ⟨w.heap.size, 3, none⟩ = some d ∧
    (w.alloc (.cells #[a, b, c, d, e, f, g, h] 24)).cell? ⟨w.heap.size, 4, none⟩ = some e ∧ (w.alloc (.cells #[a, b, c, d, e, f, g, h] 24)).cell? ⟨w.heap.size, 5, none⟩ = some f ∧ (w.alloc (.cells #[a, b, c, d, e, f, g, h] 24)).cell? ⟨w.heap.size, 6, none⟩ = some g ∧ (w.alloc (.cells #[a, b, c, d, e, f, g, h] 24)).cell? ⟨w.heap.size, 7, none⟩ = some h := by
  refine ⟨?_, ?_, ?_, ?_, ?_, ?_, ?_, ?_⟩ <;> (rw [World.cell?_alloc_at _ _ _ _ rfl]; rfl)
def SetP (b i : Nat) (v : Value) (w : World) (e : Ending) (w' : World) : Prop := (∃ u, e = .returned u) ∧ w' = w.setCell ⟨b, i, none⟩ v
set_option maxRecDepth 100000 in
theorem set_0 (b : Nat) (n : Nat) (s : ByteArray) (w : World) (a0 : Value) (h : w.cell? ⟨b, 0, none⟩ = some a0) (hz : w.frozen? ⟨b, 0, none⟩ = false) (x : Bool) (hx : ((n : Int) == 1) = x) :
    Calls Try.prog 25 #[.pointer (some ⟨b, 0, none⟩), .int .u64 (n : Nat), .string s] w (SetP b 0 (.bool x) w) := by
  go_enter Try.func25, Try.ntmps25
  go_wp2
  go_end0
  exact ⟨⟨_, rfl⟩, rfl⟩
set_option maxHeartbeats 1000000 in
set_option maxRecDepth 100000 in
theorem get_1 (m : Me) (g : Nat) (w : World) (hg : w.cell? ⟨g, 0, none⟩ = some (.func (.func 27) #[] #[])) : Calls Try.prog 45 #[m.val, .pointer (some ⟨g, 0, none⟩)] w (GetP (getN 1 m) (getS 1 m) w) := by
  obtain ⟨x0, x1, x2, x3, x4, x5, x6, x7⟩ := m
  simp only [Me.val, Me.cells]
  have hc := capt (.cells #[.bool x0, .string x1, .int .u64 (x2 : Nat), .int .u64 (x3 : Nat), .string x4, .string x5, .string x6, .string x7] 24) hg
  obtain ⟨c0, c1, c2, c3, c4, c5, c6, c7⟩ := box8 w (.bool x0) (.string x1) (.int .u64 (x2 : Nat)) (.int .u64 (x3 : Nat)) (.string x4) (.string x5) (.string x6) (.string x7)
  have hb := Lib.hid (ext_alloc w (.cells #[.bool x0, .string x1, .int .u64 (x2 : Nat), .int .u64 (x3 : Nat), .string x4, .string x5, .string x6, .string x7] 24))
  clear hg
  go_enter Try.func45, Try.ntmps45
  go_wp2
  go_quiet ((go_at_call 27; exact Calls.quiet_of_same (at_27 w.heap.size _ (.bool x0) c0)))
  go_wp2
  go_ret2
  exact ⟨rfl, below_drewN hb.out _⟩
set_option maxHeartbeats 1000000 in
set_option maxRecDepth 100000 in
theorem set_1 (b g : Nat) (n : Nat) (s : ByteArray) (w : World) (a0 a1 : Value) (hg : w.cell? ⟨g, 0, none⟩ = some (.func (.func 27) #[] #[])) (h : w.cell? ⟨b, 0, none⟩ = some a0) (h1 : w.cell? ⟨b, 1, none⟩ = some a1) (hz : w.frozen? ⟨b, 1, none⟩ = false) :
    Calls Try.prog 46 #[.pointer (some ⟨b, 0, none⟩), .int .u64 (n : Nat), .string s, .pointer (some ⟨g, 0, none⟩)] w (SetP b 1 (.string s) w) := by
  go_enter Try.func46, Try.ntmps46
  go_wp2_with (go_at_call 27; refine (at_27 b _ a0 h).mono ?_; rintro e w' ⟨rfl, rfl⟩)
  go_end0
  exact ⟨⟨_, rfl⟩, rfl⟩
set_option maxHeartbeats 1000000 in
set_option maxRecDepth 100000 in
theorem get_2 (m : Me) (g : Nat) (w : World) (hg : w.cell? ⟨g, 0, none⟩ = some (.func (.func 29) #[] #[])) : Calls Try.prog 47 #[m.val, .pointer (some ⟨g, 0, none⟩)] w (GetP (getN 2 m) (getS 2 m) w) := by
  obtain ⟨x0, x1, x2, x3, x4, x5, x6, x7⟩ := m
  simp only [Me.val, Me.cells]
  have hc := capt (.cells #[.bool x0, .string x1, .int .u64 (x2 : Nat), .int .u64 (x3 : Nat), .string x4, .string x5, .string x6, .string x7] 24) hg
  obtain ⟨c0, c1, c2, c3, c4, c5, c6, c7⟩ := box8 w (.bool x0) (.string x1) (.int .u64 (x2 : Nat)) (.int .u64 (x3 : Nat)) (.string x4) (.string x5) (.string x6) (.string x7)
  have hb := Lib.hid (ext_alloc w (.cells #[.bool x0, .string x1, .int .u64 (x2 : Nat), .int .u64 (x3 : Nat), .string x4, .string x5, .string x6, .string x7] 24))
  clear hg
  go_enter Try.func47, Try.ntmps47
  go_wp2_with (go_at_call 29; refine (at_29 w.heap.size _ (.bool x0) c0).mono ?_; rintro e w' ⟨rfl, rfl⟩)
  go_ret2
  exact ⟨rfl, hb.out⟩
set_option maxHeartbeats 1000000 in
set_option maxRecDepth 100000 in
theorem set_2 (b g : Nat) (n : Nat) (s : ByteArray) (w : World) (a0 a1 : Value) (hg : w.cell? ⟨g, 0, none⟩ = some (.func (.func 29) #[] #[])) (h : w.cell? ⟨b, 0, none⟩ = some a0) (h1 : w.cell? ⟨b, 2, none⟩ = some a1) (hz : w.frozen? ⟨b, 2, none⟩ = false) :
    Calls Try.prog 48 #[.pointer (some ⟨b, 0, none⟩), .int .u64 (n : Nat), .string s, .pointer (some ⟨g, 0, none⟩)] w (SetP b 2 (.int .u64 (n : Nat)) w) := by
  go_enter Try.func48, Try.ntmps48
  go_wp2_with (go_at_call 29; refine (at_29 b _ a0 h).mono ?_; rintro e w' ⟨rfl, rfl⟩)
  go_end0
  exact ⟨⟨_, rfl⟩, rfl⟩
set_option maxHeartbeats 1000000 in
set_option maxRecDepth 100000 in
theorem get_3 (m : Me) (g : Nat) (w : World) (hg : w.cell? ⟨g, 0, none⟩ = some (.func (.func 30) #[] #[])) : Calls Try.prog 47 #[m.val, .pointer (some ⟨g, 0, none⟩)] w (GetP (getN 3 m) (getS 3 m) w) := by
  obtain ⟨x0, x1, x2, x3, x4, x5, x6, x7⟩ := m
  simp only [Me.val, Me.cells]
  have hc := capt (.cells #[.bool x0, .string x1, .int .u64 (x2 : Nat), .int .u64 (x3 : Nat), .string x4, .string x5, .string x6, .string x7] 24) hg
  obtain ⟨c0, c1, c2, c3, c4, c5, c6, c7⟩ := box8 w (.bool x0) (.string x1) (.int .u64 (x2 : Nat)) (.int .u64 (x3 : Nat)) (.string x4) (.string x5) (.string x6) (.string x7)
  have hb := Lib.hid (ext_alloc w (.cells #[.bool x0, .string x1, .int .u64 (x2 : Nat), .int .u64 (x3 : Nat), .string x4, .string x5, .string x6, .string x7] 24))
  clear hg
  go_enter Try.func47, Try.ntmps47
  go_wp2_with (go_at_call 30; refine (at_30 w.heap.size _ (.bool x0) c0).mono ?_; rintro e w' ⟨rfl, rfl⟩)
  go_ret2
  exact ⟨rfl, hb.out⟩
set_option maxHeartbeats 1000000 in
set_option maxRecDepth 100000 in
theorem set_3 (b g : Nat) (n : Nat) (s : ByteArray) (w : World) (a0 a1 : Value) (hg : w.cell? ⟨g, 0, none⟩ = some (.func (.func 30) #[] #[])) (h : w.cell? ⟨b, 0, none⟩ = some a0) (h1 : w.cell? ⟨b, 3, none⟩ = some a1) (hz : w.frozen? ⟨b, 3, none⟩ = false) :
    Calls Try.prog 48 #[.pointer (some ⟨b, 0, none⟩), .int .u64 (n : Nat), .string s, .pointer (some ⟨g, 0, none⟩)] w (SetP b 3 (.int .u64 (n : Nat)) w) := by
  go_enter Try.func48, Try.ntmps48
  go_wp2_with (go_at_call 30; refine (at_30 b _ a0 h).mono ?_; rintro e w' ⟨rfl, rfl⟩)
  go_end0
  exact ⟨⟨_, rfl⟩, rfl⟩
set_option maxHeartbeats 1000000 in
set_option maxRecDepth 100000 in
theorem get_4 (m : Me) (g : Nat) (w : World) (hg : w.cell? ⟨g, 0, none⟩ = some (.func (.func 31) #[] #[])) : Calls Try.prog 45 #[m.val, .pointer (some ⟨g, 0, none⟩)] w (GetP (getN 4 m) (getS 4 m) w) := by
  obtain ⟨x0, x1, x2, x3, x4, x5, x6, x7⟩ := m
  simp only [Me.val, Me.cells]
  have hc := capt (.cells #[.bool x0, .string x1, .int .u64 (x2 : Nat), .int .u64 (x3 : Nat), .string x4, .string x5, .string x6, .string x7] 24) hg
  obtain ⟨c0, c1, c2, c3, c4, c5, c6, c7⟩ := box8 w (.bool x0) (.string x1) (.int .u64 (x2 : Nat)) (.int .u64 (x3 : Nat)) (.string x4) (.string x5) (.string x6) (.string x7)
  have hb := Lib.hid (ext_alloc w (.cells #[.bool x0, .string x1, .int .u64 (x2 : Nat), .int .u64 (x3 : Nat), .string x4, .string x5, .string x6, .string x7] 24))
  clear hg
  go_enter Try.func45, Try.ntmps45
  go_wp2
  go_quiet ((go_at_call 31; exact Calls.quiet_of_same (at_31 w.heap.size _ (.bool x0) c0)))
  go_wp2
  go_ret2
  exact ⟨rfl, below_drewN hb.out _⟩
set_option maxHeartbeats 1000000 in
set_option maxRecDepth 100000 in
theorem set_4 (b g : Nat) (n : Nat) (s : ByteArray) (w : World) (a0 a1 : Value) (hg : w.cell? ⟨g, 0, none⟩ = some (.func (.func 31) #[] #[])) (h : w.cell? ⟨b, 0, none⟩ = some a0) (h1 : w.cell? ⟨b, 4, none⟩ = some a1) (hz : w.frozen? ⟨b, 4, none⟩ = false) :
    Calls Try.prog 46 #[.pointer (some ⟨b, 0, none⟩), .int .u64 (n : Nat), .string s, .pointer (some ⟨g, 0, none⟩)] w (SetP b 4 (.string s) w) := by
  go_enter Try.func46, Try.ntmps46
  go_wp2_with (go_at_call 31; refine (at_31 b _ a0 h).mono ?_; rintro e w' ⟨rfl, rfl⟩)
  go_end0
  exact ⟨⟨_, rfl⟩, rfl⟩
set_option maxHeartbeats 1000000 in
set_option maxRecDepth 100000 in
theorem get_5 (m : Me) (g : Nat) (w : World) (hg : w.cell? ⟨g, 0, none⟩ = some (.func (.func 32) #[] #[])) : Calls Try.prog 45 #[m.val, .pointer (some ⟨g, 0, none⟩)] w (GetP (getN 5 m) (getS 5 m) w) := by
  obtain ⟨x0, x1, x2, x3, x4, x5, x6, x7⟩ := m
  simp only [Me.val, Me.cells]
  have hc := capt (.cells #[.bool x0, .string x1, .int .u64 (x2 : Nat), .int .u64 (x3 : Nat), .string x4, .string x5, .string x6, .string x7] 24) hg
  obtain ⟨c0, c1, c2, c3, c4, c5, c6, c7⟩ := box8 w (.bool x0) (.string x1) (.int .u64 (x2 : Nat)) (.int .u64 (x3 : Nat)) (.string x4) (.string x5) (.string x6) (.string x7)
  have hb := Lib.hid (ext_alloc w (.cells #[.bool x0, .string x1, .int .u64 (x2 : Nat), .int .u64 (x3 : Nat), .string x4, .string x5, .string x6, .string x7] 24))
  clear hg
  go_enter Try.func45, Try.ntmps45
  go_wp2
  go_quiet ((go_at_call 32; exact Calls.quiet_of_same (at_32 w.heap.size _ (.bool x0) c0)))
  go_wp2
  go_ret2
  exact ⟨rfl, below_drewN hb.out _⟩
set_option maxHeartbeats 1000000 in
set_option maxRecDepth 100000 in
theorem set_5 (b g : Nat) (n : Nat) (s : ByteArray) (w : World) (a0 a1 : Value) (hg : w.cell? ⟨g, 0, none⟩ = some (.func (.func 32) #[] #[])) (h : w.cell? ⟨b, 0, none⟩ = some a0) (h1 : w.cell? ⟨b, 5, none⟩ = some a1) (hz : w.frozen? ⟨b, 5, none⟩ = false) :
    Calls Try.prog 46 #[.pointer (some ⟨b, 0, none⟩), .int .u64 (n : Nat), .string s, .pointer (some ⟨g, 0, none⟩)] w (SetP b 5 (.string s) w) := by
  go_enter Try.func46, Try.ntmps46
  go_wp2_with (go_at_call 32; refine (at_32 b _ a0 h).mono ?_; rintro e w' ⟨rfl, rfl⟩)
  go_end0
  exact ⟨⟨_, rfl⟩, rfl⟩
set_option maxHeartbeats 1000000 in
set_option maxRecDepth 100000 in
theorem get_6 (m : Me) (g : Nat) (w : World) (hg : w.cell? ⟨g, 0, none⟩ = some (.func (.func 33) #[] #[])) : Calls Try.prog 45 #[m.val, .pointer (some ⟨g, 0, none⟩)] w (GetP (getN 6 m) (getS 6 m) w) := by
  obtain ⟨x0, x1, x2, x3, x4, x5, x6, x7⟩ := m
  simp only [Me.val, Me.cells]
  have hc := capt (.cells #[.bool x0, .string x1, .int .u64 (x2 : Nat), .int .u64 (x3 : Nat), .string x4, .string x5, .string x6, .string x7] 24) hg
  obtain ⟨c0, c1, c2, c3, c4, c5, c6, c7⟩ := box8 w (.bool x0) (.string x1) (.int .u64 (x2 : Nat)) (.int .u64 (x3 : Nat)) (.string x4) (.string x5) (.string x6) (.string x7)
  have hb := Lib.hid (ext_alloc w (.cells #[.bool x0, .string x1, .int .u64 (x2 : Nat), .int .u64 (x3 : Nat), .string x4, .string x5, .string x6, .string x7] 24))
  clear hg
  go_enter Try.func45, Try.ntmps45
  go_wp2
  go_quiet ((go_at_call 33; exact Calls.quiet_of_same (at_33 w.heap.size _ (.bool x0) c0)))
  go_wp2
  go_ret2
  exact ⟨rfl, below_drewN hb.out _⟩
set_option maxHeartbeats 1000000 in
set_option maxRecDepth 100000 in
theorem set_6 (b g : Nat) (n : Nat) (s : ByteArray) (w : World) (a0 a1 : Value) (hg : w.cell? ⟨g, 0, none⟩ = some (.func (.func 33) #[] #[])) (h : w.cell? ⟨b, 0, none⟩ = some a0) (h1 : w.cell? ⟨b, 6, none⟩ = some a1) (hz : w.frozen? ⟨b, 6, none⟩ = false) :
    Calls Try.prog 46 #[.pointer (some ⟨b, 0, none⟩), .int .u64 (n : Nat), .string s, .pointer (some ⟨g, 0, none⟩)] w (SetP b 6 (.string s) w) := by
  go_enter Try.func46, Try.ntmps46
  go_wp2_with (go_at_call 33; refine (at_33 b _ a0 h).mono ?_; rintro e w' ⟨rfl, rfl⟩)
  go_end0
  exact ⟨⟨_, rfl⟩, rfl⟩
set_option maxHeartbeats 1000000 in
set_option maxRecDepth 100000 in
theorem get_7 (m : Me) (g : Nat) (w : World) (hg : w.cell? ⟨g, 0, none⟩ = some (.func (.func 34) #[] #[])) : Calls Try.prog 45 #[m.val, .pointer (some ⟨g, 0, none⟩)] w (GetP (getN 7 m) (getS 7 m) w) := by
  obtain ⟨x0, x1, x2, x3, x4, x5, x6, x7⟩ := m
  simp only [Me.val, Me.cells]
  have hc := capt (.cells #[.bool x0, .string x1, .int .u64 (x2 : Nat), .int .u64 (x3 : Nat), .string x4, .string x5, .string x6, .string x7] 24) hg
  obtain ⟨c0, c1, c2, c3, c4, c5, c6, c7⟩ := box8 w (.bool x0) (.string x1) (.int .u64 (x2 : Nat)) (.int .u64 (x3 : Nat)) (.string x4) (.string x5) (.string x6) (.string x7)
  have hb := Lib.hid (ext_alloc w (.cells #[.bool x0, .string x1, .int .u64 (x2 : Nat), .int .u64 (x3 : Nat), .string x4, .string x5, .string x6, .string x7] 24))
  clear hg
  go_enter Try.func45, Try.ntmps45
  go_wp2
  go_quiet ((go_at_call 34; exact Calls.quiet_of_same (at_34 w.heap.size _ (.bool x0) c0)))
  go_wp2
  go_ret2
  exact ⟨rfl, below_drewN hb.out _⟩
set_option maxHeartbeats 1000000 in
set_option maxRecDepth 100000 in
theorem set_7 (b g : Nat) (n : Nat) (s : ByteArray) (w : World) (a0 a1 : Value) (hg : w.cell? ⟨g, 0, none⟩ = some (.func (.func 34) #[] #[])) (h : w.cell? ⟨b, 0, none⟩ = some a0) (h1 : w.cell? ⟨b, 7, none⟩ = some a1) (hz : w.frozen? ⟨b, 7, none⟩ = false) :
    Calls Try.prog 46 #[.pointer (some ⟨b, 0, none⟩), .int .u64 (n : Nat), .string s, .pointer (some ⟨g, 0, none⟩)] w (SetP b 7 (.string s) w) := by
  go_enter Try.func46, Try.ntmps46
  go_wp2_with (go_at_call 34; refine (at_34 b _ a0 h).mono ?_; rintro e w' ⟨rfl, rfl⟩)
  go_end0
  exact ⟨⟨_, rfl⟩, rfl⟩
end Go.Proofs.Ytoglgdkeknojkaa
