/-
  LAYER 32: what happens to a device.
-/
import Derived.Test.YtdljddghbkcddaaDa
namespace Go.Proofs.Ytdljddghbkcddaa
open Go.RowKit

theorem as82 (v : Value) (w : World) : (Instr.typeAssert (.iface 82 v) 103 82 true).run Try.prog w = .ok (.tuple #[v, .bool true]) w := by kernel_rfl
theorem as83 (v : Value) (w : World) : (Instr.typeAssert (.iface 83 v) 103 83 true).run Try.prog w = .ok (.tuple #[v, .bool true]) w := by kernel_rfl
theorem as85 (v : Value) (w : World) : (Instr.typeAssert (.iface 85 v) 103 85 true).run Try.prog w = .ok (.tuple #[v, .bool true]) w := by kernel_rfl
theorem no8382 (v : Value) (w : World) : (Instr.typeAssert (.iface 83 v) 103 82 true).run Try.prog w = .ok (.tuple #[.agg #[.slice none 0 0], .bool false]) w := by kernel_rfl
theorem no8582 (v : Value) (w : World) : (Instr.typeAssert (.iface 85 v) 103 82 true).run Try.prog w = .ok (.tuple #[.agg #[.slice none 0 0], .bool false]) w := by kernel_rfl
theorem no8583 (v : Value) (w : World) : (Instr.typeAssert (.iface 85 v) 103 83 true).run Try.prog w = .ok (.tuple #[.agg #[.slice none 0 0], .bool false]) w := by kernel_rfl
theorem isE {nm : ByteArray} (h : nm.toList.isEmpty = false) : (nm.toList == []) = false := by
  cases hl : nm.toList with
  | nil => rw [hl] at h; cases h
  | cons a l => rfl
set_option maxRecDepth 100000 in
theorem none_any {w : World} {g : Nat} {nm : ByteArray} {on : Bool} {v : Value} {L : List It} {n : Int} (h : Dv 79 w g nm on v L n) (hn : nm.toList.isEmpty = false) : Calls Try.prog 36 #[.pointer (some ⟨g, 0, none⟩)] w fun e w' => e = .returned (.bool false) ∧ w = w' := by
  obtain ⟨c0, c1, c2, c3⟩ := h.cell
  have hn2 := isE hn
  clear h
  go_enter Try.func36, Try.ntmps36
  go_wp2
  go_ret
  exact ⟨rfl, rfl⟩
/-- What came of a call; vo: the items' value, if it is as it was. -/
def TakeP (t : TypeId) (g : Nat) (nm : ByteArray) (on : Bool) (L : List It) (n : Int) (r : Int) (vo : Option Value) (w : World) (e : Ending) (w' : World) : Prop :=
  e = .returned (.int .i64 r) ∧ (∃ v, Dv t w' g nm on v L n ∧ (vo = some v ∨ w'.ownsRow w.heap.size 49 8 v L.length (itsAtC L))) ∧ w.grownBy w' (some g)
theorem Dv.put {t : TypeId} {w : World} {g : Nat} {nm : ByteArray} {on on' : Bool} {v v' : Value} {L L' : List It} {n n' : Int} (h : Dv t w g nm on v L n) {w' : World} (hr : w'.heap[g]? = some (.cells #[.string nm, .bool on', v', .int .i64 n'] t (0, 0))) (ho : w'.ownsRow 0 49 8 v' L'.length (itsAtC L')) (hl : L'.length * 72 ≤ 140737488351232) : Dv t w' g nm on' v' L' n' := ⟨hr, ho, hl⟩
theorem setRow {w : World} {g j : Nat} {cs : Array Value} {t : TypeId} (h : w.heap[g]? = some (.cells cs t (0, 0))) (u : Value) : (w.setCell ⟨g, j, none⟩ u).heap[g]? = some (.cells (cs.setIfInBounds j u) t (0, 0)) := heap_setCell_same w g j cs t u h
theorem set_grown {w : World} {g j : Nat} (u : Value) : w.grownBy (w.setCell ⟨g, j, none⟩ u) (some g) :=
  ⟨rfl, rfl, rfl, by simp [World.setCell], fun k _ hk => Below.heap_setCell _ _ _ k (fun e => hk (by rw [e]))⟩
theorem own_slice {w : World} {B e size n : Nat} {v : Value} {xs : List Value} (h : w.ownsRow B e size v n xs) : ∃ a c, v = .slice a n c := by
  rcases h.2 with ⟨rfl, rfl⟩ | ⟨g, cap, cur, rfl, _⟩
  · exact ⟨none, 0, rfl⟩
  · exact ⟨_, _, rfl⟩
theorem ext_two (w : World) (a b : Obj) : Below w.heap.size w ((w.alloc a).alloc b) := (ext_alloc w a).alloc (by simp) b
set_option maxHeartbeats 4000000 in
set_option maxRecDepth 100000 in
theorem born_any {w : World} {g : Nat} {nm : ByteArray} {on : Bool} {v : Value} {L : List It} {n : Int} (h : Dv 79 w g nm on v L n) (hn : nm.toList.isEmpty = false) (v1 : Value) (L1 : List It) (h1 : ItsAt w v1 L1) (hb : 0 ≤ n ∧ n ≤ 1000) :
    Calls Try.prog 10 #[.pointer (some ⟨g, 0, none⟩), v1] w (TakeP 79 g nm true L1 (n + 1) 0 none w) := by
  have N := Lib.hid (fun w' (hw : Below w.heap.size w w') => none_any (h.keep hw) hn)
  have C := Lib.hid (fun w' (hw : Below w.heap.size w w') => clone_any v1 L1 w' (h1.keep hw (Nat.le_refl _)))
  have m1 : ∀ (v : Value) (w : World), (method 243 82 v "crier/device.alive").run Try.prog w = .ok (85, v) w := fun v w => by kernel_rfl
  have a1 := as82
  obtain ⟨c0, c1, c2, c3⟩ := h.cell
  obtain ⟨hb0, hb1⟩ := hb
  have H := Lib.hid h
  obtain ⟨a, cap, rfl, hl, -⟩ := h1
  clear h
  go_enter Try.func10, Try.ntmps10
  go_wp2_with (first | (go_at_call 36; refine (N.out _ (Below.refl _ _)).mono ?_; rintro e w' ⟨rfl, rfl⟩) | (go_at_call 37; refine (C.out _ (ext_two w (.cells #[.slice a L1.length cap] 82) (.cells #[.slice a L1.length cap] 82))).mono ?_; rintro e w2 ⟨v2, rfl, o2, b2⟩; obtain ⟨va, vc, rfl⟩ := own_slice o2; have hd := (H.out.keep (ext_two w (.cells #[.slice a L1.length cap] 82) (.cells #[.slice a L1.length cap] 82))).keep b2; obtain ⟨d0, d1, d2, d3⟩ := hd.cell; have f1 := hd.free 1; have f2 := hd.free 2; have f3 := hd.free 3; have B2 := Lib.hid (ext_trans (ext_two w (.cells #[.slice a L1.length cap] 82) (.cells #[.slice a L1.length cap] 82)) b2); have hdr := Lib.hid hd.row; replace o2 := Lib.hid o2; clear hd b2) | go_in)
  go_ret
  have G : w2.grownBy (((w2.setCell ⟨g, 1, none⟩ (.bool true)).setCell ⟨g, 2, none⟩ (.slice va L1.length vc)).setCell ⟨g, 3, none⟩ (.int .i64 (n + 1))) (some g) := grown_trans (grown_trans (set_grown _) (set_grown _)) (set_grown _)
  refine ⟨rfl, ⟨_, ⟨?_, own_base (own_grown o2.out hdr.out (by decide) G) (Nat.zero_le _), hl⟩, .inr (own_base (own_grown o2.out hdr.out (by decide) G) (by simp; omega))⟩, grown_trans (grown_below B2.out (Nat.le_refl _)) G⟩
  have := setRow (setRow (setRow hdr.out (j := 1) (.bool true)) (j := 2) (.slice va L1.length vc)) (j := 3) (.int .i64 (n + 1))
  simpa using this
set_option maxHeartbeats 4000000 in
set_option maxRecDepth 100000 in
theorem told_any {w : World} {g : Nat} {nm : ByteArray} {v : Value} {L : List It} {n : Int} (h : Dv 79 w g nm true v L n) (hn : nm.toList.isEmpty = false) (v1 : Value) (L1 : List It) (h1 : ItsAt w v1 L1) :
    Calls Try.prog 12 #[.pointer (some ⟨g, 0, none⟩), v1] w (TakeP 79 g nm true L1 n 0 none w) := by
  have N := Lib.hid (fun w' (hw : Below w.heap.size w w') => none_any (h.keep hw) hn)
  have C := Lib.hid (fun w' (hw : Below w.heap.size w w') => clone_any v1 L1 w' (h1.keep hw (Nat.le_refl _)))
  have m1 : ∀ (v : Value) (w : World), (method 243 83 v "crier/device.alive").run Try.prog w = .ok (86, v) w := fun v w => by kernel_rfl
  have a1 := as83
  have a2 := no8382
  obtain ⟨c0, c1, c2, c3⟩ := h.cell
  have H := Lib.hid h
  have lt := h.lt
  have c1' : ∀ o, (w.alloc o).cell? ⟨g, 1, none⟩ = some (.bool true) := fun o => ((ext_alloc w o).cell (by simpa using lt)).trans c1
  obtain ⟨a, cap, rfl, hl, -⟩ := h1
  clear h
  go_enter Try.func12, Try.ntmps12
  go_wp2_with (first | (go_at_call 36; refine (N.out _ (Below.refl _ _)).mono ?_; rintro e w' ⟨rfl, rfl⟩) | (go_at_call 37; refine (C.out _ (ext_two w (.cells #[.slice a L1.length cap] 83) (.cells #[.slice a L1.length cap] 83))).mono ?_; rintro e w2 ⟨v2, rfl, o2, b2⟩; obtain ⟨va, vc, rfl⟩ := own_slice o2; have hd := (H.out.keep (ext_two w (.cells #[.slice a L1.length cap] 83) (.cells #[.slice a L1.length cap] 83))).keep b2; obtain ⟨d0, d1, d2, d3⟩ := hd.cell; have f1 := hd.free 1; have f2 := hd.free 2; have f3 := hd.free 3; have B2 := Lib.hid (ext_trans (ext_two w (.cells #[.slice a L1.length cap] 83) (.cells #[.slice a L1.length cap] 83)) b2); have hdr := Lib.hid hd.row; replace o2 := Lib.hid o2; clear hd b2) | go_in)
  go_ret
  have G : w2.grownBy (w2.setCell ⟨g, 2, none⟩ (.slice va L1.length vc)) (some g) := set_grown _
  refine ⟨rfl, ⟨_, ⟨?_, own_base (own_grown o2.out hdr.out (by decide) G) (Nat.zero_le _), hl⟩, .inr (own_base (own_grown o2.out hdr.out (by decide) G) (by simp; omega))⟩, grown_trans (grown_below B2.out (Nat.le_refl _)) G⟩
  have := setRow hdr.out (j := 2) (.slice va L1.length vc)
  simpa using this
set_option maxHeartbeats 4000000 in
set_option maxRecDepth 100000 in
theorem told_off {w : World} {g : Nat} {nm : ByteArray} {v : Value} {L : List It} {n : Int} (h : Dv 79 w g nm false v L n) (hn : nm.toList.isEmpty = false) (a : Option Addr) (len cap : Nat) :
    Calls Try.prog 12 #[.pointer (some ⟨g, 0, none⟩), .slice a len cap] w (TakeP 79 g nm false L n 7 (some v) w) := by
  have N := Lib.hid (fun w' (hw : Below w.heap.size w w') => none_any (h.keep hw) hn)
  have m1 : ∀ (v : Value) (w : World), (method 243 83 v "crier/device.alive").run Try.prog w = .ok (86, v) w := fun v w => by kernel_rfl
  obtain ⟨c0, c1, c2, c3⟩ := h.cell
  have H := Lib.hid h
  have lt := h.lt
  have c1' : (w.alloc (.cells #[.slice a len cap] 83)).cell? ⟨g, 1, none⟩ = some (.bool false) := ((ext_alloc w _).cell (by simpa using lt)).trans c1
  clear h
  go_enter Try.func12, Try.ntmps12
  go_wp2_with (first | (go_at_call 36; refine (N.out _ (Below.refl _ _)).mono ?_; rintro e w' ⟨rfl, rfl⟩) | go_in)
  go_ret
  exact ⟨rfl, ⟨_, H.out.keep (ext_alloc w _), .inl rfl⟩, grown_below (ext_alloc w _) (Nat.le_refl _)⟩
set_option maxHeartbeats 4000000 in
set_option maxRecDepth 100000 in
theorem dies_on {w : World} {g : Nat} {nm : ByteArray} {v : Value} {L : List It} {n : Int} (h : Dv 79 w g nm true v L n) (hn : nm.toList.isEmpty = false) :
    Calls Try.prog 14 #[.pointer (some ⟨g, 0, none⟩)] w (TakeP 79 g nm false L n 0 (some v) w) := by
  have N := Lib.hid (fun w' (hw : Below w.heap.size w w') => none_any (h.keep hw) hn)
  have m1 : ∀ (v : Value) (w : World), (method 243 85 v "crier/device.alive").run Try.prog w = .ok (87, v) w := fun v w => by kernel_rfl
  have a1 := as85
  have a2 := no8582
  have a3 := no8583
  obtain ⟨c0, c1, c2, c3⟩ := h.cell
  have H := Lib.hid h
  have lt := h.lt
  have c1' : ∀ o, (w.alloc o).cell? ⟨g, 1, none⟩ = some (.bool true) := fun o => ((ext_alloc w o).cell (by simpa using lt)).trans c1
  have f1' : ∀ o, (w.alloc o).frozen? ⟨g, 1, none⟩ = false := fun o => (H.out.keep (ext_alloc w o)).free 1
  have f1 := H.out.free 1
  have c2' : ∀ o p, ((w.alloc o).alloc p).cell? ⟨g, 1, none⟩ = some (.bool true) := fun o p => ((ext_two w o p).cell (by simpa using lt)).trans c1
  have f2' : ∀ o p, ((w.alloc o).alloc p).frozen? ⟨g, 1, none⟩ = false := fun o p => (H.out.keep (ext_two w o p)).free 1
  clear h
  go_enter Try.func14, Try.ntmps14
  go_wp2_with (first | (go_at_call 36; refine (N.out _ (Below.refl _ _)).mono ?_; rintro e w' ⟨rfl, rfl⟩) | go_in)
  go_ret
  have G : w.grownBy (((w.setCell ⟨g, 1, none⟩ (.bool false)).alloc (.cells #[] 85)).alloc (.cells #[] 85)) (some g) := grown_trans (grown_trans (set_grown _) (World.grownBy_alloc _ _ _)) (World.grownBy_alloc _ _ _)
  refine ⟨rfl, ⟨_, ⟨?_, own_grown H.out.its H.out.row (by decide) G, H.out.len⟩, .inl rfl⟩, G⟩
  rw [Below.heap_alloc _ _ _ (by simp; omega), Below.heap_alloc _ _ _ (by simpa using lt)]
  have := setRow H.out.row (j := 1) (.bool false)
  simpa using this
set_option maxHeartbeats 4000000 in
set_option maxRecDepth 100000 in
theorem dies_off {w : World} {g : Nat} {nm : ByteArray} {v : Value} {L : List It} {n : Int} (h : Dv 79 w g nm false v L n) (hn : nm.toList.isEmpty = false) :
    Calls Try.prog 14 #[.pointer (some ⟨g, 0, none⟩)] w (TakeP 79 g nm false L n 7 (some v) w) := by
  have N := Lib.hid (fun w' (hw : Below w.heap.size w w') => none_any (h.keep hw) hn)
  have m1 : ∀ (v : Value) (w : World), (method 243 85 v "crier/device.alive").run Try.prog w = .ok (87, v) w := fun v w => by kernel_rfl
  obtain ⟨c0, c1, c2, c3⟩ := h.cell
  have H := Lib.hid h
  have lt := h.lt
  have c1' : ∀ o, (w.alloc o).cell? ⟨g, 1, none⟩ = some (.bool false) := fun o => ((ext_alloc w o).cell (by simpa using lt)).trans c1
  clear h
  go_enter Try.func14, Try.ntmps14
  go_wp2_with (first | (go_at_call 36; refine (N.out _ (Below.refl _ _)).mono ?_; rintro e w' ⟨rfl, rfl⟩) | go_in)
  go_ret
  exact ⟨rfl, ⟨_, H.out.keep (ext_alloc w _), .inl rfl⟩, grown_below (ext_alloc w _) (Nat.le_refl _)⟩
set_option maxRecDepth 100000 in
theorem online_any {w : World} {g : Nat} {nm : ByteArray} {on : Bool} {v : Value} {L : List It} {n : Int} (h : Dv 79 w g nm on v L n) (hn : nm.toList.isEmpty = false) : Calls Try.prog 16 #[.pointer (some ⟨g, 0, none⟩)] w fun e w' => e = .returned (.bool on) ∧ w = w' := by
  have N := Lib.hid (none_any h hn)
  obtain ⟨c0, c1, c2, c3⟩ := h.cell
  clear h
  go_enter Try.func16, Try.ntmps16
  go_wp2_with (first | (go_at_call 36; refine N.out.mono ?_; rintro e w' ⟨rfl, rfl⟩))
  go_ret
  exact ⟨rfl, rfl⟩
set_option maxRecDepth 100000 in
theorem lives_any {w : World} {g : Nat} {nm : ByteArray} {on : Bool} {v : Value} {L : List It} {n : Int} (h : Dv 79 w g nm on v L n) (hn : nm.toList.isEmpty = false) : Calls Try.prog 17 #[.pointer (some ⟨g, 0, none⟩)] w fun e w' => e = .returned (.int .i64 n) ∧ w = w' := by
  have N := Lib.hid (none_any h hn)
  obtain ⟨c0, c1, c2, c3⟩ := h.cell
  clear h
  go_enter Try.func17, Try.ntmps17
  go_wp2_with (first | (go_at_call 36; refine N.out.mono ?_; rintro e w' ⟨rfl, rfl⟩))
  go_ret
  exact ⟨rfl, rfl⟩
end Go.Proofs.Ytdljddghbkcddaa
