/-
  LAYER 20: the parts of a spot, and its levels.
-/
import Derived.Test.YtbmelmmefgehoaaDoorWc
import Derived.Deep.DeepMust
namespace Go.Proofs.YtbmelmmefgehoaaDoor
open Go.RowKit

def StrsIs (l : List ByteArray) (w : World) (e : Ending) (w' : World) : Prop := ∃ v, e = .returned v ∧ w'.ownsRow w.heap.size 9 1 v l.length (sl l) ∧ Below w.heap.size w w'
def partsL (g d : Bool) (G N D : ByteArray) : List ByteArray := [N] ++ (if g then [G] else []) ++ (if d then [D] else [])
theorem own_made (w : World) (B : Nat) (hB : B ≤ w.heap.size) (l : List ByteArray) (hl : l.length ≤ 8) : (w.alloc (.cells (sl l).toArray 9)).ownsRow B 9 1 (.slice (some ⟨w.heap.size, 0, none⟩) l.length l.length) l.length (sl l) :=
  ⟨by simp [sl], .inr ⟨w.heap.size, l.length, (sl l).toArray, rfl, hB, by exact Array.getElem?_push_size, Nat.le_refl _, by unfold maxLen; omega, by simp [sl], by rw [Nat.mul_one, List.take_of_length_le (by simp [sl])]⟩⟩
theorem cell_new_at (w : World) (n : Nat) (hn : n = w.heap.size) (v : Value) (t : TypeId) : ∀ j u, [v][j]? = some u → (w.alloc (.cells #[v] t)).cell? ((⟨n, 0, none⟩ : Addr).add j) = some u := by
  subst hn; exact cell_one_new _ _ _
theorem Tabs.keepB {w w' : World} {B : Nat} (h : Tabs w) (hb : Below B w w') (h0 : 0 < B) : Tabs w' := by
  obtain ⟨t, fr, hh⟩ := h
  exact ⟨t, fr, by rw [hb.block _ h0]; exact hh⟩
theorem own_base {w : World} {B B' : Nat} {v : Value} {n : Nat} {l : List Value} (h : w.ownsRow B 9 1 v n l) (hb : B' ≤ B) : w.ownsRow B' 9 1 v n l := by
  obtain ⟨h1, h2⟩ := h
  refine ⟨h1, h2.imp id ?_⟩
  rintro ⟨g, cap, cur, a, b, r⟩
  exact ⟨g, cap, cur, a, Nat.le_trans hb b, r⟩
/-- A spot's cells. -/
def SpotAt (w : World) (b : Nat) (k : Int) (G N D : ByteArray) : Prop := w.cell? ⟨b, 0, none⟩ = some (.int .i64 k) ∧ w.cell? ⟨b, 1, none⟩ = some (.string G) ∧ w.cell? ⟨b, 2, none⟩ = some (.string N) ∧ w.cell? ⟨b, 3, none⟩ = some (.string D)
theorem SpotAt.keep {w w' : World} {b B : Nat} {k : Int} {G N D : ByteArray} (h : SpotAt w b k G N D) (hb : Below B w w') (hB : b < B) : SpotAt w' b k G N D :=
  ⟨(hb.cell (by simpa using hB)).trans h.1, (hb.cell (by simpa using hB)).trans h.2.1, (hb.cell (by simpa using hB)).trans h.2.2.1, (hb.cell (by simpa using hB)).trans h.2.2.2⟩
theorem SpotAt.new (w : World) (k : Int) (G N D : ByteArray) : SpotAt (w.alloc (.cells #[.int .i64 k, .string G, .string N, .string D] 23)) w.heap.size k G N D :=
  ⟨by rw [World.cell?_alloc_at _ _ _ _ rfl]; rfl, by rw [World.cell?_alloc_at _ _ _ _ rfl]; rfl, by rw [World.cell?_alloc_at _ _ _ _ rfl]; rfl, by rw [World.cell?_alloc_at _ _ _ _ rfl]; rfl⟩
set_option maxHeartbeats 1000000 in
set_option maxRecDepth 100000 in
theorem parts_00 (k : Nat) (G N D : ByteArray) (w : World) (ht : Tabs w) (HG : ∀ w, Tabs w → Calls Tryd.prog 18 #[.int .i64 (k : Int)] w (Same (.bool false) w)) (HD : ∀ w, Tabs w → Calls Tryd.prog 17 #[.int .i64 (k : Int)] w (Same (.bool false) w)) : Calls Tryd.prog 19 #[.agg #[.int .i64 (k : Int), .string G, .string N, .string D]] w (StrsIs (partsL false false G N D) w) := by
  obtain ⟨i0, hi, hz0, hz1, hz2⟩ := info_parts Tryd.info9
  replace hi := Lib.hid hi
  replace hz0 := Lib.hid hz0
  replace hz1 := Lib.hid hz1
  replace hz2 := Lib.hid hz2
  replace HG := Lib.hid HG
  replace HD := Lib.hid HD
  have b1 : Below w.heap.size w ((w.alloc (.cells #[.int .i64 (k : Int), .string G, .string N, .string D] 23)).alloc (.cells #[.string N] 9)) := (ext_alloc w _).alloc (by simp) _
  have s1 := (SpotAt.new w k G N D).keep (ext_alloc (w.alloc (.cells #[.int .i64 (k : Int), .string G, .string N, .string D] 23)) (.cells #[.string N] 9)) (by simp)
  have o1 : ((w.alloc (.cells #[.int .i64 (k : Int), .string G, .string N, .string D] 23)).alloc (.cells #[.string N] 9)).ownsRow (w.heap.size + 1) 9 1 (.slice (some ⟨w.heap.size + 1, 0, none⟩) 1 1) 1 (sl [N]) := by
    have := own_made (w.alloc (.cells #[.int .i64 (k : Int), .string G, .string N, .string D] 23)) (w.heap.size + 1) (by simp) [N] (by simp)
    simpa [sl] using this
  have t1 := ht.keep b1
  replace b1 := Lib.hid b1
  replace s1 := Lib.hid s1
  replace o1 := Lib.hid o1
  replace t1 := Lib.hid t1
  clear ht
  go_enter Tryd.func19, Tryd.ntmps19
  go_wp2_with fail
  refine (HG.out _ t1.out).mono ?_
  rintro e w1 ⟨rfl, rfl⟩
  go_wp2_with fail
  refine (HD.out _ t1.out).mono ?_
  rintro e w1 ⟨rfl, rfl⟩
  go_wp2_with fail
  go_ret
  exact ⟨_, rfl, own_base (B := w.heap.size + 1) o1.out (by omega), b1.out⟩
set_option maxHeartbeats 1000000 in
set_option maxRecDepth 100000 in
theorem parts_10 (k : Nat) (G N D : ByteArray) (w : World) (ht : Tabs w) (HG : ∀ w, Tabs w → Calls Tryd.prog 18 #[.int .i64 (k : Int)] w (Same (.bool true) w)) (HD : ∀ w, Tabs w → Calls Tryd.prog 17 #[.int .i64 (k : Int)] w (Same (.bool false) w)) : Calls Tryd.prog 19 #[.agg #[.int .i64 (k : Int), .string G, .string N, .string D]] w (StrsIs (partsL true false G N D) w) := by
  obtain ⟨i0, hi, hz0, hz1, hz2⟩ := info_parts Tryd.info9
  replace hi := Lib.hid hi
  replace hz0 := Lib.hid hz0
  replace hz1 := Lib.hid hz1
  replace hz2 := Lib.hid hz2
  replace HG := Lib.hid HG
  replace HD := Lib.hid HD
  have b1 : Below w.heap.size w ((w.alloc (.cells #[.int .i64 (k : Int), .string G, .string N, .string D] 23)).alloc (.cells #[.string N] 9)) := (ext_alloc w _).alloc (by simp) _
  have s1 := (SpotAt.new w k G N D).keep (ext_alloc (w.alloc (.cells #[.int .i64 (k : Int), .string G, .string N, .string D] 23)) (.cells #[.string N] 9)) (by simp)
  have o1 : ((w.alloc (.cells #[.int .i64 (k : Int), .string G, .string N, .string D] 23)).alloc (.cells #[.string N] 9)).ownsRow (w.heap.size + 1) 9 1 (.slice (some ⟨w.heap.size + 1, 0, none⟩) 1 1) 1 (sl [N]) := by
    have := own_made (w.alloc (.cells #[.int .i64 (k : Int), .string G, .string N, .string D] 23)) (w.heap.size + 1) (by simp) [N] (by simp)
    simpa [sl] using this
  have t1 := ht.keep b1
  replace b1 := Lib.hid b1
  replace s1 := Lib.hid s1
  replace o1 := Lib.hid o1
  replace t1 := Lib.hid t1
  clear ht
  go_enter Tryd.func19, Tryd.ntmps19
  go_wp2_with fail
  refine (HG.out _ t1.out).mono ?_
  rintro e w1 ⟨rfl, rfl⟩
  go_wp2_with (at_builtin; go_must (refine wpList_append_own_at _ rfl (.tmp 10) (.tmp 13) 39 rfl (w.heap.size + 1) 9 i0 (.string ⟨#[]⟩) 1 16 Tryd.underlying39 hi.out hz0.out hz1.out hz2.out rfl (by decide) _ 1 (sl [N]) rfl (o1.out.alloc _) ⟨w.heap.size + 1 + 1, 0, none⟩ 1 1 [.string G] rfl rfl (cell_new_at _ _ (by simp) _ _) (by intro u hu; simp at hu; subst hu; rfl) (by unfold maxLen; omega) (by simp) (by simp) ?_); intro v2 w2 o2 gr2 n2 nb2; have k2 : Below (w.heap.size + 1) ((w.alloc (.cells #[.int .i64 (k : Int), .string G, .string N, .string D] 23)).alloc (.cells #[.string N] 9)) w2 := (((Below.refl _ _).alloc (by simp) _).grown gr2 (by simp) (fun j hj => (o1.out.lt j hj).1)); have s2 := s1.out.keep k2 (by omega); have q1 : w2.cell? ⟨w.heap.size, 0, none⟩ = some (.int .i64 (k : Int)) := s2.1; have q2 : w2.cell? ⟨w.heap.size, 3, none⟩ = some (.string D) := s2.2.2.2; have b2 := Lib.hid (b1.out.trans (k2.mono (by omega))); have t2 := Lib.hid (t1.out.keepB k2 (by omega)); have z2 : w.heap.size + 1 ≤ w2.heap.size := (by have := k2.size; simp at this; omega); replace o2 := Lib.hid (show w2.ownsRow (w.heap.size + 1) 9 1 v2 2 (sl [N, G]) from o2); clear s2 k2 gr2 n2 nb2 s1 t1 o1)
  refine (HD.out _ t2.out).mono ?_
  rintro e w3 ⟨rfl, rfl⟩
  go_wp2_with fail
  go_ret
  exact ⟨_, rfl, own_base (B := w.heap.size + 1) o2.out (by omega), b2.out⟩
set_option maxHeartbeats 1000000 in
set_option maxRecDepth 100000 in
theorem parts_11 (k : Nat) (G N D : ByteArray) (w : World) (ht : Tabs w) (HG : ∀ w, Tabs w → Calls Tryd.prog 18 #[.int .i64 (k : Int)] w (Same (.bool true) w)) (HD : ∀ w, Tabs w → Calls Tryd.prog 17 #[.int .i64 (k : Int)] w (Same (.bool true) w)) : Calls Tryd.prog 19 #[.agg #[.int .i64 (k : Int), .string G, .string N, .string D]] w (StrsIs (partsL true true G N D) w) := by
  obtain ⟨i0, hi, hz0, hz1, hz2⟩ := info_parts Tryd.info9
  replace hi := Lib.hid hi
  replace hz0 := Lib.hid hz0
  replace hz1 := Lib.hid hz1
  replace hz2 := Lib.hid hz2
  replace HG := Lib.hid HG
  replace HD := Lib.hid HD
  have b1 : Below w.heap.size w ((w.alloc (.cells #[.int .i64 (k : Int), .string G, .string N, .string D] 23)).alloc (.cells #[.string N] 9)) := (ext_alloc w _).alloc (by simp) _
  have s1 := (SpotAt.new w k G N D).keep (ext_alloc (w.alloc (.cells #[.int .i64 (k : Int), .string G, .string N, .string D] 23)) (.cells #[.string N] 9)) (by simp)
  have o1 : ((w.alloc (.cells #[.int .i64 (k : Int), .string G, .string N, .string D] 23)).alloc (.cells #[.string N] 9)).ownsRow (w.heap.size + 1) 9 1 (.slice (some ⟨w.heap.size + 1, 0, none⟩) 1 1) 1 (sl [N]) := by
    have := own_made (w.alloc (.cells #[.int .i64 (k : Int), .string G, .string N, .string D] 23)) (w.heap.size + 1) (by simp) [N] (by simp)
    simpa [sl] using this
  have t1 := ht.keep b1
  replace b1 := Lib.hid b1
  replace s1 := Lib.hid s1
  replace o1 := Lib.hid o1
  replace t1 := Lib.hid t1
  clear ht
  go_enter Tryd.func19, Tryd.ntmps19
  go_wp2_with fail
  refine (HG.out _ t1.out).mono ?_
  rintro e w1 ⟨rfl, rfl⟩
  go_wp2_with (at_builtin; go_must (refine wpList_append_own_at _ rfl (.tmp 10) (.tmp 13) 39 rfl (w.heap.size + 1) 9 i0 (.string ⟨#[]⟩) 1 16 Tryd.underlying39 hi.out hz0.out hz1.out hz2.out rfl (by decide) _ 1 (sl [N]) rfl (o1.out.alloc _) ⟨w.heap.size + 1 + 1, 0, none⟩ 1 1 [.string G] rfl rfl (cell_new_at _ _ (by simp) _ _) (by intro u hu; simp at hu; subst hu; rfl) (by unfold maxLen; omega) (by simp) (by simp) ?_); intro v2 w2 o2 gr2 n2 nb2; have k2 : Below (w.heap.size + 1) ((w.alloc (.cells #[.int .i64 (k : Int), .string G, .string N, .string D] 23)).alloc (.cells #[.string N] 9)) w2 := (((Below.refl _ _).alloc (by simp) _).grown gr2 (by simp) (fun j hj => (o1.out.lt j hj).1)); have s2 := s1.out.keep k2 (by omega); have q1 : w2.cell? ⟨w.heap.size, 0, none⟩ = some (.int .i64 (k : Int)) := s2.1; have q2 : w2.cell? ⟨w.heap.size, 3, none⟩ = some (.string D) := s2.2.2.2; have b2 := Lib.hid (b1.out.trans (k2.mono (by omega))); have t2 := Lib.hid (t1.out.keepB k2 (by omega)); have z2 : w.heap.size + 1 ≤ w2.heap.size := (by have := k2.size; simp at this; omega); replace o2 := Lib.hid (show w2.ownsRow (w.heap.size + 1) 9 1 v2 2 (sl [N, G]) from o2); clear s2 k2 gr2 n2 nb2 s1 t1 o1)
  refine (HD.out _ t2.out).mono ?_
  rintro e w3 ⟨rfl, rfl⟩
  obtain ⟨a2, c2, rfl⟩ := own_slice o2.out
  go_wp2_with (at_builtin; go_must (refine wpList_append_own_at _ rfl (.tmp 18) (.tmp 21) 39 rfl (w.heap.size + 1) 9 i0 (.string ⟨#[]⟩) 1 16 Tryd.underlying39 hi.out hz0.out hz1.out hz2.out rfl (by decide) _ 2 (sl [N, G]) rfl (o2.out.alloc _) ⟨w3.heap.size, 0, none⟩ 1 1 [.string D] rfl rfl (cell_new_at _ _ (by simp) _ _) (by intro u hu; simp at hu; subst hu; rfl) (by unfold maxLen; omega) (by simp) (by simp; omega) ?_); intro v4 w4 o4 gr4 n4 nb4)
  have k4 : Below (w.heap.size + 1) w3 w4 := ((Below.refl _ _).alloc (by omega) _).grown gr4 (by simp; omega) (fun j hj => (o2.out.lt j hj).1)
  have b4 := Lib.hid (b2.out.trans (k4.mono (by omega)))
  go_wp2_with fail
  go_ret
  exact ⟨_, rfl, own_base (show w4.ownsRow (w.heap.size + 1) 9 1 v4 3 (sl [N, G, D]) from o4) (by omega), b4.out⟩
end Go.Proofs.YtbmelmmefgehoaaDoor
