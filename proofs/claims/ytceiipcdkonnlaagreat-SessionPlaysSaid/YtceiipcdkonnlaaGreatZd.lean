/-
  LAYER 25: both News.
-/
import Derived.Test.YtceiipcdkonnlaaGreatZc
import Derived.Test.YtceiipcdkonnlaaGreatUj
namespace Go.Proofs.YtceiipcdkonnlaaGreat.Ses
open Go.RowKit Que Hp Ids Fli
set_option linter.unusedSimpArgs false
set_option linter.unusedVariables false
set_option maxHeartbeats 4000000 in
theorem new_ok2 (cl : ByteArray) (cn : Bool) (w : World) (hs : cl.size ≤ 32) (hne : cl.toList.isEmpty = false) (hr : rightB cl = true) : Calls Tryz.prog 4 #[.string cl, .bool cn] w fun e w' => ∃ a, e = .returned (.tuple #[.pointer (some ⟨a.s, 0, none⟩), .int .i64 0]) ∧ Ss (fun k => k < w.heap.size ∨ k = a.ib) w' a cl cn false [] [] [] 0 ∧ Inb.Box w' a.ib (List.replicate 16 0) 0 ∧ Below w.heap.size w w' ∧ w.heap.size ≤ a.ib := by
  have RA := right_any cl w
  rw [hr] at RA
  replace RA := Lib.hid RA
  have QN : Hid (∀ w1 : World, Calls Tryz.prog 10 #[.int .i64 16] w1 fun e w' => e = .returned (.tuple #[.pointer (some ⟨w1.heap.size + 1, 0, none⟩), .int .i64 0]) ∧ Quu.Qu w' (w1.heap.size + 1) w1.heap.size 16 [] 0 ∧ Below w1.heap.size w1 w' ∧ w'.heap.size = w1.heap.size + 2) := Lib.hid fun w1 => Quu.new_any 16 w1 (by decide) (by decide)
  have hs' : (cl.size : Int) ≤ 32 := by omega
  replace hr := Lib.hid hr
  clear hs
  go_enter Tryz.func4, Tryz.ntmps4
  go_wp2_with fail
  refine RA.out.mono ?_
  rintro e w1 ⟨rfl, b1⟩
  replace b1 := Lib.hid b1
  clear RA
  go_wp2_with fail
  refine (QN.out _).mono ?_
  rintro e w2 ⟨rfl, q2, b2, z2⟩
  replace b2 := Lib.hid b2
  replace q2 := Lib.hid q2
  replace z2 := Lib.hid z2
  clear QN
  go_wp2_with fail
  refine (f_new _).mono ?_
  rintro e w3 ⟨f, g, rfl, f3, b3⟩
  replace b3 := Lib.hid b3
  replace f3 := Lib.hid f3
  go_wp2_with fail
  refine (Inb.new24_any _).mono ?_
  rintro e w4 ⟨rfl, x4, b4⟩
  replace b4 := Lib.hid b4
  replace x4 := Lib.hid x4
  go_wp2_with fail
  go_ret2
  have l4 := x4.out.lt
  have y1 := b1.out.size
  have y2 := z2.out
  have y3 := b3.out.size
  have B35 : Below w3.heap.size w3 ((w4.alloc (.cells #[.pointer (some ⟨w1.heap.size + 1, 0, none⟩), .pointer (some ⟨f, 0, none⟩), .pointer (some ⟨w3.heap.size, 0, none⟩)] 48)).alloc (.cells #[.string cl, .bool cn, .bool false, .pointer (some ⟨w4.heap.size, 0, none⟩)] 50)) := (b4.out.alloc b4.out.size _).alloc (by have := b4.out.size; simp; omega) _
  have B25 := b3.out.trans (B35.mono y3)
  refine ⟨⟨w4.heap.size + 1, w4.heap.size, w1.heap.size + 1, w1.heap.size, f, g, w3.heap.size⟩, by simp, ⟨?_, ?_, q2.out.keep B25, ?_, ?_, by simp, by simp⟩, ?_, (b1.out.trans ((b2.out.trans (B25.mono b2.out.size)).mono y1)), (by show w.heap.size ≤ w3.heap.size; omega)⟩
  · have := heap_alloc_new (w4.alloc (.cells #[.pointer (some ⟨w1.heap.size + 1, 0, none⟩), .pointer (some ⟨f, 0, none⟩), .pointer (some ⟨w3.heap.size, 0, none⟩)] 48)) (.cells #[.string cl, .bool cn, .bool false, .pointer (some ⟨w4.heap.size, 0, none⟩)] 50)
    simpa using this
  · show ((w4.alloc _).alloc _).heap[w4.heap.size]? = _
    rw [Below.heap_alloc _ _ _ (by simp)]
    exact heap_alloc_new w4 _
  · refine f3.out.more B35 ?_
    rintro k ((hk | rfl) | rfl | rfl | rfl | rfl | rfl)
    · have hk' : k < w.heap.size := hk
      left; show k < w2.heap.size; omega
    · right; simp; omega
    · right; simp; omega
    · right; simp; omega
    · left; show w1.heap.size + 1 < w2.heap.size; omega
    · left; show w1.heap.size < w2.heap.size; omega
    · right; simp; omega
  · rintro k (hk | rfl)
    · have hk' : k < w.heap.size := hk
      have := b2.out.size
      have := b4.out.size
      show k ≠ w4.heap.size + 1 ∧ k ≠ w4.heap.size ∧ k ≠ w1.heap.size + 1 ∧ k ≠ w1.heap.size
      omega
    · have := b2.out.size
      have := b4.out.size
      show w3.heap.size ≠ w4.heap.size + 1 ∧ w3.heap.size ≠ w4.heap.size ∧ w3.heap.size ≠ w1.heap.size + 1 ∧ w3.heap.size ≠ w1.heap.size
      omega
  · exact x4.out.keep ((Below.refl _ _).alloc (Nat.le_refl _) _ |>.alloc (by simp) _) l4
theorem xq_new (w : World) : Calls Tryz.prog 14 #[.int .i64 16] w fun e w' => e = .returned (.tuple #[.pointer (some ⟨w.heap.size, 0, none⟩), .int .i64 0]) ∧ w' = w.alloc (.cells #[.slice none 0 0, .int .i64 16, .int .i64 0] 85) := by
  go_enter Tryz.func14, Tryz.ntmps14
  go_wp2_with fail
  go_ret2
  exact ⟨rfl, rfl⟩
theorem alloc4 (w : World) (a b c e : Obj) : ((((w.alloc a).alloc b).alloc c).alloc e).heap[w.heap.size]? = some a ∧ ((((w.alloc a).alloc b).alloc c).alloc e).heap[w.heap.size + 1]? = some b ∧ ((((w.alloc a).alloc b).alloc c).alloc e).heap[w.heap.size + 1 + 1]? = some c ∧ ((((w.alloc a).alloc b).alloc c).alloc e).heap[w.heap.size + 1 + 1 + 1]? = some e := by
  have h1 : (w.alloc a).heap.size = w.heap.size + 1 := by simp
  have h2 : ((w.alloc a).alloc b).heap.size = w.heap.size + 1 + 1 := by simp
  have h3 : (((w.alloc a).alloc b).alloc c).heap.size = w.heap.size + 1 + 1 + 1 := by simp
  refine ⟨?_, ?_, ?_, ?_⟩
  · rw [heap_alloc_old _ _ (by omega), heap_alloc_old _ _ (by omega), heap_alloc_old _ _ (by omega)]
    exact heap_alloc_new w a
  · rw [heap_alloc_old _ _ (by omega), heap_alloc_old _ _ (by omega), ← h1]
    exact heap_alloc_new (w.alloc a) b
  · rw [heap_alloc_old _ _ (by omega), ← h2]
    exact heap_alloc_new ((w.alloc a).alloc b) c
  · rw [← h3]
    exact heap_alloc_new (((w.alloc a).alloc b).alloc c) e
/-- A client's id that can be. -/
def okId (cl : ByteArray) : Prop := cl.size ≤ 32 ∧ cl.toList.isEmpty = false ∧ rightB cl = true
theorem id_or (cl : ByteArray) : okId cl ∨ (cl.size = 0 ∨ 32 < cl.size ∨ rightB cl = false) := by
  by_cases h0 : cl.size = 0
  · exact .inr (.inl h0)
  by_cases h32 : 32 < cl.size
  · exact .inr (.inr (.inl h32))
  cases hr : rightB cl
  · exact .inr (.inr (.inr rfl))
  refine .inl ⟨by omega, ?_, hr⟩
  rw [ByteArray.toList_eq]
  obtain ⟨⟨l⟩⟩ := cl
  cases l with
  | nil => simp [ByteArray.size] at h0
  | cons a l => rfl
set_option maxHeartbeats 4000000 in
theorem xnew_ok (cl : ByteArray) (cn : Bool) (w : World) (h : okId cl) : Calls Tryz.prog 5 #[.string cl, .bool cn] w fun e w' => ∃ d : Ax, e = .returned (.tuple #[.pointer (some ⟨d.x, 0, none⟩), .int .i64 0]) ∧ Xs (fun _ => False) w' d cl cn false (.slice none 0 0) (.slice none 0 0) [] [] 0 ∧ Inb.Xb w' d.i (.slice none 0 0) [] ∧ Below w.heap.size w w' ∧ ∀ k, (DX d (.slice none 0 0) (.slice none 0 0) (.slice none 0 0) k → w.heap.size ≤ k) ∧ (d.i ≠ d.x ∧ d.i ≠ d.q ∧ d.i ≠ d.f) := by
  obtain ⟨hs, hne, hr⟩ := h
  have RA := rright_any cl w
  rw [hr] at RA
  replace RA := Lib.hid RA
  have hs' : (cl.size : Int) ≤ 32 := by omega
  replace hr := Lib.hid hr
  clear hs
  go_enter Tryz.func5, Tryz.ntmps5
  go_wp2_with fail
  refine RA.out.mono ?_
  rintro e w1 ⟨rfl, n1, rfl⟩
  clear RA
  go_wp2_with fail
  refine (xq_new _).mono ?_
  rintro e w2 ⟨rfl, rfl⟩
  go_wp2_with fail
  go_ret2
  have b4 := Lib.hid (Below.trans (ext_drewN w n1) ((((((ext_alloc (w.drewN n1) (.cells #[.slice none 0 0, .int .i64 16, .int .i64 0] 85)).alloc (by simp) (.cells #[.slice none 0 0] 57)).alloc (by simp; omega) (.cells #[.slice none 0 0] 61)).alloc (by simp; omega) (.cells #[.string cl, .bool cn, .bool false, .pointer (some ⟨(w.drewN n1).heap.size, 0, none⟩), .pointer (some ⟨(w.drewN n1).heap.size + 1, 0, none⟩), .pointer (some ⟨(w.drewN n1).heap.size + 2, 0, none⟩)] 63))).mono (Nat.le_refl _)))
  have A4 := Lib.hid (alloc4 (w.drewN n1) (.cells #[.slice none 0 0, .int .i64 16, .int .i64 0] 85) (.cells #[.slice none 0 0] 57) (.cells #[.slice none 0 0] 61) (.cells #[.string cl, .bool cn, .bool false, .pointer (some ⟨(w.drewN n1).heap.size, 0, none⟩), .pointer (some ⟨(w.drewN n1).heap.size + 1, 0, none⟩), .pointer (some ⟨(w.drewN n1).heap.size + 2, 0, none⟩)] 63))
  refine ⟨⟨w.heap.size + 1 + 1 + 1, w.heap.size, w.heap.size + 1, w.heap.size + 1 + 1⟩, by simp, ⟨?_, ⟨?_, World.ownsRow_nil _ _ _ _⟩, ⟨?_, World.ownsRow_nil _ _ _ _⟩, fun k e => e.elim, by simp, by simp, by simp⟩, ⟨?_, World.ownsRow_nil _ _ _ _⟩, by simpa using b4.out, ?_⟩
  · simpa using A4.out.2.2.2
  · simpa using A4.out.1
  · simpa using A4.out.2.1
  · simpa using A4.out.2.2.1
  · intro k
    refine ⟨?_, by show w.heap.size + 1 + 1 ≠ w.heap.size + 1 + 1 + 1; omega, by show w.heap.size + 1 + 1 ≠ w.heap.size; omega, by show w.heap.size + 1 + 1 ≠ w.heap.size + 1; omega⟩
    rintro ((rfl | rfl | rfl | e | e) | rfl | e)
    · show w.heap.size ≤ w.heap.size + 1 + 1 + 1; omega
    · exact Nat.le_refl _
    · show w.heap.size ≤ w.heap.size + 1; omega
    · cases e
    · cases e
    · show w.heap.size ≤ w.heap.size + 1 + 1; omega
    · cases e
theorem xnew_bad (cl : ByteArray) (cn : Bool) (w : World) (h : cl.size = 0 ∨ 32 < cl.size ∨ rightB cl = false) (hz : cl.size ≤ 140737488351232) : Calls Tryz.prog 5 #[.string cl, .bool cn] w fun e w' => e = .returned (.tuple #[.pointer none, .int .i64 1]) ∧ Below w.heap.size w w' := by
  by_cases h0 : cl.size = 0
  · have he : cl = ⟨#[]⟩ := by
      obtain ⟨⟨l⟩⟩ := cl
      cases l with
      | nil => rfl
      | cons a l => simp [ByteArray.size] at h0
    subst he
    go_enter Tryz.func5, Tryz.ntmps5
    go_wp2_with fail
    go_ret2
    exact ⟨rfl, Below.refl _ _⟩
  have hne : cl.toList.isEmpty = false := by
    rw [ByteArray.toList_eq]
    obtain ⟨⟨l⟩⟩ := cl
    cases l with
    | nil => simp [ByteArray.size] at h0
    | cons a l => rfl
  by_cases h32 : 32 < cl.size
  · have h' : (32 : Int) < (cl.size : Int) := by omega
    clear h h0
    go_enter Tryz.func5, Tryz.ntmps5
    go_wp2_with fail
    go_ret2
    exact ⟨rfl, Below.refl _ _⟩
  · have h' : ¬ (32 : Int) < (cl.size : Int) := by omega
    have hr : rightB cl = false := (h.resolve_left h0).resolve_left h32
    have RA := rright_any cl w
    rw [hr] at RA
    replace RA := Lib.hid RA
    clear h h0 hr
    go_enter Tryz.func5, Tryz.ntmps5
    go_wp2_with fail
    refine RA.out.mono ?_
    rintro e w1 ⟨rfl, n1, rfl⟩
    go_wp2_with fail
    go_ret2
    exact ⟨rfl, ext_drewN w n1⟩
/-- Both are new. -/
theorem SB.start {w0 w1 w2 : World} {a : Ad} {d : Ax} {cl : ByteArray} {cn : Bool} (s1 : Ss (fun k => k < w0.heap.size ∨ k = a.ib) w1 a cl cn false [] [] [] 0) (b1 : Inb.Box w1 a.ib (List.replicate 16 0) 0) (e1 : Below w0.heap.size w0 w1) (i1 : w0.heap.size ≤ a.ib)
    (x2 : Xs (fun _ => False) w2 d cl cn false (.slice none 0 0) (.slice none 0 0) [] [] 0) (y2 : Inb.Xb w2 d.i (.slice none 0 0) []) (e2 : Below w1.heap.size w1 w2) (hd : ∀ k, DX d (.slice none 0 0) (.slice none 0 0) (.slice none 0 0) k → w1.heap.size ≤ k) (hdi : d.i ≠ d.x ∧ d.i ≠ d.q ∧ d.i ≠ d.f) :
    SB w2 w0 w2 a d (fun _ => False) (.slice none 0 0) (.slice none 0 0) (.slice none 0 0) cl cn [] ⟨false, [], [], 0⟩ ⟨false, [], [], 0⟩ (List.replicate 16 0) 0 [] := by
  have hib := b1.lt
  refine ⟨s1.others (S := fun _ => False) (Far.of_ext e2) (fun _ e => e.elim) ?_, b1.keep e2 hib, x2, y2, ?_, e1.trans (e2.mono e1.size), ?_, fun k e => e.elim⟩
  · rintro k (hk | hk | hk | hk | hk | hk)
    · exact .inl (.inl hk)
    · exact .inl (.inr hk)
    · exact .inr ⟨hd k (.inl hk), x2.lt hk⟩
    · exact .inr ⟨hd k (.inr (.inl hk)), hk ▸ y2.lt⟩
    · cases hk
    · exact hk.elim
  · rintro k (hk | hk | hk)
    · exact fun e => by have := hd k (.inl e); omega
    · rintro (e | e | e | e | e)
      · exact hdi.1 (hk.symm.trans e)
      · exact hdi.2.1 (hk.symm.trans e)
      · exact hdi.2.2 (hk.symm.trans e)
      · cases e
      · cases e
    · cases hk
  · rintro k (hk | hk)
    · rw [hk]; exact i1
    · exact Nat.le_trans e1.size (hd k hk)
end Go.Proofs.YtceiipcdkonnlaaGreat.Ses
