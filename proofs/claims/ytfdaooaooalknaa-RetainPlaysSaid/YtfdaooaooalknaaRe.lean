/-
  LAYER 27: what was kept last.
-/
import Derived.Test.YtfdaooaooalknaaRd
import Derived.Test.YtfdaooaooalknaaMs
namespace Go.Proofs.Ytfdaooaooalknaa
set_option linter.unusedSimpArgs false
set_option linter.unusedVariables false
open Go.RowKit Go.Maps Go.WideMaps

theorem str_eq (a b : ByteArray) : (a.toList == b.toList) = decide (a = b) := by
  rw [ByteArray.toList_eq, ByteArray.toList_eq, Bool.eq_iff_iff]
  simp only [beq_iff_eq, decide_eq_true_eq]
  exact ⟨ba_ext, fun h => by rw [h]⟩
theorem rel_other {D : DataW Value} {T t x : ByteArray} {q : Int} (h : T ≠ t ∨ kE D t x ≠ 0) : has (kD D t x q) (kS T) = has D (kS T) ∧ ∀ z, (kD D t x q).atKey (kS T) z = D.atKey (kS T) z := by
  unfold kD
  unfold kE at h
  split
  · exact ⟨rfl, fun _ => rfl⟩
  rename_i h1
  rw [if_neg h1] at h
  split
  · rename_i h2
    rw [if_pos h2] at h
    have hne := kS_ne (h.resolve_right (by simp))
    exact ⟨has_del_other hne, fun z => atKey_del_other hne z⟩
  rename_i h2
  rw [if_neg h2] at h
  split
  · exact ⟨rfl, fun _ => rfl⟩
  rename_i h3
  rw [if_neg h3] at h
  have hne := kS_ne (h.resolve_right (by simp))
  exact ⟨has_put_other hne _, fun z => atKey_put_other hne _ z⟩
theorem rel_same {D : DataW Value} {t x : ByteArray} {q : Int} (hm : IsMap D) (h : kE D t x = 0) : (x.size = 0 → has (kD D t x q) (kS t) = false) ∧ (x.size ≠ 0 → has (kD D t x q) (kS t) = true ∧ ∀ z, (kD D t x q).atKey (kS t) z = .held (mV t x q true)) := by
  unfold kD
  unfold kE at h
  by_cases h1 : nameB t = false
  · rw [if_pos h1] at h; simp at h
  rw [if_neg h1] at h ⊢
  by_cases h2 : x.size = 0
  · rw [if_pos h2]
    exact ⟨fun _ => has_del_same, fun h => absurd h2 h⟩
  rw [if_neg h2] at h ⊢
  by_cases h3 : has D (kS t) = false ∧ 32 ≤ size D
  · rw [if_pos h3] at h; simp at h
  rw [if_neg h3]
  exact ⟨fun h => absurd h h2, fun _ => ⟨has_put_same hm (kS_key t) _, fun z => atKey_put_same hm (kS_key t) _ z⟩⟩
/-- Behind k messages: the store, the last one that was kept of the topic. -/
structure Rl (w wr : World) (n : Nat) (T : ByteArray) (k : Nat) (D : DataW Value) (lt lx : ByteArray) (lq : Int) (lr : Bool) : Prop where
  kn : k ≤ n
  k60 : k ≤ 60
  sv : Sv wr (w.heap.size + 1) w.heap.size k D
  ms : MsgAt wr (w.heap.size + 1 + 1) lt lx lq lr
  no : lx.size = 0 → has D (kS T) = false
  yes : lx.size ≠ 0 → has D (kS T) = true ∧ ∀ z, D.atKey (kS T) z = .held (mV lt lx lq true)
  bw : Below w.heap.size w wr
theorem MsgAt.lt {w : World} {b : Nat} {t x : ByteArray} {q : Int} {r : Bool} (h : MsgAt w b t x q r) : b < w.heap.size := (Array.getElem?_eq_some_iff.1 h).1
theorem MsgAt.set4 {w : World} {b : Nat} {t x : ByteArray} {q : Int} {r : Bool} (h : MsgAt w b t x q r) (t' x' : ByteArray) (q' : Int) (r' : Bool) : MsgAt ((((w.setCell ⟨b, 0, none⟩ (.string t')).setCell ⟨b, 1, none⟩ (.string x')).setCell ⟨b, 2, none⟩ (.int .i64 q')).setCell ⟨b, 3, none⟩ (.bool r')) b t' x' q' r' := by
  have h1 : (w.setCell ⟨b, 0, none⟩ (.string t')).heap[b]? = some (.cells #[.string t', .string x, .int .i64 q, .bool r] 33 (0, 0)) := heap_setCell_same w b 0 _ 33 _ h
  have h2 := heap_setCell_same _ b 1 _ 33 (.string x') h1
  have h3 := heap_setCell_same _ b 2 _ 33 (.int .i64 q') h2
  exact heap_setCell_same _ b 3 _ 33 (.bool r') h3
theorem MsgAt.below4 (w : World) (b : Nat) (v0 v1 v2 v3 : Value) : Below b w ((((w.setCell ⟨b, 0, none⟩ v0).setCell ⟨b, 1, none⟩ v1).setCell ⟨b, 2, none⟩ v2).setCell ⟨b, 3, none⟩ v3) :=
  ((((Below.refl b w).setCell (p := ⟨b, 0, none⟩) (Nat.le_refl _) _).setCell (p := ⟨b, 1, none⟩) (Nat.le_refl _) _).setCell (p := ⟨b, 2, none⟩) (Nat.le_refl _) _).setCell (p := ⟨b, 3, none⟩) (Nat.le_refl _) _
theorem MsgAt.froz {w : World} {b : Nat} {t x : ByteArray} {q : Int} {r : Bool} (h : MsgAt w b t x q r) : w.frozen? ⟨b, 0, none⟩ = false ∧ w.frozen? ⟨b, 1, none⟩ = false ∧ w.frozen? ⟨b, 2, none⟩ = false ∧ w.frozen? ⟨b, 3, none⟩ = false :=
  ⟨frozen_of_row w b 0 _ 33 h, frozen_of_row w b 1 _ 33 h, frozen_of_row w b 2 _ 33 h, frozen_of_row w b 3 _ 33 h⟩
theorem Rl.kept {w wr w' : World} {n k : Nat} {T lt lx t x : ByteArray} {D : DataW Value} {lq q : Int} {lr : Bool} (h : Rl w wr n T k D lt lx lq lr) (hk : k < n) (hk2 : k < 60) (hs : Sv w' (w.heap.size + 1) w.heap.size (k + 1) (kD D t x q)) (hb : Below w.heap.size wr w') (he : Els wr w' w.heap.size) (ho : T ≠ t ∨ kE D t x ≠ 0) : Rl w w' n T (k + 1) (kD D t x q) lt lx lq lr := by
  obtain ⟨o1, o2⟩ := rel_other (q := q) ho
  refine ⟨by omega, by omega, hs, (he _ h.ms.lt (by omega)).trans h.ms, fun h0 => by rw [o1]; exact h.no h0, fun h0 => ?_, h.bw.trans hb⟩
  rw [o1]
  exact ⟨(h.yes h0).1, fun z => by rw [o2]; exact (h.yes h0).2 z⟩
theorem Rl.last {w wr w' w2 : World} {n k : Nat} {lt lx t x : ByteArray} {D : DataW Value} {lq q : Int} {lr r : Bool} (h : Rl w wr n t k D lt lx lq lr) (hk : k < n) (hk2 : k < 60) (hs : Sv w' (w.heap.size + 1) w.heap.size (k + 1) (kD D t x q)) (hb : Below w.heap.size wr w') (ho : kE D t x = 0) (hm : MsgAt w2 (w.heap.size + 1 + 1) t x q r) (h2 : Below (w.heap.size + 1 + 1) w' w2) : Rl w w2 n t (k + 1) (kD D t x q) t x q r := by
  obtain ⟨o1, o2⟩ := rel_same (q := q) h.sv.own.isMap ho
  exact ⟨by omega, by omega, hs.keepB h2 (by omega) (by omega), hm, o1, o2, (h.bw.trans hb).trans (h2.mono (by omega))⟩
theorem rl_start (w : World) (n : Nat) (T : ByteArray) : Rl w (((w.alloc (.map #[] 0)).alloc (.cells #[.map (some w.heap.size)] 48)).alloc (.cells #[.string ⟨#[]⟩, .string ⟨#[]⟩, .int .i64 0, .bool false] 33)) n T 0 (.map []) ⟨#[]⟩ ⟨#[]⟩ 0 false := by
  refine ⟨by omega, by omega, (new_sv w).keep (ext_alloc _ _), ?_, fun _ => rfl, fun h => absurd rfl h, ?_⟩
  · have := heap_alloc_new ((w.alloc (.map #[] 0)).alloc (.cells #[.map (some w.heap.size)] 48)) (.cells #[.string ⟨#[]⟩, .string ⟨#[]⟩, .int .i64 0, .bool false] 33)
    unfold MsgAt
    simpa using this
  · exact (((Below.refl w.heap.size w).alloc (Nat.le_refl _) _).alloc (by simp) _).alloc (by simp; omega) _
end Go.Proofs.Ytfdaooaooalknaa
