import Derived.Test.YtoglgdkeknojkaaGb
namespace Go.Proofs.Ytoglgdkeknojkaa
open Go.RowKit Go.Shelf
theorem boxes8 (w : World) (v0 v1 v2 v3 v4 v5 v6 v7 : Value) (t0 t1 t2 t3 t4 t5 t6 t7 : TypeId) (W : World)
    (hW : W = (((((((w.alloc (.cells #[v0] t0)).alloc (.cells #[v1] t1)).alloc (.cells #[v2] t2)).alloc (.cells #[v3] t3)).alloc (.cells #[v4] t4)).alloc (.cells #[v5] t5)).alloc (.cells #[v6] t6)).alloc (.cells #[v7] t7)) :
    (Boxed W w.heap.size t0 v0 ∧ Boxed W (w.heap.size + 1) t1 v1 ∧ Boxed W (w.heap.size + 1 + 1) t2 v2 ∧ Boxed W (w.heap.size + 1 + 1 + 1) t3 v3 ∧ Boxed W (w.heap.size + 1 + 1 + 1 + 1) t4 v4 ∧ Boxed W (w.heap.size + 1 + 1 + 1 + 1 + 1) t5 v5 ∧
      Boxed W (w.heap.size + 1 + 1 + 1 + 1 + 1 + 1) t6 v6 ∧ Boxed W (w.heap.size + 1 + 1 + 1 + 1 + 1 + 1 + 1) t7 v7) ∧ W.heap.size = w.heap.size + 8 ∧ Below w.heap.size w W := by
  have e1 : ∀ (u : World) (o : Obj), (u.alloc o).heap.size = u.heap.size + 1 := fun u o => by simp
  refine ⟨⟨?_, ?_, ?_, ?_, ?_, ?_, ?_, ?_⟩, ?_, ?_⟩
  · subst hW; exact ((((((((Boxed.new w t0 v0).alloc _).alloc _).alloc _).alloc _).alloc _).alloc _).alloc _)
  · subst hW; have := Boxed.new (w.alloc (.cells #[v0] t0)) t1 v1; simp only [e1] at this; exact (((((((this).alloc _).alloc _).alloc _).alloc _).alloc _).alloc _)
  · subst hW; have := Boxed.new ((w.alloc (.cells #[v0] t0)).alloc (.cells #[v1] t1)) t2 v2; simp only [e1] at this; exact ((((((this).alloc _).alloc _).alloc _).alloc _).alloc _)
  · subst hW; have := Boxed.new (((w.alloc (.cells #[v0] t0)).alloc (.cells #[v1] t1)).alloc (.cells #[v2] t2)) t3 v3; simp only [e1] at this; exact (((((this).alloc _).alloc _).alloc _).alloc _)
  · subst hW; have := Boxed.new ((((w.alloc (.cells #[v0] t0)).alloc (.cells #[v1] t1)).alloc (.cells #[v2] t2)).alloc (.cells #[v3] t3)) t4 v4; simp only [e1] at this; exact ((((this).alloc _).alloc _).alloc _)
  · subst hW; have := Boxed.new (((((w.alloc (.cells #[v0] t0)).alloc (.cells #[v1] t1)).alloc (.cells #[v2] t2)).alloc (.cells #[v3] t3)).alloc (.cells #[v4] t4)) t5 v5; simp only [e1] at this; exact (((this).alloc _).alloc _)
  · subst hW; have := Boxed.new ((((((w.alloc (.cells #[v0] t0)).alloc (.cells #[v1] t1)).alloc (.cells #[v2] t2)).alloc (.cells #[v3] t3)).alloc (.cells #[v4] t4)).alloc (.cells #[v5] t5)) t6 v6; simp only [e1] at this; exact ((this).alloc _)
  · subst hW; have := Boxed.new (((((((w.alloc (.cells #[v0] t0)).alloc (.cells #[v1] t1)).alloc (.cells #[v2] t2)).alloc (.cells #[v3] t3)).alloc (.cells #[v4] t4)).alloc (.cells #[v5] t5)).alloc (.cells #[v6] t6)) t7 v7; simp only [e1] at this; exact this
  · subst hW; simp only [e1]
  · subst hW
    exact (((((((((Below.refl _ _).alloc (by simp) _).alloc (by simp only [e1]; omega) _).alloc (by simp only [e1]; omega) _).alloc (by simp only [e1]; omega) _).alloc (by simp only [e1]; omega) _).alloc (by simp only [e1]; omega) _).alloc (by simp only [e1]; omega) _).alloc (by simp only [e1]; omega) _)
end Go.Proofs.Ytoglgdkeknojkaa
