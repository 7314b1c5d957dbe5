/-
  LAYER 28: Find.
-/
import Derived.Test.YtdcfenkllpfbaaaBf
import Derived.Test.YtdcfenkllpfbaaaScope
import Derived.Maps.OwnIn
import Derived.Outline
import Derived.Stop.RegionWithIn
namespace Go.Proofs.Ytdcfenkllpfbaaa.Sns
set_option linter.unusedVariables false
set_option linter.unusedSimpArgs false
open Go.Proofs.Ytdcfenkllpfbaaa
open Go.RowKit Go.Shelf Que
attribute [local go_sem] Oper.semAt_some
/-- The first of that name. -/
def fnd (nm : Nat → ByteArray) (cl : ByteArray) : List (Nat × Nat) → Int × Bool
  | [] => (0, false)
  | x :: l => if nm x.2 = cl then ((x.1 : Int), true) else fnd nm cl l
theorem fnd_none {nm : Nat → ByteArray} {cl : ByteArray} : ∀ {l : List (Nat × Nat)}, (∀ x ∈ l, nm x.2 ≠ cl) → fnd nm cl l = (0, false)
  | [], _ => rfl
  | x :: l, h => by rw [fnd, if_neg (h x (by simp)), fnd_none (fun y hy => h y (by simp [hy]))]
theorem fnd_here {nm : Nat → ByteArray} {cl : ByteArray} {x : Nat × Nat} {r : List (Nat × Nat)} (hx : nm x.2 = cl) : ∀ {l : List (Nat × Nat)}, (∀ y ∈ l, nm y.2 ≠ cl) → fnd nm cl (l ++ x :: r) = ((x.1 : Int), true)
  | [], _ => by rw [List.nil_append, fnd, if_pos hx]
  | y :: l, h => by rw [List.cons_append, fnd, if_neg (h y (by simp)), fnd_here hx (fun z hz => h z (by simp [hz]))]
theorem boxed_keep {A B : World} {row : Option Nat} {b : Nat} {t : TypeId} {v : Value} (h : Boxed A b t v) (hg : A.grownBy B row) (hr : ∀ r, row = some r → ∃ o : Obj, A.heap[r]? = some o ∧ o.isCells = false) : Boxed B b t v :=
  boxed_own (β := Unit) b t (fun _ => v) (s := ()) A B row h hg hr
def FiI {α : Type} (un : α → Nat × Nat) (nm : Nat → ByteArray) (cl : ByteArray) (t : Option Addr) (w : World) (pre : List α) (W : World) : Prop :=
  (∀ x ∈ pre, nm (un x).2 ≠ cl) ∧ Boxed W w.heap.size 9 (.string cl) ∧ Boxed W (w.heap.size + 1) 3 (.int .i64 0) ∧ Boxed W (w.heap.size + 1 + 1) 4 (.bool false) ∧ Boxed W (w.heap.size + 1 + 1 + 1) 22 (.pointer t) ∧ Below w.heap.size w W
def FiX {α : Type} (un : α → Nat × Nat) (nm : Nat → ByteArray) (cl : ByteArray) (w : World) (c : Code) (pre : List α) (W : World) : Prop :=
  ∃ ini x, pre = ini ++ [x] ∧ c = .ret ∧ (∀ y ∈ ini, nm (un y).2 ≠ cl) ∧ nm (un x).2 = cl ∧ Boxed W (w.heap.size + 1) 3 (.int .i64 ((un x).1 : Int)) ∧ Boxed W (w.heap.size + 1 + 1) 4 (.bool true) ∧ Below w.heap.size w W
theorem fiI_own {α : Type} {un : α → Nat × Nat} {nm : Nat → ByteArray} {cl : ByteArray} {t : Option Addr} {w : World} (B : Nat) (hB : w.heap.size ≤ B) : OwnFrom B (FiI un nm cl t w) := by
  rintro s A C row ⟨h1, h2, h3, h4, h5, h6⟩ hg hrow
  have hrow' : ∀ r, row = some r → ∃ o : Obj, A.heap[r]? = some o ∧ o.isCells = false := fun r e => (hrow r e).2
  exact ⟨h1, boxed_keep h2 hg hrow', boxed_keep h3 hg hrow', boxed_keep h4 hg hrow', boxed_keep h5 hg hrow', h6.grown hg h6.size (fun k e => Nat.le_trans hB (hrow k e).1)⟩
theorem fiX_own {α : Type} {un : α → Nat × Nat} {nm : Nat → ByteArray} {cl : ByteArray} {w : World} {c : Code} (B : Nat) (hB : w.heap.size ≤ B) : OwnFrom B (FiX un nm cl w c) := by
  rintro s A C row ⟨ini, x, h1, h2, h3, h4, h5, h6, h7⟩ hg hrow
  exact ⟨ini, x, h1, h2, h3, h4, boxed_keep h5 hg (fun r e => (hrow r e).2), boxed_keep h6 hg (fun r e => (hrow r e).2), h7.grown hg h7.size (fun k e => Nat.le_trans hB (hrow k e).1)⟩
theorem boxes4 (w : World) (v0 v1 v2 v3 : Value) (t0 t1 t2 t3 : TypeId) (W : World) (hW : W = (((w.alloc (.cells #[v0] t0)).alloc (.cells #[v1] t1)).alloc (.cells #[v2] t2)).alloc (.cells #[v3] t3)) :
    Boxed W w.heap.size t0 v0 ∧ Boxed W (w.heap.size + 1) t1 v1 ∧ Boxed W (w.heap.size + 1 + 1) t2 v2 ∧ Boxed W (w.heap.size + 1 + 1 + 1) t3 v3 ∧ W.heap.size = w.heap.size + 4 ∧ Below w.heap.size w W := by
  have e1 : ∀ (u : World) (o : Obj), (u.alloc o).heap.size = u.heap.size + 1 := fun u o => by simp
  refine ⟨?_, ?_, ?_, ?_, ?_, ?_⟩
  · subst hW; exact (((Boxed.new w t0 v0).alloc _).alloc _).alloc _
  · subst hW; have := Boxed.new (w.alloc (.cells #[v0] t0)) t1 v1; simp only [e1] at this; exact (this.alloc _).alloc _
  · subst hW; have := Boxed.new ((w.alloc (.cells #[v0] t0)).alloc (.cells #[v1] t1)) t2 v2; simp only [e1] at this; exact this.alloc _
  · subst hW; have := Boxed.new (((w.alloc (.cells #[v0] t0)).alloc (.cells #[v1] t1)).alloc (.cells #[v2] t2)) t3 v3; simp only [e1] at this; exact this
  · subst hW; simp only [e1]
  · subst hW; exact ((((Below.refl _ _).alloc (by simp) _).alloc (by simp only [e1]; omega) _).alloc (by simp only [e1]; omega) _).alloc (by simp only [e1]; omega) _
theorem kpF_b {n₀ Bb : Nat} {w : World} (hn : n₀ ≤ w.heap.size) (hb : Bb < w.heap.size) (W : World) (l : Nat) (o o' : Obj) (hl : w.heap.size ≤ l) (h : W.heap[l]? = some o) (h1 : o.isCells = false) (h2 : o.isWalk = false) : KpF n₀ Bb W (W.putObj l o') :=
  ⟨belowK_b hn W l o o' hl h h1 h2, World.putObj_heap_other (by omega)⟩
def fiA (t : Nat) (cl : ByteArray) (B : Nat) (x : Nat × Nat) : Act :=
  { tmps := #[.pointer (some ⟨t, 0, none⟩), .string cl, undef, .pointer (some ⟨B, 0, none⟩), .pointer (some ⟨B + 1, 0, none⟩), .pointer (some ⟨B + 1 + 1, 0, none⟩), .int .i64 (x.1 : Int), .pointer (some ⟨x.2, 0, none⟩), .pointer (some ⟨t, 0, none⟩), .func (.func 42) #[] #[.pointer (some ⟨B + 1 + 1 + 1, 0, none⟩)], .int .i64 (x.1 : Int), .pointer (some ⟨x.2, 0, none⟩), undef, undef, undef, undef, undef], defers := [] }
def FindIs (nm : Nat → ByteArray) (cl : ByteArray) (S : List (Nat × Nat)) (w : World) (e : Ending) (w' : World) : Prop :=
  e = .returned (.tuple #[.int .i64 (fnd nm cl S).1, .bool (fnd nm cl S).2]) ∧ Below w.heap.size w w'
theorem below_put {B : Nat} {w X : World} {D : Nat} {o o' : Obj} (h : Below B w X) (hD : B ≤ D) (hX : X.heap[D]? = some o) (h1 : o.isCells = false) : Below B w (X.putObj D o') :=
  h.trans ⟨rfl, rfl, rfl, by simp, fun k hk => World.putObj_heap_other (by omega)⟩
theorem finish8 {n D B : Nat} {R : Ending → World → Prop} {X : World} {tmps : Array Value} {i : Int} {b : Bool} (hK : X.heap[D]? = some (.deferred (some [])))
    (hi : Boxed X (B + 1) 3 (.int .i64 i)) (hb : Boxed X (B + 1 + 1) 4 (.bool b)) (hD : B + 1 + 1 < D)
    (hR : R (.returned (.tuple #[.int .i64 i, .bool b])) (X.putObj D (.deferred none)))
    (h4 : tmps.getD 4 undef = .pointer (some ⟨B + 1, 0, none⟩) := by rfl) (h5 : tmps.getD 5 undef = .pointer (some ⟨B + 1 + 1, 0, none⟩) := by rfl) :
    bodyPostM Fence.wide n Try.prog Try.f8 R .ret { tmps := tmps, defers := [{ target := .collected D, args := #[] }] } X := by
  have b1 : Boxed (X.putObj D (.deferred none)) (B + 1) 3 (.int .i64 i) := (World.putObj_heap_other (by omega)).trans hi
  have b2 : Boxed (X.putObj D (.deferred none)) (B + 1 + 1) 4 (.bool b) := (World.putObj_heap_other (by omega)).trans hb
  have c1 := b1.cell
  have c2 := b2.cell
  refine ⟨by simp, .inl ⟨_, _, rfl, run_takeDeferred hK, ?_⟩⟩
  refine ⟨.tuple #[.int .i64 i, .bool b], ?_, hR⟩
  simp only [Array.getD_eq_getD_getElem?] at h4 h5
  simp [results, Try.f8, go_sem, h4, h5, c1, c2]
set_option maxHeartbeats 4000000 in
set_option maxRecDepth 100000 in
theorem find_in (n : Nat) (hn : 3 ≤ n) (t : Nat) (P : List (Option Nat)) (cl : ByteArray) (w : World) (hP : Sp w t P) (nm : Nat → ByteArray) (hN : ∀ x ∈ tkS P 0, ∃ p g cn, Sn w x.2 p g (nm x.2) cn) : CallsIn Fence.wide n Try.prog 8 #[.pointer (some ⟨t, 0, none⟩), .string cl] w (FindIs nm cl (tkS P 0) w) := by
  have hf28 : Fence.wide.fn 28 := trivial
  have hf18 : Fence.wide.fn 18 := trivial
  have h1 : 1 ≤ n := by omega
  obtain ⟨S, hS⟩ : ∃ S : List {x : Nat × Nat // ∃ p g cn, Sn w x.2 p g (nm x.2) cn}, S.map Subtype.val = tkS P 0 := ⟨(tkS P 0).attachWith _ hN, List.attachWith_map_subtype_val hN⟩
  refine callsIn_of_wp_marks Try.func8 rfl trivial ?_ rfl
  simp only [Try.ntmps8, List.size_toArray, List.length_cons, List.length_nil, Nat.reduceAdd, Nat.reduceSub, Array.replicate_succ, Array.replicate_zero, List.push_toArray, List.append_toArray, List.nil_append, List.cons_append]
  gi_wp2_with (gi_at_call 28; refine (taken_in _ _ _).mono ?_; rintro e w' ⟨rfl, rfl⟩)
  generalize hW0 : ((((w.alloc _).alloc _).alloc _).alloc _) = W0
  obtain ⟨x0, x1, x2, x3, hsz, hB0⟩ := boxes4 w _ _ _ _ _ _ _ _ W0 hW0.symm
  clear hW0
  refine wpIn_rangeFunc_ownH rfl h1 (gf := 42) (lb := #[.pointer (some ⟨w.heap.size + 1 + 1 + 1, 0, none⟩)]) rfl trivial (enters_of Try.func42 (by kernel_rfl) rfl)
    (taken_stops Subtype.val S (n - 1) (by omega) (w.heap.size + 1 + 1 + 1) w.heap.size t P hS w W0 hP (Nat.le_refl _) hB0 (by omega) x3)
    kpF_t (kpF_b (by omega) (by omega)) (Below.refl _ _) (fun _ => rfl)
    (FiI Subtype.val nm cl (some ⟨t, 0, none⟩) w) (FiX Subtype.val nm cl w)
    (fiI_own _ (by omega)) (fun c => fiX_own _ (by omega))
    ⟨by simp, x0, x1, x2, x3, hB0⟩
    (fun x a' W => a' = fiA t cl w.heap.size x.val) (fun x a' => fun _ _ _ _ h _ _ => h)
    ?assign ?body ?done ?stop
  case assign =>
    rintro l0 pre x W K ⟨g1, g2, g3, g4, g5, g6⟩ hK
    gi_wp2
    exact hK _ _ (KeepsFrom.refl _ _) ⟨Below.refl _ _, rfl⟩ ⟨g1, g2, g3, g4, g5, g6⟩ rfl
  case body =>
    rintro l0 pre ⟨x, p, g, cn, hS1⟩ a' W hl0 hlr ⟨g1, g2, g3, g4, g5, g6⟩ rfl hlen
    unfold fiA
    simp only
    have CC := Lib.hid (s_client (hS1.ext g6))
    have d0 := g2.cell
    have d1 := g3.cell
    have d2 := g4.cell
    have f1 := g3.frozen
    have f2 := g4.frozen
    gi_wp2
    have h3 : 1 ≤ n - 1 - 1 := by omega
    have CD : Hid (CallsIn (Fence.wide.inRound l0) (n - 1 - 1 - 1) Try.prog 18 #[.pointer (some ⟨x.2, 0, none⟩)] W.drew fun e w' => e = .returned (.string (nm x.2)) ∧ W.drew = w') := Lib.hid (CallsIn.inRound l0 (callsIn_wide.2 (s_client ((hS1.ext g6).ext (ext_drew _)))))
    by_cases hc : nm x.2 = cl
    · have hd : ((nm x.2).toList == cl.toList) = true := by rw [hc]; simp
      replace hc := Lib.hid hc
      gi_region_with (first | (gi_at_call 18; refine CD.out.mono ?_; rintro e3 w3 ⟨rfl, rfl⟩) | (refine ⟨fun _ => h3, ?_⟩; refine CD.out.mono ?_; rintro e3 w3 ⟨rfl, rfl⟩))
      all_goals
        gi_wp2
        exact ⟨(((KeepsOthers.setCell _ _ _).trans (KeepsOthers.setCell _ _ _)).trans (KeepsOthers.drew _)).from _, pre, ⟨x, p, g, cn, hS1⟩, rfl, rfl, g1, hc.out, (g3.set _).other (by omega) _, (g4.other (by omega) _).set _, ((g6.setCell (by simp) _).setCell (by simp; omega) _).trans ((ext_drew _).mono (by have := g6.size; simp; omega))⟩
    · have hd : ((nm x.2).toList == cl.toList) = false := by
        rw [beq_eq_false_iff_ne]
        exact fun e => hc (by rw [ByteArray.toList_eq, ByteArray.toList_eq] at e; exact ByteArray.ext (Array.toList_inj.1 e))
      replace hc := Lib.hid hc
      gi_region_with (first | (gi_at_call 18; refine CD.out.mono ?_; rintro e3 w3 ⟨rfl, rfl⟩) | (refine ⟨fun _ => h3, ?_⟩; refine CD.out.mono ?_; rintro e3 w3 ⟨rfl, rfl⟩))
      all_goals
        gi_wp2
        exact ⟨(KeepsOthers.drew _).from _, ⟨(ext_drew W).mono g6.size, rfl⟩, fun y hy => (List.mem_append.1 hy).elim (g1 y) (fun e => by rw [List.mem_singleton.1 e]; exact hc.out), g2, g3, g4, g5, g6.trans ((ext_drew W).mono g6.size)⟩
  case done =>
    rintro D ys W hD rfl ⟨g1, g2, g3, g4, g5, g6⟩ hKD
    have e0 : fnd nm cl (tkS P 0) = (0, false) := by rw [← hS]; exact fnd_none (fun y hy => by obtain ⟨a, ha, rfl⟩ := List.mem_map.1 hy; exact g1 a ha)
    have d1 := g3.cell
    have d2 := g4.cell
    have f1 := g3.frozen
    have f2 := g4.frozen
    gi_wp2
    refine finish8 (B := w.heap.size) (i := 0) (b := false) ?_ ((g3.set _).other (by omega) _) ((g4.other (by omega) _).set _) (by omega) ⟨by rw [e0], ?_⟩
    · exact ((KeepsOthers.setCell _ _ _).trans (KeepsOthers.setCell _ _ _)).same D _ hKD rfl
    · exact below_put ((g6.setCell (by simp) _).setCell (by simp; omega) _) (by omega) (((KeepsOthers.setCell _ _ _).trans (KeepsOthers.setCell _ _ _)).same D _ hKD rfl) rfl
  case stop =>
    rintro D c pre W hD ⟨tl, hS2⟩ ⟨ini, x, rfl, rfl, h3, h4, h5, h6, h7⟩ hKD
    have e0 : fnd nm cl (tkS P 0) = ((x.val.1 : Int), true) := by rw [← hS, hS2, List.append_assoc, List.singleton_append, List.map_append, List.map_cons]; exact fnd_here h4 (fun y hy => by obtain ⟨a, ha, rfl⟩ := List.mem_map.1 hy; exact h3 a ha)
    have d1 := h5.cell
    have d2 := h6.cell
    gi_wp2
    exact finish8 (B := w.heap.size) hKD h5 h6 (by omega) ⟨by rw [e0], below_put h7 (by omega) hKD rfl⟩
theorem find_any (t : Nat) (P : List (Option Nat)) (cl : ByteArray) (w : World) (hP : Sp w t P) (nm : Nat → ByteArray) (hN : ∀ x ∈ tkS P 0, ∃ p g cn, Sn w x.2 p g (nm x.2) cn) : Calls Try.prog 8 #[.pointer (some ⟨t, 0, none⟩), .string cl] w (FindIs nm cl (tkS P 0) w) :=
  callsIn_wide.1 (find_in 3 (Nat.le_refl _) t P cl w hP nm hN)
end Go.Proofs.Ytdcfenkllpfbaaa.Sns
