/-
  LAYER 13: why one may not come so, of both sides.
-/
import Derived.Test.YtmpklaokgogigaaDoorSk
import Derived.Test.YtmpklaokgogigaaDoorUm
import Derived.Outline
import Derived.Deep.DeepMust
import Derived.FnLit
import Derived.Laws.EntriesVeiled
import Derived.Deep.QuietTactic
import Derived.BigQuiet
import Derived.LoopTactic
import Derived.Test.YtmpklaokgogigaaDoorBlk
namespace Go.Proofs.YtmpklaokgogigaaDoor
set_option linter.unusedSimpArgs false
set_option linter.unusedVariables false
open Go.RowKit
def Numb (l : List Nat) (x : Int) (w : World) (e : Ending) (w' : World) : Prop := ∃ v, e = .returned (.tuple #[v, .int .i64 x]) ∧ BytesAt w' v l ∧ Below w.heap.size w w'
theorem lit_two (w : World) (x y : Nat) : BytesAt (w.alloc (.cells #[.int .u8 (x : Int), .int .u8 (y : Int)] 5)) (.slice (some ⟨w.heap.size, 0, none⟩) 2 2) [x, y] := by
  refine ⟨some ⟨w.heap.size, 0, none⟩, 2, rfl, ⟨by simp, fun h => by cases h⟩, .inr ⟨w.heap.size, 0, rfl, by simp, fun i hi => ?_⟩⟩
  have : i = 0 ∨ i = 1 := by simp at hi; omega
  rcases this with rfl | rfl
  · rw [World.cell?_alloc_at _ _ _ _ rfl]; rfl
  · rw [World.cell?_alloc_at _ _ _ _ rfl]; rfl

def con (L : Int) (cl : Bool) (K : Int) (id : ByteArray) (hw : Bool) (wt wx : ByteArray) (wq : Int) (wr : Bool) (hu : Bool) (u : ByteArray) (hp : Bool) (p : ByteArray) : Value :=
  .agg #[.int .i64 L, .bool cl, .int .i64 K, .string id, .bool hw, .string wt, .string wx, .int .i64 wq, .bool wr, .bool hu, .string u, .bool hp, .string p]
def zmsg (wt wx : ByteArray) (wq : Int) (wr : Bool) : Bool := decide (wt.size = 0) && decide (wx.size = 0) && decide (wq = 0) && !wr
theorem size0 {s : ByteArray} (h : s.size = 0) : s = ⟨#[]⟩ := by
  obtain ⟨⟨l⟩⟩ := s
  cases l with
  | nil => rfl
  | cons a l => simp [ByteArray.size] at h
theorem size1 {s : ByteArray} (h : s.size ≠ 0) : s.toList.isEmpty = false := by
  rw [ByteArray.toList_eq]
  obtain ⟨⟨l⟩⟩ := s
  cases l with
  | nil => simp [ByteArray.size] at h
  | cons a l => rfl
theorem toL0 (s : ByteArray) : (s.toList = []) = (s.size = 0) := by
  rw [ByteArray.toList_eq]
  obtain ⟨⟨l⟩⟩ := s
  cases l <;> simp [ByteArray.size]
theorem msg_neq (wt wx : ByteArray) (wq : Int) (wr : Bool) (w : World) : (binOp .neq 27 (.agg #[.string wt, .string wx, .int .i64 wq, .bool wr]) (.agg #[.string ⟨#[]⟩, .string ⟨#[]⟩, .int .i64 0, .bool false])).run Tryd.prog w = .ok (.bool (!(zmsg wt wx wq wr))) w := by
  simp only [binOp]
  simp [go_sem, Op.equal, Op.maxDepth]
  unfold zmsg
  simp only [← toL0]
  by_cases a : wt.toList = [] <;> by_cases b : wx.toList = [] <;> by_cases c : wq = 0 <;> cases wr <;> simp only [a, b, c] <;> rfl
theorem zmsg_iff {wt wx : ByteArray} {wq : Int} {wr : Bool} (h : zmsg wt wx wq wr = true) : wt = ⟨#[]⟩ ∧ wx = ⟨#[]⟩ ∧ wq = 0 ∧ wr = false := by
  unfold zmsg at h
  simp only [Bool.and_eq_true, decide_eq_true_eq, Bool.not_eq_true'] at h
  exact ⟨size0 h.1.1.1, size0 h.1.1.2, h.1.2, h.2⟩
def Wrong (E : Int) (w : World) (e : Ending) (w' : World) : Prop := e = .returned (.int .i64 E) ∧ Below w.heap.size w w'
set_option maxRecDepth 100000 in
theorem wr55_1 (L : Int) (cl : Bool) (K : Int) (id : ByteArray) (hw : Bool) (wt : ByteArray) (wx : ByteArray) (wq : Int) (wr : Bool) (hu : Bool) (u : ByteArray) (hp : Bool) (p : ByteArray) (w : World) (h : L ≠ 4) : Calls Tryd.prog 94 #[con L cl K id hw wt wx wq wr hu u hp p] w (Wrong 15 w) := by
  unfold con Wrong
  have h' : (L != 4) = true := by simpa using h
  replace h := Lib.hid h
  go_enter Tryd.func94, Tryd.ntmps94
  go_wp2
  go_ret
  exact ⟨rfl, ext_alloc _ _⟩
set_option maxRecDepth 100000 in
theorem wr55_2 (cl : Bool) (K : Int) (id : ByteArray) (hw : Bool) (wt : ByteArray) (wx : ByteArray) (wq : Int) (wr : Bool) (hu : Bool) (u : ByteArray) (hp : Bool) (p : ByteArray) (w : World) (h : K < 0 ∨ (0 ≤ K ∧ 65535 < K)) : Calls Tryd.prog 94 #[con 4 cl K id hw wt wx wq wr hu u hp p] w (Wrong 1 w) := by
  unfold con Wrong
  rcases h with h | ⟨h, h1⟩
  all_goals
    go_enter Tryd.func94, Tryd.ntmps94
    go_wp2
    go_ret
    exact ⟨rfl, ext_alloc _ _⟩
set_option maxRecDepth 100000 in
theorem wr55_3 (cl : Bool) (K : Int) (id : ByteArray) (hw : Bool) (wt : ByteArray) (wx : ByteArray) (wq : Int) (wr : Bool) (hu : Bool) (u : ByteArray) (hp : Bool) (p : ByteArray) (w : World) (h : 0 ≤ K) (h1 : K ≤ 65535) (h2 : wq < 0 ∨ (0 ≤ wq ∧ 2 < wq)) : Calls Tryd.prog 94 #[con 4 cl K id hw wt wx wq wr hu u hp p] w (Wrong 10 w) := by
  unfold con Wrong
  rcases h2 with h2 | ⟨h2, h3⟩
  all_goals
    go_enter Tryd.func94, Tryd.ntmps94
    go_wp2
    go_ret
    exact ⟨rfl, ext_alloc _ _⟩
set_option maxRecDepth 100000 in
theorem wr55_4 (cl : Bool) (K : Int) (id : ByteArray) (hw : Bool) (wt : ByteArray) (wx : ByteArray) (wq : Int) (wr : Bool) (u : ByteArray) (p : ByteArray) (w : World) (h : 0 ≤ K) (h1 : K ≤ 65535)(h2 : 0 ≤ wq) (h3 : wq ≤ 2) : Calls Tryd.prog 94 #[con 4 cl K id hw wt wx wq wr false u true p] w (Wrong 10 w) := by
  unfold con Wrong
  go_enter Tryd.func94, Tryd.ntmps94
  go_wp2
  go_ret
  exact ⟨rfl, ext_alloc _ _⟩
set_option maxRecDepth 100000 in
theorem wr55_5 (cl : Bool) (K : Int) (id : ByteArray) (wt : ByteArray) (wx : ByteArray) (wq : Int) (wr : Bool) (hu : Bool) (u : ByteArray) (hp : Bool) (p : ByteArray) (w : World) (h : 0 ≤ K) (h1 : K ≤ 65535)(h2 : 0 ≤ wq) (h3 : wq ≤ 2) (hd : hp = true → hu = true) (kz : zmsg wt wx wq wr = false) : Calls Tryd.prog 94 #[con 4 cl K id false wt wx wq wr hu u hp p] w (Wrong 4 w) := by
  unfold con Wrong
  have kn := fun w => msg_neq wt wx wq wr w
  rw [kz] at kn
  clear kz
  cases hp
  · clear hd
    cases hu
    all_goals
      go_enter Tryd.func94, Tryd.ntmps94
      go_wp2
      go_ret
      exact ⟨rfl, ext_alloc _ _⟩
  · obtain rfl := hd rfl
    clear hd
    go_enter Tryd.func94, Tryd.ntmps94
    go_wp2
    go_ret
    exact ⟨rfl, ext_alloc _ _⟩
set_option maxRecDepth 100000 in
theorem wr55_6a (cl : Bool) (K : Int) (id : ByteArray) (wt : ByteArray) (wx : ByteArray) (wq : Int) (wr : Bool) (u : ByteArray) (p : ByteArray) (w : World) (h : 0 ≤ K) (h1 : K ≤ 65535)(h2 : 0 ≤ wq) (h3 : wq ≤ 2)(he : u.size ≠ 0) : Calls Tryd.prog 94 #[con 4 cl K id true wt wx wq wr false u false p] w (Wrong 4 w) := by
  unfold con Wrong
  have he := size1 he
  go_enter Tryd.func94, Tryd.ntmps94
  go_wp2
  go_ret
  exact ⟨rfl, ext_alloc _ _⟩
set_option maxRecDepth 100000 in
theorem wr55_6b (cl : Bool) (K : Int) (id : ByteArray) (u : ByteArray) (p : ByteArray) (w : World) (h : 0 ≤ K) (h1 : K ≤ 65535)(he : u.size ≠ 0) : Calls Tryd.prog 94 #[con 4 cl K id false ⟨#[]⟩ ⟨#[]⟩ 0 false false u false p] w (Wrong 4 w) := by
  unfold con Wrong
  have he := size1 he
  go_enter Tryd.func94, Tryd.ntmps94
  go_wp2
  go_ret
  exact ⟨rfl, ext_alloc _ _⟩
set_option maxRecDepth 100000 in
theorem wr55_7a (cl : Bool) (K : Int) (id : ByteArray) (wt : ByteArray) (wx : ByteArray) (wq : Int) (wr : Bool) (u : ByteArray) (p : ByteArray) (w : World) (h : 0 ≤ K) (h1 : K ≤ 65535)(h2 : 0 ≤ wq) (h3 : wq ≤ 2)(he : p.size ≠ 0) : Calls Tryd.prog 94 #[con 4 cl K id true wt wx wq wr true u false p] w (Wrong 4 w) := by
  unfold con Wrong
  have he := size1 he
  go_enter Tryd.func94, Tryd.ntmps94
  go_wp2
  go_ret
  exact ⟨rfl, ext_alloc _ _⟩
set_option maxRecDepth 100000 in
theorem wr55_7b (cl : Bool) (K : Int) (id : ByteArray) (u : ByteArray) (p : ByteArray) (w : World) (h : 0 ≤ K) (h1 : K ≤ 65535)(he : p.size ≠ 0) : Calls Tryd.prog 94 #[con 4 cl K id false ⟨#[]⟩ ⟨#[]⟩ 0 false true u false p] w (Wrong 4 w) := by
  unfold con Wrong
  have he := size1 he
  go_enter Tryd.func94, Tryd.ntmps94
  go_wp2
  go_ret
  exact ⟨rfl, ext_alloc _ _⟩
set_option maxRecDepth 100000 in
theorem wr55_7c (cl : Bool) (K : Int) (id : ByteArray) (wt : ByteArray) (wx : ByteArray) (wq : Int) (wr : Bool) (p : ByteArray) (w : World) (h : 0 ≤ K) (h1 : K ≤ 65535)(h2 : 0 ≤ wq) (h3 : wq ≤ 2)(he : p.size ≠ 0) : Calls Tryd.prog 94 #[con 4 cl K id true wt wx wq wr false ⟨#[]⟩ false p] w (Wrong 4 w) := by
  unfold con Wrong
  have he := size1 he
  go_enter Tryd.func94, Tryd.ntmps94
  go_wp2
  go_ret
  exact ⟨rfl, ext_alloc _ _⟩
set_option maxRecDepth 100000 in
theorem wr55_7d (cl : Bool) (K : Int) (id : ByteArray) (p : ByteArray) (w : World) (h : 0 ≤ K) (h1 : K ≤ 65535)(he : p.size ≠ 0) : Calls Tryd.prog 94 #[con 4 cl K id false ⟨#[]⟩ ⟨#[]⟩ 0 false false ⟨#[]⟩ false p] w (Wrong 4 w) := by
  unfold con Wrong
  have he := size1 he
  go_enter Tryd.func94, Tryd.ntmps94
  go_wp2
  go_ret
  exact ⟨rfl, ext_alloc _ _⟩
set_option maxRecDepth 100000 in
theorem wr55_8aw (cl : Bool) (K : Int) (id : ByteArray) (wt : ByteArray) (wx : ByteArray) (wq : Int) (wr : Bool) (u : ByteArray) (p : ByteArray) (w : World) (h : 0 ≤ K) (h1 : K ≤ 65535)(h2 : 0 ≤ wq) (h3 : wq ≤ 2) : Calls Tryd.prog 94 #[con 4 cl K id true wt wx wq wr true u true p] w (Wrong 0 w) := by
  unfold con Wrong
  go_enter Tryd.func94, Tryd.ntmps94
  go_wp2
  go_ret
  exact ⟨rfl, ext_alloc _ _⟩
set_option maxRecDepth 100000 in
theorem wr55_8an (cl : Bool) (K : Int) (id : ByteArray) (u : ByteArray) (p : ByteArray) (w : World) (h : 0 ≤ K) (h1 : K ≤ 65535) : Calls Tryd.prog 94 #[con 4 cl K id false ⟨#[]⟩ ⟨#[]⟩ 0 false true u true p] w (Wrong 0 w) := by
  unfold con Wrong
  go_enter Tryd.func94, Tryd.ntmps94
  go_wp2
  go_ret
  exact ⟨rfl, ext_alloc _ _⟩
set_option maxRecDepth 100000 in
theorem wr55_8bw (cl : Bool) (K : Int) (id : ByteArray) (wt : ByteArray) (wx : ByteArray) (wq : Int) (wr : Bool) (u : ByteArray) (w : World) (h : 0 ≤ K) (h1 : K ≤ 65535)(h2 : 0 ≤ wq) (h3 : wq ≤ 2) : Calls Tryd.prog 94 #[con 4 cl K id true wt wx wq wr true u false ⟨#[]⟩] w (Wrong 0 w) := by
  unfold con Wrong
  go_enter Tryd.func94, Tryd.ntmps94
  go_wp2
  go_ret
  exact ⟨rfl, ext_alloc _ _⟩
set_option maxRecDepth 100000 in
theorem wr55_8bn (cl : Bool) (K : Int) (id : ByteArray) (u : ByteArray) (w : World) (h : 0 ≤ K) (h1 : K ≤ 65535) : Calls Tryd.prog 94 #[con 4 cl K id false ⟨#[]⟩ ⟨#[]⟩ 0 false true u false ⟨#[]⟩] w (Wrong 0 w) := by
  unfold con Wrong
  go_enter Tryd.func94, Tryd.ntmps94
  go_wp2
  go_ret
  exact ⟨rfl, ext_alloc _ _⟩
set_option maxRecDepth 100000 in
theorem wr55_8cw (cl : Bool) (K : Int) (id : ByteArray) (wt : ByteArray) (wx : ByteArray) (wq : Int) (wr : Bool) (w : World) (h : 0 ≤ K) (h1 : K ≤ 65535)(h2 : 0 ≤ wq) (h3 : wq ≤ 2) : Calls Tryd.prog 94 #[con 4 cl K id true wt wx wq wr false ⟨#[]⟩ false ⟨#[]⟩] w (Wrong 0 w) := by
  unfold con Wrong
  go_enter Tryd.func94, Tryd.ntmps94
  go_wp2
  go_ret
  exact ⟨rfl, ext_alloc _ _⟩
set_option maxRecDepth 100000 in
theorem wr55_8cn (cl : Bool) (K : Int) (id : ByteArray) (w : World) (h : 0 ≤ K) (h1 : K ≤ 65535) : Calls Tryd.prog 94 #[con 4 cl K id false ⟨#[]⟩ ⟨#[]⟩ 0 false false ⟨#[]⟩ false ⟨#[]⟩] w (Wrong 0 w) := by
  unfold con Wrong
  go_enter Tryd.func94, Tryd.ntmps94
  go_wp2
  go_ret
  exact ⟨rfl, ext_alloc _ _⟩
def conE (L : Int) (K : Int) (hw : Bool) (wt wx : ByteArray) (wq : Int) (wr : Bool) (hu : Bool) (u : ByteArray) (hp : Bool) (p : ByteArray) : Int :=
  if L ≠ 4 then 15 else if K < 0 ∨ 65535 < K then 1 else if (wq < 0 ∨ 2 < wq) ∨ (hp = true ∧ hu = false) then 10
  else if (hw = false ∧ zmsg wt wx wq wr = false) ∨ (hu = false ∧ u.size ≠ 0) ∨ (hp = false ∧ p.size ≠ 0) then 4 else 0
theorem wrongs55 (L : Int) (cl : Bool) (K : Int) (id : ByteArray) (hw : Bool) (wt wx : ByteArray) (wq : Int) (wr : Bool) (hu : Bool) (u : ByteArray) (hp : Bool) (p : ByteArray) (w : World) :
    Calls Tryd.prog 94 #[con L cl K id hw wt wx wq wr hu u hp p] w (Wrong (conE L K hw wt wx wq wr hu u hp p) w) := by
  unfold conE
  by_cases a : L ≠ 4
  · rw [if_pos a]; exact wr55_1 _ _ _ _ _ _ _ _ _ _ _ _ _ _ a
  rw [if_neg a]
  obtain rfl : L = 4 := by omega
  by_cases b : K < 0 ∨ 65535 < K
  · rw [if_pos b]; exact wr55_2 _ _ _ _ _ _ _ _ _ _ _ _ _ (by omega)
  rw [if_neg b]
  by_cases c : (wq < 0 ∨ 2 < wq) ∨ (hp = true ∧ hu = false)
  · rw [if_pos c]
    by_cases c' : wq < 0 ∨ 2 < wq
    · exact wr55_3 _ _ _ _ _ _ _ _ _ _ _ _ _ (by omega) (by omega) (by omega)
    · obtain ⟨rfl, rfl⟩ := c.resolve_left c'
      exact wr55_4 _ _ _ _ _ _ _ _ _ _ _ (by omega) (by omega) (by omega) (by omega)
  rw [if_neg c]
  have c1 : 0 ≤ wq := by omega
  have c2 : wq ≤ 2 := by omega
  have c3 : hp = true → hu = true := by
    intro h; cases hu with
    | true => rfl
    | false => exact absurd (Or.inr ⟨h, rfl⟩) c
  have b1 : 0 ≤ K := by omega
  have b2 : K ≤ 65535 := by omega
  clear a b c
  by_cases d : hw = false ∧ zmsg wt wx wq wr = false
  · rw [if_pos (Or.inl d)]
    obtain ⟨rfl, d⟩ := d
    exact wr55_5 _ _ _ _ _ _ _ _ _ _ _ _ b1 b2 c1 c2 c3 d
  have d' : hw = true ∨ (hw = false ∧ wt = ⟨#[]⟩ ∧ wx = ⟨#[]⟩ ∧ wq = 0 ∧ wr = false) := by
    cases hw with
    | true => exact .inl rfl
    | false => exact .inr ⟨rfl, zmsg_iff (by cases h : zmsg wt wx wq wr with | true => rfl | false => exact absurd ⟨rfl, h⟩ d)⟩
  by_cases x : hu = false ∧ u.size ≠ 0
  · rw [if_pos (Or.inr (Or.inl x))]
    obtain ⟨rfl, x⟩ := x
    have : hp = false := by cases hp with | false => rfl | true => exact absurd (c3 rfl) (by decide)
    subst this
    rcases d' with rfl | ⟨rfl, rfl, rfl, rfl, rfl⟩
    · exact wr55_6a _ _ _ _ _ _ _ _ _ _ b1 b2 c1 c2 x
    · exact wr55_6b _ _ _ _ _ _ b1 b2 x
  have x' : hu = true ∨ (hu = false ∧ u = ⟨#[]⟩) := by
    cases hu with
    | true => exact .inl rfl
    | false => exact .inr ⟨rfl, size0 (by by_cases h : u.size = 0; exact h; exact absurd ⟨rfl, h⟩ x)⟩
  by_cases y : hp = false ∧ p.size ≠ 0
  · rw [if_pos (Or.inr (Or.inr y))]
    obtain ⟨rfl, y⟩ := y
    rcases x' with rfl | ⟨rfl, rfl⟩
    · rcases d' with rfl | ⟨rfl, rfl, rfl, rfl, rfl⟩
      · exact wr55_7a _ _ _ _ _ _ _ _ _ _ b1 b2 c1 c2 y
      · exact wr55_7b _ _ _ _ _ _ b1 b2 y
    · rcases d' with rfl | ⟨rfl, rfl, rfl, rfl, rfl⟩
      · exact wr55_7c _ _ _ _ _ _ _ _ _ b1 b2 c1 c2 y
      · exact wr55_7d _ _ _ _ _ b1 b2 y
  rw [if_neg (by rintro (h | h | h); exact d h; exact x h; exact y h)]
  have y' : hp = true ∨ (hp = false ∧ p = ⟨#[]⟩) := by
    cases hp with
    | true => exact .inl rfl
    | false => exact .inr ⟨rfl, size0 (by by_cases h : p.size = 0; exact h; exact absurd ⟨rfl, h⟩ y)⟩
  clear d x y
  rcases y' with rfl | ⟨rfl, rfl⟩
  · obtain rfl := c3 rfl
    rcases d' with rfl | ⟨rfl, rfl, rfl, rfl, rfl⟩
    · exact wr55_8aw _ _ _ _ _ _ _ _ _ _ b1 b2 c1 c2
    · exact wr55_8an _ _ _ _ _ _ b1 b2
  · rcases x' with rfl | ⟨rfl, rfl⟩
    · rcases d' with rfl | ⟨rfl, rfl, rfl, rfl, rfl⟩
      · exact wr55_8bw _ _ _ _ _ _ _ _ _ b1 b2 c1 c2
      · exact wr55_8bn _ _ _ _ _ b1 b2
    · rcases d' with rfl | ⟨rfl, rfl, rfl, rfl, rfl⟩
      · exact wr55_8cw _ _ _ _ _ _ _ _ b1 b2 c1 c2
      · exact wr55_8cn _ _ _ _ b1 b2
end Go.Proofs.YtmpklaokgogigaaDoor

/-
  LAYER 13: the flags of who comes, of both sides.
-/
namespace Go.Proofs.YtmpklaokgogigaaDoor
set_option linter.unusedSimpArgs false
set_option linter.unusedVariables false
open Go.RowKit

def b2 (b : Bool) (n : Nat) : Nat := if b then n else 0
/-- The flags behind k of the five rounds. -/
def fl (q : Nat) (cl hw rb hp hu : Bool) (k : Nat) : Nat :=
  8 * q + (if 0 < k then b2 cl 2 else 0) + (if 1 < k then b2 hw 4 else 0) + (if 2 < k then b2 rb 32 else 0) + (if 3 < k then b2 hp 64 else 0) + (if 4 < k then b2 hu 128 else 0)
theorem fl_lt : ∀ (q : Fin 3) (cl hw rb hp hu : Bool) (k : Fin 6), fl q cl hw rb hp hu k < 256 := by decide +kernel
theorem fl_or : ∀ (q : Fin 3) (cl hw rb hp hu : Bool), (cl = true → fl q cl hw rb hp hu 0 ||| 2 = fl q cl hw rb hp hu 1) ∧ (hw = true → fl q cl hw rb hp hu 1 ||| 4 = fl q cl hw rb hp hu 2) ∧
    (rb = true → fl q cl hw rb hp hu 2 ||| 32 = fl q cl hw rb hp hu 3) ∧ (hp = true → fl q cl hw rb hp hu 3 ||| 64 = fl q cl hw rb hp hu 4) ∧ (hu = true → fl q cl hw rb hp hu 4 ||| 128 = fl q cl hw rb hp hu 5) := by decide +kernel
theorem fl_no : ∀ (q : Fin 3) (cl hw rb hp hu : Bool), (cl = false → fl q cl hw rb hp hu 0 = fl q cl hw rb hp hu 1) ∧ (hw = false → fl q cl hw rb hp hu 1 = fl q cl hw rb hp hu 2) ∧
    (rb = false → fl q cl hw rb hp hu 2 = fl q cl hw rb hp hu 3) ∧ (hp = false → fl q cl hw rb hp hu 3 = fl q cl hw rb hp hu 4) ∧ (hu = false → fl q cl hw rb hp hu 4 = fl q cl hw rb hp hu 5) := by decide +kernel
set_option maxRecDepth 100000 in
set_option maxHeartbeats 1000000 in
theorem flags_any (L : Int) (cl : Bool) (K : Int) (id : ByteArray) (hw : Bool) (wt wx : ByteArray) (q : Nat) (rb : Bool) (hu : Bool) (u : ByteArray) (hp : Bool) (p : ByteArray) (w : World) (hq : q < 3) :
    Calls Tryd.prog 97 #[con L cl K id hw wt wx q rb hu u hp p] w fun e w' => e = .returned (.int .u8 (fl q cl hw rb hp hu 5 : Nat)) ∧ Below w.heap.size w w' := by
  have hq' : (q : Int) ≤ 2 := by omega
  unfold con
  go_enter Tryd.func97, Tryd.ntmps97
  go_wp2
  go_loopw [3, 27] (fun n i wr => ∃ k : Nat, k ≤ 5 ∧ i = .int .i64 k ∧ n = .int .i64 (fl q cl hw rb hp hu k : Nat) ∧ Below w.heap.size w wr) (fun _ i _ => 5 - (intOf i).toNat)
  case atStart => exact ⟨0, by decide, rfl, by simp [fl], ext_alloc _ _⟩
  case round =>
    obtain ⟨k, hk, rfl, rfl, hb⟩ := hrel
    have : k = 0 ∨ k = 1 ∨ k = 2 ∨ k = 3 ∨ k = 4 ∨ k = 5 := by omega
    rcases this with rfl | rfl | rfl | rfl | rfl | rfl
    · have ix : ∀ w, (Instr.index 147 (.agg #[.bool cl, .int .i64 2, .bool hw, .int .i64 4, .bool rb, .int .i64 32, .bool hp, .int .i64 64, .bool hu, .int .i64 128]) (.int .i64 0)).run Tryd.prog w = .ok (.agg #[.bool cl, .int .i64 2]) w := fun _ => by kernel_rfl
      have N := fl_no ⟨q, hq⟩ cl hw rb hp hu
      have O := fl_or ⟨q, hq⟩ cl hw rb hp hu
      simp only at N O
      have N := Lib.hid N.1
      have O := Lib.hid O.1
      have T := Lib.hid (fl_lt ⟨q, hq⟩ cl hw rb hp hu ⟨0, by decide⟩)
      have T1 : (0 : Int) ≤ (fl q cl hw rb hp hu 0 : Nat) := by omega
      have T2 : (fl q cl hw rb hp hu 0 : Nat) < 256 := T.out
      have or : bits .or .i64 ((fl q cl hw rb hp hu 0 : Nat) : Int) 2 = ((fl q cl hw rb hp hu 0 ||| 2 : Nat) : Int) := i64_or_nat _ 2 (by omega) (by decide)
      generalize gx : fl q cl hw rb hp hu 0 = x at *
      generalize gy : fl q cl hw rb hp hu 1 = y at *
      replace gx := Lib.hid gx
      replace gy := Lib.hid gy
      cases cl
      · clear or O
        go_wp2
        go_roundw
        case rel => exact ⟨1, by decide, rfl, by rw [gy.out, N.out rfl], hb.alloc hb.size _⟩
        case measure => simp [intOf]
      · have E := O.out rfl
        rw [E] at or
        clear E
        clear O N
        go_wp2
        go_roundw
        case rel => exact ⟨1, by decide, rfl, by rw [gy.out], hb.alloc hb.size _⟩
        case measure => simp [intOf]
    · have ix : ∀ w, (Instr.index 147 (.agg #[.bool cl, .int .i64 2, .bool hw, .int .i64 4, .bool rb, .int .i64 32, .bool hp, .int .i64 64, .bool hu, .int .i64 128]) (.int .i64 1)).run Tryd.prog w = .ok (.agg #[.bool hw, .int .i64 4]) w := fun _ => by kernel_rfl
      have N := fl_no ⟨q, hq⟩ cl hw rb hp hu
      have O := fl_or ⟨q, hq⟩ cl hw rb hp hu
      simp only at N O
      have N := Lib.hid N.2.1
      have O := Lib.hid O.2.1
      have T := Lib.hid (fl_lt ⟨q, hq⟩ cl hw rb hp hu ⟨1, by decide⟩)
      have T1 : (0 : Int) ≤ (fl q cl hw rb hp hu 1 : Nat) := by omega
      have T2 : (fl q cl hw rb hp hu 1 : Nat) < 256 := T.out
      have or : bits .or .i64 ((fl q cl hw rb hp hu 1 : Nat) : Int) 4 = ((fl q cl hw rb hp hu 1 ||| 4 : Nat) : Int) := i64_or_nat _ 4 (by omega) (by decide)
      generalize gx : fl q cl hw rb hp hu 1 = x at *
      generalize gy : fl q cl hw rb hp hu 2 = y at *
      replace gx := Lib.hid gx
      replace gy := Lib.hid gy
      cases hw
      · clear or O
        go_wp2
        go_roundw
        case rel => exact ⟨2, by decide, rfl, by rw [gy.out, N.out rfl], hb.alloc hb.size _⟩
        case measure => simp [intOf]
      · have E := O.out rfl
        rw [E] at or
        clear E
        clear O N
        go_wp2
        go_roundw
        case rel => exact ⟨2, by decide, rfl, by rw [gy.out], hb.alloc hb.size _⟩
        case measure => simp [intOf]
    · have ix : ∀ w, (Instr.index 147 (.agg #[.bool cl, .int .i64 2, .bool hw, .int .i64 4, .bool rb, .int .i64 32, .bool hp, .int .i64 64, .bool hu, .int .i64 128]) (.int .i64 2)).run Tryd.prog w = .ok (.agg #[.bool rb, .int .i64 32]) w := fun _ => by kernel_rfl
      have N := fl_no ⟨q, hq⟩ cl hw rb hp hu
      have O := fl_or ⟨q, hq⟩ cl hw rb hp hu
      simp only at N O
      have N := Lib.hid N.2.2.1
      have O := Lib.hid O.2.2.1
      have T := Lib.hid (fl_lt ⟨q, hq⟩ cl hw rb hp hu ⟨2, by decide⟩)
      have T1 : (0 : Int) ≤ (fl q cl hw rb hp hu 2 : Nat) := by omega
      have T2 : (fl q cl hw rb hp hu 2 : Nat) < 256 := T.out
      have or : bits .or .i64 ((fl q cl hw rb hp hu 2 : Nat) : Int) 32 = ((fl q cl hw rb hp hu 2 ||| 32 : Nat) : Int) := i64_or_nat _ 32 (by omega) (by decide)
      generalize gx : fl q cl hw rb hp hu 2 = x at *
      generalize gy : fl q cl hw rb hp hu 3 = y at *
      replace gx := Lib.hid gx
      replace gy := Lib.hid gy
      cases rb
      · clear or O
        go_wp2
        go_roundw
        case rel => exact ⟨3, by decide, rfl, by rw [gy.out, N.out rfl], hb.alloc hb.size _⟩
        case measure => simp [intOf]
      · have E := O.out rfl
        rw [E] at or
        clear E
        clear O N
        go_wp2
        go_roundw
        case rel => exact ⟨3, by decide, rfl, by rw [gy.out], hb.alloc hb.size _⟩
        case measure => simp [intOf]
    · have ix : ∀ w, (Instr.index 147 (.agg #[.bool cl, .int .i64 2, .bool hw, .int .i64 4, .bool rb, .int .i64 32, .bool hp, .int .i64 64, .bool hu, .int .i64 128]) (.int .i64 3)).run Tryd.prog w = .ok (.agg #[.bool hp, .int .i64 64]) w := fun _ => by kernel_rfl
      have N := fl_no ⟨q, hq⟩ cl hw rb hp hu
      have O := fl_or ⟨q, hq⟩ cl hw rb hp hu
      simp only at N O
      have N := Lib.hid N.2.2.2.1
      have O := Lib.hid O.2.2.2.1
      have T := Lib.hid (fl_lt ⟨q, hq⟩ cl hw rb hp hu ⟨3, by decide⟩)
      have T1 : (0 : Int) ≤ (fl q cl hw rb hp hu 3 : Nat) := by omega
      have T2 : (fl q cl hw rb hp hu 3 : Nat) < 256 := T.out
      have or : bits .or .i64 ((fl q cl hw rb hp hu 3 : Nat) : Int) 64 = ((fl q cl hw rb hp hu 3 ||| 64 : Nat) : Int) := i64_or_nat _ 64 (by omega) (by decide)
      generalize gx : fl q cl hw rb hp hu 3 = x at *
      generalize gy : fl q cl hw rb hp hu 4 = y at *
      replace gx := Lib.hid gx
      replace gy := Lib.hid gy
      cases hp
      · clear or O
        go_wp2
        go_roundw
        case rel => exact ⟨4, by decide, rfl, by rw [gy.out, N.out rfl], hb.alloc hb.size _⟩
        case measure => simp [intOf]
      · have E := O.out rfl
        rw [E] at or
        clear E
        clear O N
        go_wp2
        go_roundw
        case rel => exact ⟨4, by decide, rfl, by rw [gy.out], hb.alloc hb.size _⟩
        case measure => simp [intOf]
    · have ix : ∀ w, (Instr.index 147 (.agg #[.bool cl, .int .i64 2, .bool hw, .int .i64 4, .bool rb, .int .i64 32, .bool hp, .int .i64 64, .bool hu, .int .i64 128]) (.int .i64 4)).run Tryd.prog w = .ok (.agg #[.bool hu, .int .i64 128]) w := fun _ => by kernel_rfl
      have N := fl_no ⟨q, hq⟩ cl hw rb hp hu
      have O := fl_or ⟨q, hq⟩ cl hw rb hp hu
      simp only at N O
      have N := Lib.hid N.2.2.2.2
      have O := Lib.hid O.2.2.2.2
      have T := Lib.hid (fl_lt ⟨q, hq⟩ cl hw rb hp hu ⟨4, by decide⟩)
      have T1 : (0 : Int) ≤ (fl q cl hw rb hp hu 4 : Nat) := by omega
      have T2 : (fl q cl hw rb hp hu 4 : Nat) < 256 := T.out
      have or : bits .or .i64 ((fl q cl hw rb hp hu 4 : Nat) : Int) 128 = ((fl q cl hw rb hp hu 4 ||| 128 : Nat) : Int) := i64_or_nat _ 128 (by omega) (by decide)
      generalize gx : fl q cl hw rb hp hu 4 = x at *
      generalize gy : fl q cl hw rb hp hu 5 = y at *
      replace gx := Lib.hid gx
      replace gy := Lib.hid gy
      cases hu
      · clear or O
        go_wp2
        go_roundw
        case rel => exact ⟨5, by decide, rfl, by rw [gy.out, N.out rfl], hb.alloc hb.size _⟩
        case measure => simp [intOf]
      · have E := O.out rfl
        rw [E] at or
        clear E
        clear O N
        go_wp2
        go_roundw
        case rel => exact ⟨5, by decide, rfl, by rw [gy.out], hb.alloc hb.size _⟩
        case measure => simp [intOf]
    · have T := fl_lt ⟨q, hq⟩ cl hw rb hp hu ⟨5, by decide⟩
      simp only at T
      generalize gx : fl q cl hw rb hp hu 5 = x at *
      replace gx := Lib.hid gx
      go_wp2
      go_ret
      exact ⟨by rw [gx.out]; rfl, hb⟩
theorem fl5 (q : Nat) (cl hw rb hp hu : Bool) : fl q cl hw rb hp hu 5 = 8 * q + b2 cl 2 + b2 hw 4 + b2 rb 32 + b2 hp 64 + b2 hu 128 := by simp [fl]
end Go.Proofs.YtmpklaokgogigaaDoor

/-
  LAYER 13: the writer.
-/
namespace Go.Proofs.YtmpklaokgogigaaDoor
set_option linter.unusedSimpArgs false
set_option linter.unusedVariables false
open Go.RowKit

/-- The writer at block G has the bytes l and the error E. -/
def Wr (w : World) (G : Nat) (l : List Nat) (E : Int) : Prop := ∃ v, Blk w G 139 #[v, .int .i64 E] ∧ w.ownsRow (G + 1) 5 1 v l.length (bl l)
def AddPost (G : Nat) (l lb : List Nat) (E eb : Int) (w : World) (e : Ending) (w' : World) : Prop :=
  e = .returned (.tuple #[]) ∧ Wr w' G (if E = 0 then l ++ lb else l) (if E = 0 then eb else E) ∧ Below G w w'
set_option maxHeartbeats 1000000 in
set_option maxRecDepth 100000 in
theorem add_any (G : Nat) (l lb : List Nat) (E eb : Int) (vb : Value) (w : World) (h : Wr w G l E) (hb : BytesAt w vb lb) (hl : l.length + lb.length ≤ 140737488355328) :
    Calls Tryd.prog 95 #[.pointer (some ⟨G, 0, none⟩), vb, .int .i64 eb] w (AddPost G l lb E eb w) := by
  obtain ⟨v, hB, hO⟩ := h
  have c0 := hB.cell 0
  have c1 := hB.cell 1
  simp only [List.getElem?_toArray, List.getElem?_cons_zero, List.getElem?_cons_succ] at c0 c1
  have hG := hB.lt
  obtain ⟨i0, hi, hz0, hz1, hz2⟩ := info_parts info5
  by_cases hE : E = 0
  · subst hE
    unfold AddPost
    rw [if_pos rfl, if_pos rfl]
    go_enter Tryd.func95, Tryd.ntmps95
    go_wp2_with (at_builtin; go_must (refine wpList_append_bytes _ rfl (.tmp 16) (.tmp 17) 48 rfl (G + 1) 5 i0 Tryd.underlying48 hi hz0 hz1 hz2 v l lb rfl hO hb hl hG ?_); intro v1 w1 o1 g1 n1; rw [List.length_append] at o1; obtain ⟨a1, n1, rfl⟩ := own_slice o1; have k1 : Blk w1 G 139 #[v, .int .i64 0] := hB.grown g1 (own_ne hO (by omega)); have f0 := k1.fz 0; have f1 := k1.fz 1; have d0 := k1.cell 0; have d1 := k1.cell 1; simp only [List.getElem?_toArray, List.getElem?_cons_zero, List.getElem?_cons_succ] at d0 d1)
    go_end0
    refine ⟨rfl, ⟨_, (k1.set 0 _).set 1 _, by rw [List.length_append]; exact (o1.kept (gset w1 G 0 _) (.inr (own_ne o1 (by omega)).symm)).kept (gset _ G 1 _) (.inr (own_ne o1 (by omega)).symm)⟩, ?_⟩
    · exact (((Below.refl _ _).grown g1 (by omega) (fun k hk => by have := (hO.lt k hk).1; omega)).setCell (by simp) _).setCell (by simp) _
  · have hb' : (E == 0) = false := beq_eq_false_iff_ne.2 hE
    unfold AddPost
    rw [if_neg hE, if_neg hE]
    replace hE := Lib.hid hE
    go_enter Tryd.func95, Tryd.ntmps95
    go_wp2
    go_end0
    exact ⟨rfl, ⟨v, hB, hO⟩, Below.refl _ _⟩
end Go.Proofs.YtmpklaokgogigaaDoor
