/-
  LAYER 13: why one may not come so, of both sides.
-/
import Derived.Test.YtkohlbafpljfjaaSg
import Derived.Test.YtkohlbafpljfjaaUm
import Derived.Outline
import Derived.Deep.DeepMust
import Derived.FnLit
import Derived.Laws.EntriesVeiled
import Derived.Deep.QuietTactic
import Derived.BigQuiet
namespace Go.Proofs.Ytkohlbafpljfjaa
set_option linter.unusedSimpArgs false
set_option linter.unusedVariables false
open Go.RowKit
def Numb (l : List Nat) (x : Int) (w : World) (e : Ending) (w' : World) : Prop := ∃ v, e = .returned (.tuple #[v, .int .i64 x]) ∧ BytesAt w' v l ∧ Below w.heap.size w w'
theorem lit_two (w : World) (x y : Nat) : BytesAt (w.alloc (.cells #[.int .u8 (x : Int), .int .u8 (y : Int)] 5)) (.slice (some ⟨w.heap.size, 0, none⟩) 2 2) [x, y] := by
  refine ⟨some ⟨w.heap.size, 0, none⟩, 2, rfl, ⟨by simp, fun h => by cases h⟩, .inr ⟨w.heap.size, 0, rfl, by simp, fun i hi => ?_⟩⟩
  have : i = 0 ∨ i = 1 := by simp at hi; omega
  rcases this with rfl | rfl
  · rw [World.cell?_alloc_at _ _ _ _ rfl]; rfl
  · rw [World.cell?_alloc_at _ _ _ _ rfl]; rfl

def con (L : Int) (cl : Bool) (K : Int) (id : ByteArray) (hw : Bool) (wt wx : ByteArray) (wq : Int) (wr : Bool) (hu : Bool) (u : ByteArray) (hp : Bool) (p : ByteArray) : Value :=
  .agg #[.int .i64 L, .bool cl, .int .i64 K, .string id, .bool hw, .string wt, .string wx, .int .i64 wq, .bool wr, .bool hu, .string u, .bool hp, .string p]
def zmsg (wt wx : ByteArray) (wq : Int) (wr : Bool) : Bool := decide (wt.size = 0) && decide (wx.size = 0) && decide (wq = 0) && !wr
theorem size0 {s : ByteArray} (h : s.size = 0) : s = ⟨#[]⟩ := by
  obtain ⟨⟨l⟩⟩ := s
  cases l with
  | nil => rfl
  | cons a l => simp [ByteArray.size] at h
theorem size1 {s : ByteArray} (h : s.size ≠ 0) : s.toList.isEmpty = false := by
  rw [ByteArray.toList_eq]
  obtain ⟨⟨l⟩⟩ := s
  cases l with
  | nil => simp [ByteArray.size] at h
  | cons a l => rfl
theorem toL0 (s : ByteArray) : (s.toList = []) = (s.size = 0) := by
  rw [ByteArray.toList_eq]
  obtain ⟨⟨l⟩⟩ := s
  cases l <;> simp [ByteArray.size]
theorem msg_neq (wt wx : ByteArray) (wq : Int) (wr : Bool) (w : World) : (binOp .neq 49 (.agg #[.string wt, .string wx, .int .i64 wq, .bool wr]) (.agg #[.string ⟨#[]⟩, .string ⟨#[]⟩, .int .i64 0, .bool false])).run Try.prog w = .ok (.bool (!(zmsg wt wx wq wr))) w := by
  simp only [binOp]
  simp [go_sem, Op.equal, Op.maxDepth]
  unfold zmsg
  simp only [← toL0]
  by_cases a : wt.toList = [] <;> by_cases b : wx.toList = [] <;> by_cases c : wq = 0 <;> cases wr <;> simp only [a, b, c] <;> rfl
theorem zmsg_iff {wt wx : ByteArray} {wq : Int} {wr : Bool} (h : zmsg wt wx wq wr = true) : wt = ⟨#[]⟩ ∧ wx = ⟨#[]⟩ ∧ wq = 0 ∧ wr = false := by
  unfold zmsg at h
  simp only [Bool.and_eq_true, decide_eq_true_eq, Bool.not_eq_true'] at h
  exact ⟨size0 h.1.1.1, size0 h.1.1.2, h.1.2, h.2⟩
def Wrong (E : Int) (w : World) (e : Ending) (w' : World) : Prop := e = .returned (.int .i64 E) ∧ Below w.heap.size w w'
set_option maxRecDepth 100000 in
theorem wr55_1 (L : Int) (cl : Bool) (K : Int) (id : ByteArray) (hw : Bool) (wt : ByteArray) (wx : ByteArray) (wq : Int) (wr : Bool) (hu : Bool) (u : ByteArray) (hp : Bool) (p : ByteArray) (w : World) (h : L ≠ 4) : Calls Try.prog 43 #[con L cl K id hw wt wx wq wr hu u hp p] w (Wrong 15 w) := by
  unfold con Wrong
  have h' : (L != 4) = true := by simpa using h
  replace h := Lib.hid h
  go_enter Try.func43, Try.ntmps43
  go_wp2
  go_ret
  exact ⟨rfl, ext_alloc _ _⟩
set_option maxRecDepth 100000 in
theorem wr55_2 (cl : Bool) (K : Int) (id : ByteArray) (hw : Bool) (wt : ByteArray) (wx : ByteArray) (wq : Int) (wr : Bool) (hu : Bool) (u : ByteArray) (hp : Bool) (p : ByteArray) (w : World) (h : K < 0 ∨ (0 ≤ K ∧ 65535 < K)) : Calls Try.prog 43 #[con 4 cl K id hw wt wx wq wr hu u hp p] w (Wrong 1 w) := by
  unfold con Wrong
  rcases h with h | ⟨h, h1⟩
  all_goals
    go_enter Try.func43, Try.ntmps43
    go_wp2
    go_ret
    exact ⟨rfl, ext_alloc _ _⟩
set_option maxRecDepth 100000 in
theorem wr55_3 (cl : Bool) (K : Int) (id : ByteArray) (hw : Bool) (wt : ByteArray) (wx : ByteArray) (wq : Int) (wr : Bool) (hu : Bool) (u : ByteArray) (hp : Bool) (p : ByteArray) (w : World) (h : 0 ≤ K) (h1 : K ≤ 65535) (h2 : wq < 0 ∨ (0 ≤ wq ∧ 2 < wq)) : Calls Try.prog 43 #[con 4 cl K id hw wt wx wq wr hu u hp p] w (Wrong 10 w) := by
  unfold con Wrong
  rcases h2 with h2 | ⟨h2, h3⟩
  all_goals
    go_enter Try.func43, Try.ntmps43
    go_wp2
    go_ret
    exact ⟨rfl, ext_alloc _ _⟩
set_option maxRecDepth 100000 in
theorem wr55_4 (cl : Bool) (K : Int) (id : ByteArray) (hw : Bool) (wt : ByteArray) (wx : ByteArray) (wq : Int) (wr : Bool) (u : ByteArray) (p : ByteArray) (w : World) (h : 0 ≤ K) (h1 : K ≤ 65535)(h2 : 0 ≤ wq) (h3 : wq ≤ 2) : Calls Try.prog 43 #[con 4 cl K id hw wt wx wq wr false u true p] w (Wrong 10 w) := by
  unfold con Wrong
  go_enter Try.func43, Try.ntmps43
  go_wp2
  go_ret
  exact ⟨rfl, ext_alloc _ _⟩
set_option maxRecDepth 100000 in
theorem wr55_5 (cl : Bool) (K : Int) (id : ByteArray) (wt : ByteArray) (wx : ByteArray) (wq : Int) (wr : Bool) (hu : Bool) (u : ByteArray) (hp : Bool) (p : ByteArray) (w : World) (h : 0 ≤ K) (h1 : K ≤ 65535)(h2 : 0 ≤ wq) (h3 : wq ≤ 2) (hd : hp = true → hu = true) (kz : zmsg wt wx wq wr = false) : Calls Try.prog 43 #[con 4 cl K id false wt wx wq wr hu u hp p] w (Wrong 4 w) := by
  unfold con Wrong
  have kn := fun w => msg_neq wt wx wq wr w
  rw [kz] at kn
  clear kz
  cases hp
  · clear hd
    cases hu
    all_goals
      go_enter Try.func43, Try.ntmps43
      go_wp2
      go_ret
      exact ⟨rfl, ext_alloc _ _⟩
  · obtain rfl := hd rfl
    clear hd
    go_enter Try.func43, Try.ntmps43
    go_wp2
    go_ret
    exact ⟨rfl, ext_alloc _ _⟩
set_option maxRecDepth 100000 in
theorem wr55_6a (cl : Bool) (K : Int) (id : ByteArray) (wt : ByteArray) (wx : ByteArray) (wq : Int) (wr : Bool) (u : ByteArray) (p : ByteArray) (w : World) (h : 0 ≤ K) (h1 : K ≤ 65535)(h2 : 0 ≤ wq) (h3 : wq ≤ 2)(he : u.size ≠ 0) : Calls Try.prog 43 #[con 4 cl K id true wt wx wq wr false u false p] w (Wrong 4 w) := by
  unfold con Wrong
  have he := size1 he
  go_enter Try.func43, Try.ntmps43
  go_wp2
  go_ret
  exact ⟨rfl, ext_alloc _ _⟩
set_option maxRecDepth 100000 in
theorem wr55_6b (cl : Bool) (K : Int) (id : ByteArray) (u : ByteArray) (p : ByteArray) (w : World) (h : 0 ≤ K) (h1 : K ≤ 65535)(he : u.size ≠ 0) : Calls Try.prog 43 #[con 4 cl K id false ⟨#[]⟩ ⟨#[]⟩ 0 false false u false p] w (Wrong 4 w) := by
  unfold con Wrong
  have he := size1 he
  go_enter Try.func43, Try.ntmps43
  go_wp2
  go_ret
  exact ⟨rfl, ext_alloc _ _⟩
set_option maxRecDepth 100000 in
theorem wr55_7a (cl : Bool) (K : Int) (id : ByteArray) (wt : ByteArray) (wx : ByteArray) (wq : Int) (wr : Bool) (u : ByteArray) (p : ByteArray) (w : World) (h : 0 ≤ K) (h1 : K ≤ 65535)(h2 : 0 ≤ wq) (h3 : wq ≤ 2)(he : p.size ≠ 0) : Calls Try.prog 43 #[con 4 cl K id true wt wx wq wr true u false p] w (Wrong 4 w) := by
  unfold con Wrong
  have he := size1 he
  go_enter Try.func43, Try.ntmps43
  go_wp2
  go_ret
  exact ⟨rfl, ext_alloc _ _⟩
set_option maxRecDepth 100000 in
theorem wr55_7b (cl : Bool) (K : Int) (id : ByteArray) (u : ByteArray) (p : ByteArray) (w : World) (h : 0 ≤ K) (h1 : K ≤ 65535)(he : p.size ≠ 0) : Calls Try.prog 43 #[con 4 cl K id false ⟨#[]⟩ ⟨#[]⟩ 0 false true u false p] w (Wrong 4 w) := by
  unfold con Wrong
  have he := size1 he
  go_enter Try.func43, Try.ntmps43
  go_wp2
  go_ret
  exact ⟨rfl, ext_alloc _ _⟩
set_option maxRecDepth 100000 in
theorem wr55_7c (cl : Bool) (K : Int) (id : ByteArray) (wt : ByteArray) (wx : ByteArray) (wq : Int) (wr : Bool) (p : ByteArray) (w : World) (h : 0 ≤ K) (h1 : K ≤ 65535)(h2 : 0 ≤ wq) (h3 : wq ≤ 2)(he : p.size ≠ 0) : Calls Try.prog 43 #[con 4 cl K id true wt wx wq wr false ⟨#[]⟩ false p] w (Wrong 4 w) := by
  unfold con Wrong
  have he := size1 he
  go_enter Try.func43, Try.ntmps43
  go_wp2
  go_ret
  exact ⟨rfl, ext_alloc _ _⟩
set_option maxRecDepth 100000 in
theorem wr55_7d (cl : Bool) (K : Int) (id : ByteArray) (p : ByteArray) (w : World) (h : 0 ≤ K) (h1 : K ≤ 65535)(he : p.size ≠ 0) : Calls Try.prog 43 #[con 4 cl K id false ⟨#[]⟩ ⟨#[]⟩ 0 false false ⟨#[]⟩ false p] w (Wrong 4 w) := by
  unfold con Wrong
  have he := size1 he
  go_enter Try.func43, Try.ntmps43
  go_wp2
  go_ret
  exact ⟨rfl, ext_alloc _ _⟩
set_option maxRecDepth 100000 in
theorem wr55_8aw (cl : Bool) (K : Int) (id : ByteArray) (wt : ByteArray) (wx : ByteArray) (wq : Int) (wr : Bool) (u : ByteArray) (p : ByteArray) (w : World) (h : 0 ≤ K) (h1 : K ≤ 65535)(h2 : 0 ≤ wq) (h3 : wq ≤ 2) : Calls Try.prog 43 #[con 4 cl K id true wt wx wq wr true u true p] w (Wrong 0 w) := by
  unfold con Wrong
  go_enter Try.func43, Try.ntmps43
  go_wp2
  go_ret
  exact ⟨rfl, ext_alloc _ _⟩
set_option maxRecDepth 100000 in
theorem wr55_8an (cl : Bool) (K : Int) (id : ByteArray) (u : ByteArray) (p : ByteArray) (w : World) (h : 0 ≤ K) (h1 : K ≤ 65535) : Calls Try.prog 43 #[con 4 cl K id false ⟨#[]⟩ ⟨#[]⟩ 0 false true u true p] w (Wrong 0 w) := by
  unfold con Wrong
  go_enter Try.func43, Try.ntmps43
  go_wp2
  go_ret
  exact ⟨rfl, ext_alloc _ _⟩
set_option maxRecDepth 100000 in
theorem wr55_8bw (cl : Bool) (K : Int) (id : ByteArray) (wt : ByteArray) (wx : ByteArray) (wq : Int) (wr : Bool) (u : ByteArray) (w : World) (h : 0 ≤ K) (h1 : K ≤ 65535)(h2 : 0 ≤ wq) (h3 : wq ≤ 2) : Calls Try.prog 43 #[con 4 cl K id true wt wx wq wr true u false ⟨#[]⟩] w (Wrong 0 w) := by
  unfold con Wrong
  go_enter Try.func43, Try.ntmps43
  go_wp2
  go_ret
  exact ⟨rfl, ext_alloc _ _⟩
set_option maxRecDepth 100000 in
theorem wr55_8bn (cl : Bool) (K : Int) (id : ByteArray) (u : ByteArray) (w : World) (h : 0 ≤ K) (h1 : K ≤ 65535) : Calls Try.prog 43 #[con 4 cl K id false ⟨#[]⟩ ⟨#[]⟩ 0 false true u false ⟨#[]⟩] w (Wrong 0 w) := by
  unfold con Wrong
  go_enter Try.func43, Try.ntmps43
  go_wp2
  go_ret
  exact ⟨rfl, ext_alloc _ _⟩
set_option maxRecDepth 100000 in
theorem wr55_8cw (cl : Bool) (K : Int) (id : ByteArray) (wt : ByteArray) (wx : ByteArray) (wq : Int) (wr : Bool) (w : World) (h : 0 ≤ K) (h1 : K ≤ 65535)(h2 : 0 ≤ wq) (h3 : wq ≤ 2) : Calls Try.prog 43 #[con 4 cl K id true wt wx wq wr false ⟨#[]⟩ false ⟨#[]⟩] w (Wrong 0 w) := by
  unfold con Wrong
  go_enter Try.func43, Try.ntmps43
  go_wp2
  go_ret
  exact ⟨rfl, ext_alloc _ _⟩
set_option maxRecDepth 100000 in
theorem wr55_8cn (cl : Bool) (K : Int) (id : ByteArray) (w : World) (h : 0 ≤ K) (h1 : K ≤ 65535) : Calls Try.prog 43 #[con 4 cl K id false ⟨#[]⟩ ⟨#[]⟩ 0 false false ⟨#[]⟩ false ⟨#[]⟩] w (Wrong 0 w) := by
  unfold con Wrong
  go_enter Try.func43, Try.ntmps43
  go_wp2
  go_ret
  exact ⟨rfl, ext_alloc _ _⟩
def conE (L : Int) (K : Int) (hw : Bool) (wt wx : ByteArray) (wq : Int) (wr : Bool) (hu : Bool) (u : ByteArray) (hp : Bool) (p : ByteArray) : Int :=
  if L ≠ 4 then 15 else if K < 0 ∨ 65535 < K then 1 else if (wq < 0 ∨ 2 < wq) ∨ (hp = true ∧ hu = false) then 10
  else if (hw = false ∧ zmsg wt wx wq wr = false) ∨ (hu = false ∧ u.size ≠ 0) ∨ (hp = false ∧ p.size ≠ 0) then 4 else 0
theorem wrongs55 (L : Int) (cl : Bool) (K : Int) (id : ByteArray) (hw : Bool) (wt wx : ByteArray) (wq : Int) (wr : Bool) (hu : Bool) (u : ByteArray) (hp : Bool) (p : ByteArray) (w : World) :
    Calls Try.prog 43 #[con L cl K id hw wt wx wq wr hu u hp p] w (Wrong (conE L K hw wt wx wq wr hu u hp p) w) := by
  unfold conE
  by_cases a : L ≠ 4
  · rw [if_pos a]; exact wr55_1 _ _ _ _ _ _ _ _ _ _ _ _ _ _ a
  rw [if_neg a]
  obtain rfl : L = 4 := by omega
  by_cases b : K < 0 ∨ 65535 < K
  · rw [if_pos b]; exact wr55_2 _ _ _ _ _ _ _ _ _ _ _ _ _ (by omega)
  rw [if_neg b]
  by_cases c : (wq < 0 ∨ 2 < wq) ∨ (hp = true ∧ hu = false)
  · rw [if_pos c]
    by_cases c' : wq < 0 ∨ 2 < wq
    · exact wr55_3 _ _ _ _ _ _ _ _ _ _ _ _ _ (by omega) (by omega) (by omega)
    · obtain ⟨rfl, rfl⟩ := c.resolve_left c'
      exact wr55_4 _ _ _ _ _ _ _ _ _ _ _ (by omega) (by omega) (by omega) (by omega)
  rw [if_neg c]
  have c1 : 0 ≤ wq := by omega
  have c2 : wq ≤ 2 := by omega
  have c3 : hp = true → hu = true := by
    intro h; cases hu with
    | true => rfl
    | false => exact absurd (Or.inr ⟨h, rfl⟩) c
  have b1 : 0 ≤ K := by omega
  have b2 : K ≤ 65535 := by omega
  clear a b c
  by_cases d : hw = false ∧ zmsg wt wx wq wr = false
  · rw [if_pos (Or.inl d)]
    obtain ⟨rfl, d⟩ := d
    exact wr55_5 _ _ _ _ _ _ _ _ _ _ _ _ b1 b2 c1 c2 c3 d
  have d' : hw = true ∨ (hw = false ∧ wt = ⟨#[]⟩ ∧ wx = ⟨#[]⟩ ∧ wq = 0 ∧ wr = false) := by
    cases hw with
    | true => exact .inl rfl
    | false => exact .inr ⟨rfl, zmsg_iff (by cases h : zmsg wt wx wq wr with | true => rfl | false => exact absurd ⟨rfl, h⟩ d)⟩
  by_cases x : hu = false ∧ u.size ≠ 0
  · rw [if_pos (Or.inr (Or.inl x))]
    obtain ⟨rfl, x⟩ := x
    have : hp = false := by cases hp with | false => rfl | true => exact absurd (c3 rfl) (by decide)
    subst this
    rcases d' with rfl | ⟨rfl, rfl, rfl, rfl, rfl⟩
    · exact wr55_6a _ _ _ _ _ _ _ _ _ _ b1 b2 c1 c2 x
    · exact wr55_6b _ _ _ _ _ _ b1 b2 x
  have x' : hu = true ∨ (hu = false ∧ u = ⟨#[]⟩) := by
    cases hu with
    | true => exact .inl rfl
    | false => exact .inr ⟨rfl, size0 (by by_cases h : u.size = 0; exact h; exact absurd ⟨rfl, h⟩ x)⟩
  by_cases y : hp = false ∧ p.size ≠ 0
  · rw [if_pos (Or.inr (Or.inr y))]
    obtain ⟨rfl, y⟩ := y
    rcases x' with rfl | ⟨rfl, rfl⟩
    · rcases d' with rfl | ⟨rfl, rfl, rfl, rfl, rfl⟩
      · exact wr55_7a _ _ _ _ _ _ _ _ _ _ b1 b2 c1 c2 y
      · exact wr55_7b _ _ _ _ _ _ b1 b2 y
    · rcases d' with rfl | ⟨rfl, rfl, rfl, rfl, rfl⟩
      · exact wr55_7c _ _ _ _ _ _ _ _ _ b1 b2 c1 c2 y
      · exact wr55_7d _ _ _ _ _ b1 b2 y
  rw [if_neg (by rintro (h | h | h); exact d h; exact x h; exact y h)]
  have y' : hp = true ∨ (hp = false ∧ p = ⟨#[]⟩) := by
    cases hp with
    | true => exact .inl rfl
    | false => exact .inr ⟨rfl, size0 (by by_cases h : p.size = 0; exact h; exact absurd ⟨rfl, h⟩ y)⟩
  clear d x y
  rcases y' with rfl | ⟨rfl, rfl⟩
  · obtain rfl := c3 rfl
    rcases d' with rfl | ⟨rfl, rfl, rfl, rfl, rfl⟩
    · exact wr55_8aw _ _ _ _ _ _ _ _ _ _ b1 b2 c1 c2
    · exact wr55_8an _ _ _ _ _ _ b1 b2
  · rcases x' with rfl | ⟨rfl, rfl⟩
    · rcases d' with rfl | ⟨rfl, rfl, rfl, rfl, rfl⟩
      · exact wr55_8bw _ _ _ _ _ _ _ _ _ b1 b2 c1 c2
      · exact wr55_8bn _ _ _ _ _ b1 b2
    · rcases d' with rfl | ⟨rfl, rfl, rfl, rfl, rfl⟩
      · exact wr55_8cw _ _ _ _ _ _ _ _ b1 b2 c1 c2
      · exact wr55_8cn _ _ _ _ b1 b2
end Go.Proofs.Ytkohlbafpljfjaa
