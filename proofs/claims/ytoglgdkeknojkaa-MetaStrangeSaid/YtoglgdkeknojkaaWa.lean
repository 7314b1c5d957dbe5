/-
  LAYER 3: fields, and why one may not be, of both sides.
-/
import Derived.Test.YtoglgdkeknojkaaFu
import Derived.Test.YtoglgdkeknojkaaGq
namespace Go.Proofs.Ytoglgdkeknojkaa
open Go.RowKit

structure Fd where
  num : Int
  kind : Int
  val : Nat
  text : ByteArray
def Fd.cells (f : Fd) : List Value := [.int .i64 f.num, .int .i64 f.kind, .int .u64 (f.val : Nat), .string f.text]
def Fd.ok (f : Fd) : Prop := (-9223372036854775808 ≤ f.num ∧ f.num ≤ 9223372036854775807) ∧ (-9223372036854775808 ≤ f.kind ∧ f.kind ≤ 9223372036854775807) ∧ f.val ≤ 18446744073709551615 ∧ f.text.size ≤ 140737488351232
theorem size0 {s : ByteArray} (h : s.size = 0) : s = ⟨#[]⟩ := by
  obtain ⟨⟨l⟩⟩ := s
  cases l with
  | nil => rfl
  | cons a l => simp [ByteArray.size] at h
theorem size1 {s : ByteArray} (h : s.size ≠ 0) : s.toList.isEmpty = false := by
  rw [ByteArray.toList_eq]
  obtain ⟨⟨l⟩⟩ := s
  cases l with
  | nil => simp [ByteArray.size] at h
  | cons a l => rfl
def isK (k : Int) : Prop := k = 0 ∨ k = 1 ∨ k = 2 ∨ k = 5
instance (k : Int) : Decidable (isK k) := by unfold isK; infer_instance
def wrE (f : Fd) : Int :=
  if f.num < 1 ∨ 536870911 < f.num then 5 else if ¬ isK f.kind then 11 else if (f.kind = 2 ∧ f.val ≠ 0) ∨ (f.kind ≠ 2 ∧ f.text.size ≠ 0) then 4
  else if f.kind = 5 ∧ 4294967295 < f.val then 5 else 0
def Er (E : Int) (w : World) (e : Ending) (w' : World) : Prop := e = .returned (.int .i64 E) ∧ Below w.heap.size w w'
set_option maxRecDepth 100000 in
theorem wr_num (g : FuncId) (hg : g = 35 ∨ g = 22) (n k : Int) (v : Nat) (t : ByteArray) (w : World) (h : n < 1 ∨ (1 ≤ n ∧ 536870911 < n)) : Calls Try.prog g #[.agg #[.int .i64 n, .int .i64 k, .int .u64 (v : Nat), .string t]] w (Er 5 w) := by
  rcases hg with rfl | rfl
  · rcases h with h | ⟨h, h'⟩
    all_goals
      go_enter Try.func35, Try.ntmps35
      go_wp2
      go_ret
      exact ⟨rfl, ext_alloc _ _⟩
  · rcases h with h | ⟨h, h'⟩
    all_goals
      go_enter Try.func22, Try.ntmps22
      go_wp2
      go_ret
      exact ⟨rfl, ext_alloc _ _⟩
set_option maxRecDepth 100000 in
theorem wr_kind (g : FuncId) (hg : g = 35 ∨ g = 22) (n k : Int) (v : Nat) (t : ByteArray) (w : World) (h : 1 ≤ n) (h' : n ≤ 536870911) (hk : ¬ isK k) : Calls Try.prog g #[.agg #[.int .i64 n, .int .i64 k, .int .u64 (v : Nat), .string t]] w (Er 11 w) := by
  have k0 : (k == 0) = false := by rw [beq_eq_false_iff_ne]; intro h; exact hk (.inl h)
  have k1 : (k == 1) = false := by rw [beq_eq_false_iff_ne]; intro h; exact hk (.inr (.inl h))
  have k2 : (k == 2) = false := by rw [beq_eq_false_iff_ne]; intro h; exact hk (.inr (.inr (.inl h)))
  have k5 : (k == 5) = false := by rw [beq_eq_false_iff_ne]; intro h; exact hk (.inr (.inr (.inr h)))
  have j0 : (k != 0) = true := by simp only [bne, k0]; rfl
  have j1 : (k != 1) = true := by simp only [bne, k1]; rfl
  have j2 : (k != 2) = true := by simp only [bne, k2]; rfl
  have j5 : (k != 5) = true := by simp only [bne, k5]; rfl
  replace hk := Lib.hid hk
  rcases hg with rfl | rfl
  · go_enter Try.func35, Try.ntmps35
    go_wp2
    go_ret
    exact ⟨rfl, ext_alloc _ _⟩
  · go_enter Try.func22, Try.ntmps22
    go_wp2
    go_ret
    exact ⟨rfl, ext_alloc _ _⟩
set_option maxRecDepth 100000 in
theorem wr_text (g : FuncId) (hg : g = 35 ∨ g = 22) (n : Int) (v : Nat) (t : ByteArray) (w : World) (h : 1 ≤ n) (h' : n ≤ 536870911) (hv : v ≠ 0) : Calls Try.prog g #[.agg #[.int .i64 n, .int .i64 2, .int .u64 (v : Nat), .string t]] w (Er 4 w) := by
  have k0 : ((v : Int) != 0) = true := by simp; omega
  replace hv := Lib.hid hv
  rcases hg with rfl | rfl
  · go_enter Try.func35, Try.ntmps35
    go_wp2
    go_ret
    exact ⟨rfl, ext_alloc _ _⟩
  · go_enter Try.func22, Try.ntmps22
    go_wp2
    go_ret
    exact ⟨rfl, ext_alloc _ _⟩
set_option maxRecDepth 100000 in
theorem wr_text0 (g : FuncId) (hg : g = 35 ∨ g = 22) (n : Int) (t : ByteArray) (w : World) (h : 1 ≤ n) (h' : n ≤ 536870911) : Calls Try.prog g #[.agg #[.int .i64 n, .int .i64 2, .int .u64 ((0 : Nat) : Int), .string t]] w (Er 0 w) := by
  rw [Int.natCast_zero]
  rcases hg with rfl | rfl
  · go_enter Try.func35, Try.ntmps35
    go_wp2
    go_ret
    exact ⟨rfl, ext_alloc _ _⟩
  · go_enter Try.func22, Try.ntmps22
    go_wp2
    go_ret
    exact ⟨rfl, ext_alloc _ _⟩
set_option maxRecDepth 100000 in
theorem wr_junk (g : FuncId) (hg : g = 35 ∨ g = 22) (n k : Int) (v : Nat) (t : ByteArray) (w : World) (h : 1 ≤ n) (h' : n ≤ 536870911) (hk : k = 0 ∨ k = 1 ∨ k = 5) (ht : t.size ≠ 0) : Calls Try.prog g #[.agg #[.int .i64 n, .int .i64 k, .int .u64 (v : Nat), .string t]] w (Er 4 w) := by
  replace ht := size1 ht
  rcases hk with rfl | rfl | rfl
  all_goals
    rcases hg with rfl | rfl
    · go_enter Try.func35, Try.ntmps35
      go_wp2
      go_ret
      exact ⟨rfl, ext_alloc _ _⟩
    · go_enter Try.func22, Try.ntmps22
      go_wp2
      go_ret
      exact ⟨rfl, ext_alloc _ _⟩
set_option maxRecDepth 100000 in
theorem wr_num01 (g : FuncId) (hg : g = 35 ∨ g = 22) (n k : Int) (v : Nat) (w : World) (h : 1 ≤ n) (h' : n ≤ 536870911) (hk : k = 0 ∨ k = 1) : Calls Try.prog g #[.agg #[.int .i64 n, .int .i64 k, .int .u64 (v : Nat), .string ⟨#[]⟩]] w (Er 0 w) := by
  rcases hk with rfl | rfl
  all_goals
    rcases hg with rfl | rfl
    · go_enter Try.func35, Try.ntmps35
      go_wp2
      go_ret
      exact ⟨rfl, ext_alloc _ _⟩
    · go_enter Try.func22, Try.ntmps22
      go_wp2
      go_ret
      exact ⟨rfl, ext_alloc _ _⟩
set_option maxRecDepth 100000 in
theorem wr_fix4 (g : FuncId) (hg : g = 35 ∨ g = 22) (n : Int) (v : Nat) (w : World) (h : 1 ≤ n) (h' : n ≤ 536870911) (hv : (v : Int) ≤ 4294967295) : Calls Try.prog g #[.agg #[.int .i64 n, .int .i64 5, .int .u64 (v : Nat), .string ⟨#[]⟩]] w (Er 0 w) := by
  rcases hg with rfl | rfl
  · go_enter Try.func35, Try.ntmps35
    go_wp2
    go_ret
    exact ⟨rfl, ext_alloc _ _⟩
  · have hd : decide ((4294967296 : Int) ≤ (v : Int)) = false := decide_eq_false (by omega)
    replace hv := Lib.hid hv
    go_enter Try.func22, Try.ntmps22
    go_wp2
    go_ret
    exact ⟨rfl, ext_alloc _ _⟩
set_option maxRecDepth 100000 in
theorem wr_fix4x (g : FuncId) (hg : g = 35 ∨ g = 22) (n : Int) (v : Nat) (w : World) (h : 1 ≤ n) (h' : n ≤ 536870911) (hv : 4294967295 < (v : Int)) : Calls Try.prog g #[.agg #[.int .i64 n, .int .i64 5, .int .u64 (v : Nat), .string ⟨#[]⟩]] w (Er 5 w) := by
  rcases hg with rfl | rfl
  · go_enter Try.func35, Try.ntmps35
    go_wp2
    go_ret
    exact ⟨rfl, ext_alloc _ _⟩
  · have hd : decide ((4294967296 : Int) ≤ (v : Int)) = true := decide_eq_true (by omega)
    replace hv := Lib.hid hv
    go_enter Try.func22, Try.ntmps22
    go_wp2
    go_ret
    exact ⟨rfl, ext_alloc _ _⟩
theorem wr_any (g : FuncId) (hg : g = 35 ∨ g = 22) (f : Fd) (w : World) : Calls Try.prog g #[.agg f.cells.toArray] w (Er (wrE f) w) := by
  obtain ⟨n, k, v, t⟩ := f
  unfold wrE
  simp only [Fd.cells]
  by_cases a : n < 1 ∨ 536870911 < n
  · rw [if_pos a]; exact wr_num g hg n k v t w (by omega)
  rw [if_neg a]
  have h1 : 1 ≤ n := by omega
  have h2 : n ≤ 536870911 := by omega
  by_cases b : isK k
  · rw [if_neg (by simpa using b)]
    by_cases c : k = 2
    · subst c
      by_cases d : v = 0
      · subst d
        rw [if_neg (by simp), if_neg (by simp)]
        exact wr_text0 g hg n t w h1 h2
      · rw [if_pos (.inl ⟨rfl, d⟩)]
        exact wr_text g hg n v t w h1 h2 d
    · have b' : k = 0 ∨ k = 1 ∨ k = 5 := by unfold isK at b; omega
      by_cases d : t.size = 0
      · obtain rfl := size0 d
        rw [if_neg (by rintro (h | h); exact c h.1; exact h.2 d)]
        by_cases e : k = 5 ∧ 4294967295 < v
        · rw [if_pos e]
          obtain ⟨rfl, e⟩ := e
          exact wr_fix4x g hg n v w h1 h2 (by omega)
        · rw [if_neg e]
          rcases b' with h | h | h
          · exact wr_num01 g hg n k v w h1 h2 (.inl h)
          · exact wr_num01 g hg n k v w h1 h2 (.inr h)
          · subst h
            exact wr_fix4 g hg n v w h1 h2 (by omega)
      · rw [if_pos (.inr ⟨c, d⟩)]
        exact wr_junk g hg n k v t w h1 h2 b' d
  · rw [if_pos b]; exact wr_kind g hg n k v t w h1 h2 b
end Go.Proofs.Ytoglgdkeknojkaa
