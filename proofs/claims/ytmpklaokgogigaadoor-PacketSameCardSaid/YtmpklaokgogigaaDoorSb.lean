/-
  LAYER 15: numbers ahead, codes, of both sides.
-/
import Derived.Test.YtmpklaokgogigaaDoorUm
import Derived.Deep.DeepMust
namespace Go.Proofs.YtmpklaokgogigaaDoor
set_option linter.unusedSimpArgs false
set_option linter.unusedVariables false
open Go.RowKit

def Bs2 (E : Int) (L : List Nat) (w : World) (e : Ending) (w' : World) : Prop := ∃ v, e = .returned (.tuple #[v, .int .i64 E]) ∧ w'.ownsRow w.heap.size 5 1 v L.length (bl L) ∧ Below w.heap.size w w'
def beginE (id : Int) (n : Int) : Int := if id < 1 ∨ 65535 < id then 1 else if n = 0 then 4 else if 8 < n then 6 else 0
def beginL (id : Int) (n : Int) : List Nat := if beginE id n = 0 then [(id / 256).toNat, (id % 256).toNat] else []
theorem two_own (w : World) (n : Nat) : (w.alloc (.cells #[.int .u8 ((n / 256 : Nat) : Int), .int .u8 ((n % 256 : Nat) : Int)] 5)).ownsRow w.heap.size 5 1 (.slice (some ⟨w.heap.size, 0, none⟩) 2 2) 2 (bl [n / 256, n % 256]) := by
  have := World.ownsRow_lit (base := w.heap.size) (e := 5) (size := 1) w #[.int .u8 ((n / 256 : Nat) : Int), .int .u8 ((n % 256 : Nat) : Int)] 2 (by simp) (by unfold maxLen; omega) rfl
  simpa [bl] using this
theorem own_nil (w : World) (B : Nat) : w.ownsRow B 5 1 (.slice none 0 0) 0 (bl []) := World.ownsRow_nil w B 5 1
set_option maxRecDepth 100000 in
theorem begin_any (id : Int) (n : Int) (w : World) (hid : -9223372036854775808 ≤ id ∧ id ≤ 9223372036854775807) (h0 : 0 ≤ n) : Calls Tryd.prog 67 #[.int .i64 id, .int .i64 n] w (Bs2 (beginE id n) (beginL id n) w) := by
  by_cases h1 : id < 1 ∨ 65535 < id
  · have e : beginE id n = 1 := by unfold beginE; rw [if_pos h1]
    have l : beginL id n = [] := by unfold beginL; rw [if_neg (by rw [e]; decide)]
    rw [e, l]
    have h1' : id < 1 ∨ (1 ≤ id ∧ 65535 < id) := by omega
    clear e l h1
    rcases h1' with h | ⟨h, h'⟩
    all_goals
      go_enter Tryd.func67, Tryd.ntmps67
      go_wp2
      go_ret2
      exact ⟨_, rfl, own_nil _ _, Below.refl _ _⟩
  obtain ⟨k, rfl⟩ := Int.eq_ofNat_of_zero_le (show 0 ≤ id by omega)
  have k1 : (1 : Int) ≤ k := by omega
  have k2 : (k : Int) ≤ 65535 := by omega
  by_cases h2 : n = 0
  · subst h2
    have e : beginE k 0 = 4 := by unfold beginE; rw [if_neg h1, if_pos rfl]
    have l : beginL k 0 = [] := by unfold beginL; rw [if_neg (by rw [e]; decide)]
    rw [e, l]
    clear e l h1
    go_enter Tryd.func67, Tryd.ntmps67
    go_wp2
    go_ret2
    exact ⟨_, rfl, own_nil _ _, Below.refl _ _⟩
  by_cases h3 : 8 < n
  · have e : beginE k n = 6 := by unfold beginE; rw [if_neg h1, if_neg h2, if_pos h3]
    have l : beginL k n = [] := by unfold beginL; rw [if_neg (by rw [e]; decide)]
    rw [e, l]
    clear e l h1 h2
    go_enter Tryd.func67, Tryd.ntmps67
    go_wp2
    go_ret2
    exact ⟨_, rfl, own_nil _ _, Below.refl _ _⟩
  · have e : beginE k n = 0 := by unfold beginE; rw [if_neg h1, if_neg h2, if_neg h3]
    have l : beginL k n = [k / 256, k % 256] := by
      unfold beginL; rw [if_pos e]
      simp only [List.cons.injEq, and_true]; omega
    rw [e, l]
    have P := Lib.hid (fun w => put2_any k w (by omega))
    have n0 : (n == 0) = false := by simpa using h2
    clear e l h1
    replace h2 := Lib.hid h2
    go_enter Tryd.func67, Tryd.ntmps67
    go_wp2_with fail
    refine (P.out _).mono ?_
    rintro e w1 ⟨rfl, rfl⟩
    go_wp2_with fail
    go_ret2
    exact ⟨_, rfl, two_own w k, ext_alloc _ _⟩
/-- May a code be? -/
def codeB (c : Int) : Bool := decide ((0 ≤ c ∧ c ≤ 2) ∨ c = 128)
set_option maxRecDepth 100000 in
theorem code_any (g : FuncId) (hg : g = 68 ∨ g = 74) (c : Int) (w : World) : Calls Tryd.prog g #[.int .i64 c] w fun e w' => e = .returned (.bool (codeB c)) ∧ w = w' := by
  have key : (c < 0) ∨ (c = 0 ∨ c = 1 ∨ c = 2) ∨ c = 128 ∨ (2 < c ∧ c ≠ 128) := by omega
  rcases key with h | h | h | ⟨h, h'⟩
  · have : codeB c = false := decide_eq_false (by omega)
    rw [this]
    have e1 : (c == 128) = false := by rw [beq_eq_false_iff_ne]; omega
    rcases hg with rfl | rfl
    · go_enter Tryd.func68, Tryd.ntmps68
      go_wp2
      go_ret
      exact ⟨rfl, rfl⟩
    · go_enter Tryd.func74, Tryd.ntmps74
      go_wp2
      go_ret
      exact ⟨rfl, rfl⟩
  · have : codeB c = true := decide_eq_true (by omega)
    rw [this]
    rcases h with rfl | rfl | rfl
    all_goals
      rcases hg with rfl | rfl
      · go_enter Tryd.func68, Tryd.ntmps68
        go_wp2
        go_ret
        exact ⟨rfl, rfl⟩
      · go_enter Tryd.func74, Tryd.ntmps74
        go_wp2
        go_ret
        exact ⟨rfl, rfl⟩
  · subst h
    rcases hg with rfl | rfl
    · go_enter Tryd.func68, Tryd.ntmps68
      go_wp2
      go_ret
      exact ⟨rfl, rfl⟩
    · go_enter Tryd.func74, Tryd.ntmps74
      go_wp2
      go_ret
      exact ⟨rfl, rfl⟩
  · have : codeB c = false := decide_eq_false (by omega)
    rw [this]
    have e1 : (c == 128) = false := by rw [beq_eq_false_iff_ne]; omega
    have e2 : decide (c ≤ 2) = false := decide_eq_false (by omega)
    have e3 : 0 ≤ c := by omega
    replace h' := Lib.hid h'
    rcases hg with rfl | rfl
    · go_enter Tryd.func68, Tryd.ntmps68
      go_wp2
      go_ret
      exact ⟨rfl, rfl⟩
    · go_enter Tryd.func74, Tryd.ntmps74
      go_wp2
      go_ret
      exact ⟨rfl, rfl⟩
end Go.Proofs.YtmpklaokgogigaaDoor

/-
  LAYER 15: filters; the program's Put, the document's.
-/
namespace Go.Proofs.YtmpklaokgogigaaDoor
set_option linter.unusedSimpArgs false
set_option linter.unusedVariables false
open Go.RowKit

structure Fi where
  t : ByteArray
  q : Int
def Fi.cells (f : Fi) : List Value := [.string f.t, .int .i64 f.q]
def Fi.ok (f : Fi) : Prop := f.t.size ≤ 140737488351232 ∧ -9223372036854775808 ≤ f.q ∧ f.q ≤ 9223372036854775807
/-- The slice value v reads as the filters l. -/
def FisAt (w : World) (v : Value) (l : List Fi) : Prop :=
  ∃ a cap, v = .slice a l.length cap ∧ l.length ≤ 9223372036854775807 ∧ (l = [] ∨ ∃ b o, a = some ⟨b, o, none⟩ ∧ b < w.heap.size ∧ ∀ i f, l[i]? = some f → w.cell? ⟨b, o + i * 2, none⟩ = some (.string f.t) ∧ w.cell? ⟨b, o + i * 2 + 1, none⟩ = some (.int .i64 f.q))
theorem FisAt.keep {w w' : World} {v : Value} {l : List Fi} (h : FisAt w v l) {B : Nat} (hb : Below B w w') (hB : w.heap.size ≤ B) : FisAt w' v l := by
  obtain ⟨a, cap, hv, hc, h⟩ := h
  refine ⟨a, cap, hv, hc, h.imp id ?_⟩
  rintro ⟨b, o, ha, hlt, hcell⟩
  exact ⟨b, o, ha, Nat.lt_of_lt_of_le hlt hb.size, fun i f hi => by rw [hb.cell (by simpa using by omega), hb.cell (by simpa using by omega)]; exact hcell i f hi⟩
/-- Why a text is none. -/
def txtE (s : ByteArray) : Int := if 65535 < s.size then 3 else if rightB s then 0 else 9
/-- Why a wish may not be. -/
def fiE (ends : Bool) (f : Fi) : Int := if ends = false ∧ (f.q < 0 ∨ 2 < f.q) then 5 else txtE f.t
def fiL (ends : Bool) (f : Fi) : List Nat := rawL f.t ++ if ends then [] else [f.q.toNat]
def firstF (ends : Bool) : List Fi → Int
  | [] => 0
  | f :: l => if fiE ends f ≠ 0 then fiE ends f else firstF ends l
def fisL (ends : Bool) (l : List Fi) : List Nat := l.flatMap (fiL ends)
def putE (id : Int) (l : List Fi) (ends : Bool) : Int :=
  if beginE id l.length ≠ 0 then beginE id l.length else if firstF ends l ≠ 0 then firstF ends l else if 4096 < 2 + (fisL ends l).length then 3 else 0
def putLs (id : Int) (l : List Fi) (ends : Bool) : List Nat := if putE id l ends = 0 then [(id / 256).toNat, (id % 256).toNat] ++ fisL ends l else []
theorem firstF_zero {ends : Bool} {l : List Fi} : firstF ends l = 0 ↔ ∀ f ∈ l, fiE ends f = 0 := by
  induction l with
  | nil => simp [firstF]
  | cons f l ih =>
    rw [firstF]
    by_cases h : fiE ends f = 0
    · rw [if_neg (by simpa using h), ih]; simp [h]
    · rw [if_pos h]
      exact ⟨fun e => absurd e h, fun e => e f (by simp)⟩
theorem firstF_at {ends : Bool} {l : List Fi} {i : Nat} {f : Fi} (h : ∀ g ∈ l.take i, fiE ends g = 0) (hi : l[i]? = some f) (hf : fiE ends f ≠ 0) : firstF ends l = fiE ends f := by
  induction l generalizing i with
  | nil => simp at hi
  | cons g l ih =>
    cases i with
    | zero => simp at hi; subst hi; rw [firstF, if_pos hf]
    | succ k =>
      rw [firstF, if_neg (by simpa using h g (by simp))]
      exact ih (i := k) (fun g hg => h g (by rw [List.take_succ_cons]; exact List.mem_cons_of_mem _ hg)) (by simpa using hi)
theorem fisL_snoc (ends : Bool) (l : List Fi) (f : Fi) : fisL ends (l ++ [f]) = fisL ends l ++ fiL ends f := by simp [fisL]
theorem fisL_len (ends : Bool) (l : List Fi) (h : ∀ f ∈ l, fiE ends f = 0) : (fisL ends l).length ≤ l.length * 65538 := by
  induction l with
  | nil => simp [fisL]
  | cons f l ih =>
    have h1 := h f (by simp)
    have : f.t.size ≤ 65535 := by
      unfold fiE txtE at h1
      by_cases a : ends = false ∧ (f.q < 0 ∨ 2 < f.q)
      · rw [if_pos a] at h1; cases h1
      · rw [if_neg a] at h1
        by_cases b : 65535 < f.t.size
        · rw [if_pos b] at h1; cases h1
        · omega
    have h2 : (fiL ends f).length ≤ 65538 := by
      unfold fiL
      rw [List.length_append, rawL_length]
      cases ends <;> simp <;> omega
    have := ih fun g hg => h g (List.mem_cons_of_mem _ hg)
    simp only [fisL, List.flatMap_cons, List.length_append, List.length_cons] at this ⊢
    omega
/-- A text's bytes, of both sides. -/
def TxtP (s : ByteArray) (w : World) (e : Ending) (w' : World) : Prop := ∃ v, e = .returned (.tuple #[v, .int .i64 (txtE s)]) ∧ Below w.heap.size w w' ∧ (txtE s = 0 → BytesAt w' v (rawL s))
theorem own_bytes {w : World} {B : Nat} {v : Value} {l : List Nat} (h : w.ownsRow B 5 1 v l.length (bl l)) : BytesAt w v l := BytesAt.of_own h
end Go.Proofs.YtmpklaokgogigaaDoor
