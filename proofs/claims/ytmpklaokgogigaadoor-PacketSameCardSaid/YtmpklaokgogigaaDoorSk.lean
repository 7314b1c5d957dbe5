/-
  LAYER 15: the number ahead, read by both sides.
-/
import Derived.Test.YtmpklaokgogigaaDoorSf
import Derived.Laws.IdiomStrings
import Derived.WalkSpells
import Derived.StillTailTactics
import Derived.Deep.QuietTactic
import Derived.BigQuiet
namespace Go.Proofs.YtmpklaokgogigaaDoor
set_option linter.unusedSimpArgs false
set_option linter.unusedVariables false
open Go.RowKit

theorem txt_lt (s : ByteArray) : ∀ x ∈ txtL s, x < 256 := by
  intro x hx
  simp only [txtL, List.mem_map] at hx
  obtain ⟨u, _, rfl⟩ := hx
  exact UInt8.toNat_lt _
/-- A string's bytes in a row of their own. -/
theorem bytes_of (s : ByteArray) (w : World) : ∃ v w', (convert 9 48 (.string s)).run Tryd.prog w = .ok v w' ∧ BytesAt w' v (txtL s) ∧ Below w.heap.size w w' := by
  refine ⟨_, _, run_bytes_of_string w 9 48 5 s Tryd.underlying9 Tryd.underlying48 Tryd.underlying5, ?_, (Below.refl _ _).drew.alloc (Nat.le_refl _) _⟩
  have hcap : s.size ≤ grownCap w s.size 0 5 := by
    exact grownCap_ge _ _ _ _
  refine ⟨some ⟨w.heap.size, 0, none⟩, _, by rw [txtL_length], ⟨by rw [txtL_length]; exact hcap, fun h => by cases h⟩, .inr ⟨w.heap.size, 0, rfl, by simp, fun i hi => ?_⟩⟩
  rw [txtL_length] at hi
  have hi' : i < s.data.size := hi
  have := cell_of_row (w.drew.alloc (.cells (bytesRow s (grownCap w s.size 0 5)) 5 ((bytesRow s (grownCap w s.size 0 5)).size, (bytesRow s (grownCap w s.size 0 5)).size + 1))) w.heap.size (0 + i) _ 5 _ (heap_alloc_new _ _)
  rw [this, Nat.zero_add, bytesRow_at s _ i hi']
  simp [txtL, List.getD, Array.getElem?_eq_getElem hi']
/-- The number ahead, or why there is none. -/
def numV (l : List Nat) : Int × Int := if l.length < 2 then (0, 2) else if 256 * l.getD 0 0 + l.getD 1 0 = 0 then (0, 1) else (((256 * l.getD 0 0 + l.getD 1 0 : Nat) : Int), 0)
theorem get2_0 (l : List Nat) : get2V l 0 = if l.length < 2 then (0, 0, 2) else (((256 * l.getD 0 0 + l.getD 1 0 : Nat) : Int), 2, 0) := by
  unfold get2V
  by_cases h : l.length < 2
  · rw [if_neg (by omega), if_pos (by omega), if_pos h]
  · rw [if_neg (by omega), if_neg (by omega), if_neg h]; simp
def Num2 (r : Int × Int) (w : World) (e : Ending) (w' : World) : Prop := e = .returned (.tuple #[.int .i64 r.1, .int .i64 r.2]) ∧ Below w.heap.size w w'
set_option maxHeartbeats 1000000 in
set_option maxRecDepth 100000 in
theorem number_any (v : Value) (l : List Nat) (w : World) (hb : BytesAt w v l) (h256 : ∀ x ∈ l, x < 256) (hl : l.length ≤ 140737488355328) : Calls Tryd.prog 65 #[v] w (Num2 (numV l) w) := by
  have G := get2_any v l 0 w hb h256 hl (by decide)
  rw [get2_0] at G
  unfold numV
  obtain ⟨a, cap, rfl, -⟩ := hb
  by_cases h : l.length < 2
  · rw [if_pos h] at G ⊢
    simp only at G
    replace G := Lib.hid G
    go_enter Tryd.func65, Tryd.ntmps65
    go_wp2_with fail
    refine G.out.mono ?_
    rintro e w' ⟨rfl, n, rfl⟩
    go_wp2_with fail
    go_ret2
    exact ⟨rfl, below_drewN (Below.refl _ _) n⟩
  · rw [if_neg h] at G ⊢
    simp only at G
    generalize 256 * l.getD 0 0 + l.getD 1 0 = m at *
    replace G := Lib.hid G
    by_cases hm : m = 0
    · subst hm
      go_enter Tryd.func65, Tryd.ntmps65
      go_wp2_with fail
      refine G.out.mono ?_
      rintro e w' ⟨rfl, n, rfl⟩
      go_wp2_with fail
      go_ret2
      exact ⟨rfl, below_drewN (Below.refl _ _) n⟩
    · rw [if_neg hm]
      have hd : ((m : Int) == 0) = false := by rw [beq_eq_false_iff_ne]; omega
      replace hm := Lib.hid hm
      go_enter Tryd.func65, Tryd.ntmps65
      go_wp2_with fail
      refine G.out.mono ?_
      rintro e w' ⟨rfl, n, rfl⟩
      go_wp2_with fail
      go_ret2
      exact ⟨rfl, below_drewN (Below.refl _ _) n⟩
set_option maxHeartbeats 1000000 in
set_option maxRecDepth 100000 in
theorem rofid_any (s : ByteArray) (w : World) (h : s.size = 2) : Calls Tryd.prog 41 #[.string s] w (Num2 (numV (txtL s)) w) := by
  obtain ⟨v, w1, hconv, a1, b1⟩ := bytes_of s w
  have G := rget2_any v (txtL s) 0 w1 a1 (txt_lt s) (by rw [txtL_length]; omega) (by decide)
  rw [get2_0, if_neg (by rw [txtL_length]; omega)] at G
  unfold numV
  rw [if_neg (by rw [txtL_length]; omega)]
  simp only at G
  obtain ⟨x, c, rfl, -, -⟩ := a1
  generalize 256 * (txtL s).getD 0 0 + (txtL s).getD 1 0 = m at *
  have h' : ((s.size : Int) != 2) = false := by simp; omega
  replace G := Lib.hid G
  replace b1 := Lib.hid b1
  replace h := Lib.hid h
  by_cases hm : m = 0
  · subst hm
    go_enter Tryd.func41, Tryd.ntmps41
    go_wp2_with fail
    refine G.out.mono ?_
    rintro e w' ⟨rfl, n, rfl⟩
    go_wp2_with fail
    go_ret2
    exact ⟨rfl, below_drewN b1.out n⟩
  · rw [if_neg hm]
    have hd : ((m : Int) == 0) = false := by rw [beq_eq_false_iff_ne]; omega
    replace hm := Lib.hid hm
    go_enter Tryd.func41, Tryd.ntmps41
    go_wp2_with fail
    refine G.out.mono ?_
    rintro e w' ⟨rfl, n, rfl⟩
    go_wp2_with fail
    go_ret2
    exact ⟨rfl, below_drewN b1.out n⟩
theorem txt_two (s : ByteArray) (h : 2 ≤ s.size) : numV (txtL (s.extract 0 2)) = numV (txtL s) ∧ (s.extract 0 2).size = 2 := by
  have hx : txtL (s.extract 0 2) = (txtL s).take 2 := by
    unfold txtL
    rw [Lib.extract_data]
    simp [List.map_take]
  have hs : (s.extract 0 2).size = 2 := by rw [ByteArray.size_extract]; omega
  refine ⟨?_, hs⟩
  unfold numV
  rw [if_neg (show ¬ (txtL (s.extract 0 2)).length < 2 by rw [txtL_length]; omega), if_neg (show ¬ (txtL s).length < 2 by rw [txtL_length]; omega), hx]
  have g : ∀ i, i < 2 → ((txtL s).take 2).getD i 0 = (txtL s).getD i 0 := fun i hi => by simp [List.getD, List.getElem?_take, hi]
  rw [g 0 (by omega), g 1 (by omega)]
set_option maxHeartbeats 1000000 in
set_option maxRecDepth 100000 in
theorem rbegin_any (s : ByteArray) (w : World) (hs : s.size ≤ 140737488351232) : Calls Tryd.prog 73 #[.string s] w (Num2 (numV (txtL s)) w) := by
  have hs' : (s.size : Int) ≤ 140737488351232 := by omega
  by_cases h : s.size < 2
  · have e : numV (txtL s) = (0, 2) := by unfold numV; rw [if_pos (by rw [txtL_length]; omega)]
    rw [e]
    have h' : (s.size : Int) < 2 := by omega
    clear e
    go_enter Tryd.func73, Tryd.ntmps73
    go_wp2
    go_ret2
    exact ⟨rfl, Below.refl _ _⟩
  · have h' : 2 ≤ (s.size : Int) := by omega
    obtain ⟨e, e2⟩ := txt_two s (by omega)
    have G := Lib.hid (fun w => rofid_any (s.extract 0 2) w e2)
    rw [e] at G
    generalize numV (txtL s) = r at *
    clear e e2 h
    go_enter Tryd.func73, Tryd.ntmps73
    go_wp2_with fail
    refine (G.out _).mono ?_
    rintro e w' ⟨rfl, hb⟩
    go_wp2_with fail
    go_ret2
    exact ⟨rfl, hb⟩
end Go.Proofs.YtmpklaokgogigaaDoor

/-
  LAYER 15: what Of reads: plain.
-/
namespace Go.Proofs.YtmpklaokgogigaaDoor
set_option linter.unusedSimpArgs false
set_option linter.unusedVariables false
open Go.RowKit

theorem rawV_end {l : List Nat} {at' : Int} (h : (rawV l at').2.2 = 0) (h256 : ∀ x ∈ l, x < 256) : ∃ k : Nat, (rawV l at').2.1 = k ∧ at' + 2 ≤ k ∧ k ≤ l.length := by
  by_cases h0 : (get2V l at').2.2 = 0
  · obtain ⟨k, m, rfl, hk, hm, e⟩ := get2_ok h0 h256
    unfold rawV at *
    rw [e] at h ⊢
    simp only [ne_eq, not_true, if_false] at h ⊢
    by_cases hlt : (l.length : Int) - ((k + 2 : Nat) : Int) < m
    · rw [if_pos hlt] at h; cases h
    · rw [if_neg hlt]; exact ⟨k + 2 + m, by simp, by omega, by omega⟩
  · unfold rawV at h; rw [if_pos h0] at h; exact absurd h h0
theorem getV_end {l : List Nat} {at' : Int} (h : (getV l at').2.2 = 0) (h256 : ∀ x ∈ l, x < 256) : ∃ k : Nat, (getV l at').2.1 = k ∧ at' + 2 ≤ k ∧ k ≤ l.length := by
  unfold getV at *
  split at h
  · cases h
  · rename_i hn
    rw [if_neg hn]
    exact rawV_end h h256
def noF : Fi := ⟨ByteArray.empty, 0⟩
/-- The filter at a place, the place behind it, and why there is none. -/
def filtV (l : List Nat) (k : Nat) (ends : Bool) : Fi × Nat × Int :=
  if (getV l k).2.2 ≠ 0 then (noF, 0, (getV l k).2.2)
  else if ends then (⟨(getV l k).1, 0⟩, (getV l k).2.1.toNat, 0)
  else if (getV l k).2.1.toNat = l.length then (noF, 0, 2)
  else if 2 < l.getD (getV l k).2.1.toNat 0 then (noF, 0, 5)
  else (⟨(getV l k).1, (l.getD (getV l k).2.1.toNat 0 : Nat)⟩, (getV l k).2.1.toNat + 1, 0)
theorem filtV_end {l : List Nat} {k : Nat} {ends : Bool} (h : (filtV l k ends).2.2 = 0) (h256 : ∀ x ∈ l, x < 256) : k < (filtV l k ends).2.1 ∧ (filtV l k ends).2.1 ≤ l.length := by
  unfold filtV at *
  by_cases h0 : (getV l k).2.2 ≠ 0
  · rw [if_pos h0] at h; exact absurd h h0
  obtain ⟨m, e, h1, h2⟩ := getV_end (Decidable.not_not.1 h0) h256
  rw [if_neg h0] at *
  rw [e, Int.toNat_natCast] at h ⊢
  cases ends
  · simp only [Bool.false_eq_true, if_false] at h ⊢
    by_cases h3 : m = l.length
    · rw [if_pos h3] at h; cases h
    rw [if_neg h3] at h ⊢
    by_cases h4 : 2 < l.getD m 0
    · rw [if_pos h4] at h; cases h
    rw [if_neg h4]
    simp only; omega
  · simp only [if_true] at h ⊢; omega
/-- What is yielded from a place on. -/
def seqL (l : List Nat) (ends : Bool) : Nat → Nat → List (Fi × Int)
  | 0, _ => []
  | n + 1, k => if l.length ≤ k then [] else ((filtV l k ends).1, (filtV l k ends).2.2) :: if (filtV l k ends).2.2 ≠ 0 then [] else seqL l ends n (filtV l k ends).2.1
theorem seqL_end {l : List Nat} {ends : Bool} {n k : Nat} (h : l.length ≤ k) : seqL l ends n k = [] := by
  cases n with
  | zero => rfl
  | succ n => rw [seqL, if_pos h]
theorem seqL_step {l : List Nat} {ends : Bool} {n k : Nat} (h : k < l.length) (hn : l.length - k ≤ n) : ∃ m, n = m + 1 ∧ seqL l ends n k = ((filtV l k ends).1, (filtV l k ends).2.2) :: if (filtV l k ends).2.2 ≠ 0 then [] else seqL l ends m (filtV l k ends).2.1 := by
  cases n with
  | zero => omega
  | succ n => exact ⟨n, rfl, by rw [seqL, if_neg (by omega)]⟩
/-- What comes of it, with room for n more. -/
def seqR : List (Fi × Int) → Nat → List Fi → List Fi × Int
  | [], _, acc => if acc = [] then ([], 4) else (acc, 0)
  | _ :: _, 0, _ => ([], 6)
  | x :: t, n + 1, acc => if x.2 ≠ 0 then ([], x.2) else seqR t n (acc ++ [x.1])
theorem seqR_done (S : List (Fi × Int)) (n : Nat) (acc : List Fi) (h : ∀ x ∈ S, x.2 = 0) (hl : S.length ≤ n) : seqR S n acc = if acc ++ S.map Prod.fst = [] then ([], 4) else (acc ++ S.map Prod.fst, 0) := by
  induction S generalizing n acc with
  | nil => simp [seqR]
  | cons x t ih =>
    cases n with
    | zero => simp at hl
    | succ n =>
      rw [seqR, if_neg (by simpa using h x (by simp)), ih n _ (fun y hy => h y (List.mem_cons_of_mem _ hy)) (by simpa using hl)]
      simp
theorem seqR_full (S : List (Fi × Int)) (x : Fi × Int) (t : List (Fi × Int)) (n : Nat) (acc : List Fi) (h : ∀ x ∈ S, x.2 = 0) (hl : S.length = n) : seqR (S ++ x :: t) n acc = ([], 6) := by
  induction S generalizing n acc with
  | nil => simp at hl; subst hl; rfl
  | cons y u ih =>
    cases n with
    | zero => simp at hl
    | succ n =>
      rw [List.cons_append, seqR, if_neg (by simpa using h y (by simp)), ih n _ (fun y hy => h y (List.mem_cons_of_mem _ hy)) (by simpa using hl)]
theorem seqR_err (S : List (Fi × Int)) (x : Fi × Int) (t : List (Fi × Int)) (n : Nat) (acc : List Fi) (h : ∀ x ∈ S, x.2 = 0) (hl : S.length < n) (hx : x.2 ≠ 0) : seqR (S ++ x :: t) n acc = ([], x.2) := by
  induction S generalizing n acc with
  | nil =>
    cases n with
    | zero => simp at hl
    | succ n => rw [List.nil_append, seqR, if_pos hx]
  | cons y u ih =>
    cases n with
    | zero => simp at hl
    | succ n =>
      rw [List.cons_append, seqR, if_neg (by simpa using h y (by simp)), ih n _ (fun y hy => h y (List.mem_cons_of_mem _ hy)) (by simpa using hl)]
theorem seqR_len (S : List (Fi × Int)) (n : Nat) (acc : List Fi) : (seqR S n acc).1.length ≤ acc.length + n := by
  induction S generalizing n acc with
  | nil => rw [seqR]; split <;> simp
  | cons x t ih =>
    cases n with
    | zero => simp [seqR]
    | succ n =>
      rw [seqR]
      split
      · simp
      · have := ih n (acc ++ [x.1]); simp at this; omega
/-- What Of answers. -/
def ofW (l : List Nat) (ends : Bool) : List Fi × Int := seqR (seqL l ends (l.length + 1) 2) 8 []
def ofV (l : List Nat) (ends : Bool) : Int × List Fi × Int :=
  if (numV l).2 ≠ 0 then (0, [], (numV l).2) else if (ofW l ends).2 ≠ 0 then (0, [], (ofW l ends).2) else ((numV l).1, (ofW l ends).1, 0)
def OfP (r : Int × List Fi × Int) (w : World) (e : Ending) (w' : World) : Prop := ∃ v, e = .returned (.tuple #[.int .i64 r.1, v, .int .i64 r.2.2]) ∧ (FisAt w' v r.2.1 ∧ Fresh w.heap.size v) ∧ Below w.heap.size w w'
def fisC (l : List Fi) : List Value := l.flatMap Fi.cells
theorem fisC_length (l : List Fi) : (fisC l).length = l.length * 2 := by
  induction l with
  | nil => rfl
  | cons f l ih => simp only [fisC, List.flatMap_cons, List.length_append] at ih ⊢; rw [ih]; simp [Fi.cells]; omega
theorem fisC_get (l : List Fi) : ∀ (i : Nat) (f : Fi), l[i]? = some f → (fisC l)[i * 2]? = some (.string f.t) ∧ (fisC l)[i * 2 + 1]? = some (.int .i64 f.q) := by
  induction l with
  | nil => intro i f h; simp at h
  | cons g l ih =>
    intro i f h
    cases i with
    | zero => simp at h; subst h; simp [fisC, Fi.cells]
    | succ i =>
      obtain ⟨h1, h2⟩ := ih i f (by simpa using h)
      have e : (i + 1) * 2 = i * 2 + 1 + 1 := by omega
      rw [e]
      have z : fisC (g :: l) = .string g.t :: .int .i64 g.q :: fisC l := by simp [fisC, Fi.cells]
      rw [z]
      simp only [List.getElem?_cons_succ]
      exact ⟨h1, h2⟩
theorem FisAt.of_own {w : World} {B : Nat} {v : Value} {l : List Fi} (h : w.ownsRow B 56 2 v l.length (fisC l)) (hl : l.length ≤ 9223372036854775807) : FisAt w v l := by
  obtain ⟨h1, h2⟩ := h
  rcases h2 with ⟨rfl, hn⟩ | ⟨g, cap, cur, hv, hb, hg, hnc, hcm, hcs, ht⟩
  · exact ⟨none, 0, by rw [hn], hl, .inl (List.eq_nil_of_length_eq_zero hn)⟩
  · refine ⟨_, cap, hv, hl, .inr ⟨g, 0, rfl, (Array.getElem?_eq_some_iff.1 hg).1, fun i f hi => ?_⟩⟩
    obtain ⟨x1, x2⟩ := fisC_get l i f hi
    rw [cell_of_row w g _ cur 56 (0, 0) hg, cell_of_row w g _ cur 56 (0, 0) hg, Nat.zero_add]
    rw [← ht, List.getElem?_take] at x1 x2
    split at x1
    · split at x2
      · exact ⟨by simpa using x1, by simpa using x2⟩
      · cases x2
    · cases x1
theorem cell_two_new (w : World) (x y : Value) (t : TypeId) : ∀ j u, [x, y][j]? = some u → (w.alloc (.cells #[x, y] t)).cell? ((⟨w.heap.size, 0, none⟩ : Addr).add j) = some u := by
  intro j u hj
  match j, hj with
  | 0, hj => simp at hj; subst hj; simp [Addr.add]
  | 1, hj => simp at hj; subst hj; simp [Addr.add]
theorem info47 : (Tryd.prog.info? 56).map (fun i => (i.zero, i.size, i.bytes)) = some (some (.agg #[.string ByteArray.empty, .int .i64 0]), 2, 24) := by kernel_rfl
end Go.Proofs.YtmpklaokgogigaaDoor
