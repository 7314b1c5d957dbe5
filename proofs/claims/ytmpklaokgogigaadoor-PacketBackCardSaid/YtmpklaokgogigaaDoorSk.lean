/-
  LAYER 15: numbers ahead, codes, of both sides.
-/
import Derived.Test.YtmpklaokgogigaaDoorUm
import Derived.Deep.DeepMust
import Derived.Laws.OwnMore
import Derived.Test.YtmpklaokgogigaaDoorBlk
import Derived.OpenShut
import Derived.SizedLaws
import Derived.Deep.Slices
import Derived.Laws.IdiomStrings
import Derived.WalkSpells
import Derived.StillTailTactics
import Derived.Deep.QuietTactic
import Derived.BigQuiet
namespace Go.Proofs.YtmpklaokgogigaaDoor
set_option linter.unusedSimpArgs false
set_option linter.unusedVariables false
open Go.RowKit

def Bs2 (E : Int) (L : List Nat) (w : World) (e : Ending) (w' : World) : Prop := ∃ v, e = .returned (.tuple #[v, .int .i64 E]) ∧ w'.ownsRow w.heap.size 5 1 v L.length (bl L) ∧ Below w.heap.size w w'
def beginE (id : Int) (n : Int) : Int := if id < 1 ∨ 65535 < id then 1 else if n = 0 then 4 else if 8 < n then 6 else 0
def beginL (id : Int) (n : Int) : List Nat := if beginE id n = 0 then [(id / 256).toNat, (id % 256).toNat] else []
theorem two_own (w : World) (n : Nat) : (w.alloc (.cells #[.int .u8 ((n / 256 : Nat) : Int), .int .u8 ((n % 256 : Nat) : Int)] 5)).ownsRow w.heap.size 5 1 (.slice (some ⟨w.heap.size, 0, none⟩) 2 2) 2 (bl [n / 256, n % 256]) := by
  have := World.ownsRow_lit (base := w.heap.size) (e := 5) (size := 1) w #[.int .u8 ((n / 256 : Nat) : Int), .int .u8 ((n % 256 : Nat) : Int)] 2 (by simp) (by unfold maxLen; omega) rfl
  simpa [bl] using this
theorem own_nil (w : World) (B : Nat) : w.ownsRow B 5 1 (.slice none 0 0) 0 (bl []) := World.ownsRow_nil w B 5 1
set_option maxRecDepth 100000 in
theorem begin_any (id : Int) (n : Int) (w : World) (hid : -9223372036854775808 ≤ id ∧ id ≤ 9223372036854775807) (h0 : 0 ≤ n) : Calls Tryd.prog 67 #[.int .i64 id, .int .i64 n] w (Bs2 (beginE id n) (beginL id n) w) := by
  by_cases h1 : id < 1 ∨ 65535 < id
  · have e : beginE id n = 1 := by unfold beginE; rw [if_pos h1]
    have l : beginL id n = [] := by unfold beginL; rw [if_neg (by rw [e]; decide)]
    rw [e, l]
    have h1' : id < 1 ∨ (1 ≤ id ∧ 65535 < id) := by omega
    clear e l h1
    rcases h1' with h | ⟨h, h'⟩
    all_goals
      go_enter Tryd.func67, Tryd.ntmps67
      go_wp2
      go_ret2
      exact ⟨_, rfl, own_nil _ _, Below.refl _ _⟩
  obtain ⟨k, rfl⟩ := Int.eq_ofNat_of_zero_le (show 0 ≤ id by omega)
  have k1 : (1 : Int) ≤ k := by omega
  have k2 : (k : Int) ≤ 65535 := by omega
  by_cases h2 : n = 0
  · subst h2
    have e : beginE k 0 = 4 := by unfold beginE; rw [if_neg h1, if_pos rfl]
    have l : beginL k 0 = [] := by unfold beginL; rw [if_neg (by rw [e]; decide)]
    rw [e, l]
    clear e l h1
    go_enter Tryd.func67, Tryd.ntmps67
    go_wp2
    go_ret2
    exact ⟨_, rfl, own_nil _ _, Below.refl _ _⟩
  by_cases h3 : 8 < n
  · have e : beginE k n = 6 := by unfold beginE; rw [if_neg h1, if_neg h2, if_pos h3]
    have l : beginL k n = [] := by unfold beginL; rw [if_neg (by rw [e]; decide)]
    rw [e, l]
    clear e l h1 h2
    go_enter Tryd.func67, Tryd.ntmps67
    go_wp2
    go_ret2
    exact ⟨_, rfl, own_nil _ _, Below.refl _ _⟩
  · have e : beginE k n = 0 := by unfold beginE; rw [if_neg h1, if_neg h2, if_neg h3]
    have l : beginL k n = [k / 256, k % 256] := by
      unfold beginL; rw [if_pos e]
      simp only [List.cons.injEq, and_true]; omega
    rw [e, l]
    have P := Lib.hid (fun w => put2_any k w (by omega))
    have n0 : (n == 0) = false := by simpa using h2
    clear e l h1
    replace h2 := Lib.hid h2
    go_enter Tryd.func67, Tryd.ntmps67
    go_wp2_with fail
    refine (P.out _).mono ?_
    rintro e w1 ⟨rfl, rfl⟩
    go_wp2_with fail
    go_ret2
    exact ⟨_, rfl, two_own w k, ext_alloc _ _⟩
/-- May a code be? -/
def codeB (c : Int) : Bool := decide ((0 ≤ c ∧ c ≤ 2) ∨ c = 128)
set_option maxRecDepth 100000 in
theorem code_any (g : FuncId) (hg : g = 68 ∨ g = 74) (c : Int) (w : World) : Calls Tryd.prog g #[.int .i64 c] w fun e w' => e = .returned (.bool (codeB c)) ∧ w = w' := by
  have key : (c < 0) ∨ (c = 0 ∨ c = 1 ∨ c = 2) ∨ c = 128 ∨ (2 < c ∧ c ≠ 128) := by omega
  rcases key with h | h | h | ⟨h, h'⟩
  · have : codeB c = false := decide_eq_false (by omega)
    rw [this]
    have e1 : (c == 128) = false := by rw [beq_eq_false_iff_ne]; omega
    rcases hg with rfl | rfl
    · go_enter Tryd.func68, Tryd.ntmps68
      go_wp2
      go_ret
      exact ⟨rfl, rfl⟩
    · go_enter Tryd.func74, Tryd.ntmps74
      go_wp2
      go_ret
      exact ⟨rfl, rfl⟩
  · have : codeB c = true := decide_eq_true (by omega)
    rw [this]
    rcases h with rfl | rfl | rfl
    all_goals
      rcases hg with rfl | rfl
      · go_enter Tryd.func68, Tryd.ntmps68
        go_wp2
        go_ret
        exact ⟨rfl, rfl⟩
      · go_enter Tryd.func74, Tryd.ntmps74
        go_wp2
        go_ret
        exact ⟨rfl, rfl⟩
  · subst h
    rcases hg with rfl | rfl
    · go_enter Tryd.func68, Tryd.ntmps68
      go_wp2
      go_ret
      exact ⟨rfl, rfl⟩
    · go_enter Tryd.func74, Tryd.ntmps74
      go_wp2
      go_ret
      exact ⟨rfl, rfl⟩
  · have : codeB c = false := decide_eq_false (by omega)
    rw [this]
    have e1 : (c == 128) = false := by rw [beq_eq_false_iff_ne]; omega
    have e2 : decide (c ≤ 2) = false := decide_eq_false (by omega)
    have e3 : 0 ≤ c := by omega
    replace h' := Lib.hid h'
    rcases hg with rfl | rfl
    · go_enter Tryd.func68, Tryd.ntmps68
      go_wp2
      go_ret
      exact ⟨rfl, rfl⟩
    · go_enter Tryd.func74, Tryd.ntmps74
      go_wp2
      go_ret
      exact ⟨rfl, rfl⟩
end Go.Proofs.YtmpklaokgogigaaDoor

/-
  LAYER 15: filters; the program's Put, the document's.
-/
namespace Go.Proofs.YtmpklaokgogigaaDoor
set_option linter.unusedSimpArgs false
set_option linter.unusedVariables false
open Go.RowKit

structure Fi where
  t : ByteArray
  q : Int
def Fi.cells (f : Fi) : List Value := [.string f.t, .int .i64 f.q]
def Fi.ok (f : Fi) : Prop := f.t.size ≤ 140737488351232 ∧ -9223372036854775808 ≤ f.q ∧ f.q ≤ 9223372036854775807
/-- The slice value v reads as the filters l. -/
def FisAt (w : World) (v : Value) (l : List Fi) : Prop :=
  ∃ a cap, v = .slice a l.length cap ∧ l.length ≤ 9223372036854775807 ∧ (l = [] ∨ ∃ b o, a = some ⟨b, o, none⟩ ∧ b < w.heap.size ∧ ∀ i f, l[i]? = some f → w.cell? ⟨b, o + i * 2, none⟩ = some (.string f.t) ∧ w.cell? ⟨b, o + i * 2 + 1, none⟩ = some (.int .i64 f.q))
theorem FisAt.keep {w w' : World} {v : Value} {l : List Fi} (h : FisAt w v l) {B : Nat} (hb : Below B w w') (hB : w.heap.size ≤ B) : FisAt w' v l := by
  obtain ⟨a, cap, hv, hc, h⟩ := h
  refine ⟨a, cap, hv, hc, h.imp id ?_⟩
  rintro ⟨b, o, ha, hlt, hcell⟩
  exact ⟨b, o, ha, Nat.lt_of_lt_of_le hlt hb.size, fun i f hi => by rw [hb.cell (by simpa using by omega), hb.cell (by simpa using by omega)]; exact hcell i f hi⟩
/-- Why a text is none. -/
def txtE (s : ByteArray) : Int := if 65535 < s.size then 3 else if rightB s then 0 else 9
/-- Why a wish may not be. -/
def fiE (ends : Bool) (f : Fi) : Int := if ends = false ∧ (f.q < 0 ∨ 2 < f.q) then 5 else txtE f.t
def fiL (ends : Bool) (f : Fi) : List Nat := rawL f.t ++ if ends then [] else [f.q.toNat]
def firstF (ends : Bool) : List Fi → Int
  | [] => 0
  | f :: l => if fiE ends f ≠ 0 then fiE ends f else firstF ends l
def fisL (ends : Bool) (l : List Fi) : List Nat := l.flatMap (fiL ends)
def putE (id : Int) (l : List Fi) (ends : Bool) : Int :=
  if beginE id l.length ≠ 0 then beginE id l.length else if firstF ends l ≠ 0 then firstF ends l else if 4096 < 2 + (fisL ends l).length then 3 else 0
def putLs (id : Int) (l : List Fi) (ends : Bool) : List Nat := if putE id l ends = 0 then [(id / 256).toNat, (id % 256).toNat] ++ fisL ends l else []
theorem firstF_zero {ends : Bool} {l : List Fi} : firstF ends l = 0 ↔ ∀ f ∈ l, fiE ends f = 0 := by
  induction l with
  | nil => simp [firstF]
  | cons f l ih =>
    rw [firstF]
    by_cases h : fiE ends f = 0
    · rw [if_neg (by simpa using h), ih]; simp [h]
    · rw [if_pos h]
      exact ⟨fun e => absurd e h, fun e => e f (by simp)⟩
theorem firstF_at {ends : Bool} {l : List Fi} {i : Nat} {f : Fi} (h : ∀ g ∈ l.take i, fiE ends g = 0) (hi : l[i]? = some f) (hf : fiE ends f ≠ 0) : firstF ends l = fiE ends f := by
  induction l generalizing i with
  | nil => simp at hi
  | cons g l ih =>
    cases i with
    | zero => simp at hi; subst hi; rw [firstF, if_pos hf]
    | succ k =>
      rw [firstF, if_neg (by simpa using h g (by simp))]
      exact ih (i := k) (fun g hg => h g (by rw [List.take_succ_cons]; exact List.mem_cons_of_mem _ hg)) (by simpa using hi)
theorem fisL_snoc (ends : Bool) (l : List Fi) (f : Fi) : fisL ends (l ++ [f]) = fisL ends l ++ fiL ends f := by simp [fisL]
theorem fisL_len (ends : Bool) (l : List Fi) (h : ∀ f ∈ l, fiE ends f = 0) : (fisL ends l).length ≤ l.length * 65538 := by
  induction l with
  | nil => simp [fisL]
  | cons f l ih =>
    have h1 := h f (by simp)
    have : f.t.size ≤ 65535 := by
      unfold fiE txtE at h1
      by_cases a : ends = false ∧ (f.q < 0 ∨ 2 < f.q)
      · rw [if_pos a] at h1; cases h1
      · rw [if_neg a] at h1
        by_cases b : 65535 < f.t.size
        · rw [if_pos b] at h1; cases h1
        · omega
    have h2 : (fiL ends f).length ≤ 65538 := by
      unfold fiL
      rw [List.length_append, rawL_length]
      cases ends <;> simp <;> omega
    have := ih fun g hg => h g (List.mem_cons_of_mem _ hg)
    simp only [fisL, List.flatMap_cons, List.length_append, List.length_cons] at this ⊢
    omega
/-- A text's bytes, of both sides. -/
def TxtP (s : ByteArray) (w : World) (e : Ending) (w' : World) : Prop := ∃ v, e = .returned (.tuple #[v, .int .i64 (txtE s)]) ∧ Below w.heap.size w w' ∧ (txtE s = 0 → BytesAt w' v (rawL s))
theorem own_bytes {w : World} {B : Nat} {v : Value} {l : List Nat} (h : w.ownsRow B 5 1 v l.length (bl l)) : BytesAt w v l := BytesAt.of_own h
end Go.Proofs.YtmpklaokgogigaaDoor

/-
  LAYER 15: the program's Put.
-/
namespace Go.Proofs.YtmpklaokgogigaaDoor
set_option linter.unusedSimpArgs false
set_option linter.unusedVariables false
open Go.RowKit

theorem own_below {w w' : World} {B : Nat} {v : Value} {n : Nat} {xs : List Value} {e : TypeId} (h : w.ownsRow B e 1 v n xs) (hb : Below w.heap.size w w') : w'.ownsRow B e 1 v n xs := by
  refine ⟨h.1, h.2.imp id ?_⟩
  rintro ⟨g, cap, cur, hv, hg, hcur, rest⟩
  exact ⟨g, cap, cur, hv, hg, by rw [hb.block g (Array.getElem?_eq_some_iff.1 hcur).1]; exact hcur, rest⟩
theorem grown_ext {B : Nat} {w w' : World} {v : Value} {n : Nat} {xs : List Value} {e : TypeId} (hown : w.ownsRow B e 1 v n xs) (hg : w.grownBy w' v.ownBlock) (hB : B ≤ w.heap.size) : Below B w w' :=
  (Below.refl _ _).grown hg hB (fun k hk => (hown.lt k hk).1)
/-- What Put's round holds: the bytes so far. -/
def HP (w : World) (L : List Nat) (v : Value) (wr : World) : Prop := wr.ownsRow w.heap.size 5 1 v L.length (bl L) ∧ Below w.heap.size w wr
def PutsP (E : Int) (L : List Nat) (w : World) (e : Ending) (w' : World) : Prop := ∃ v, e = .returned (.tuple #[v, .int .i64 E]) ∧ BytesAt w' v L ∧ Below w.heap.size w w'
theorem bytes_nil (w : World) : BytesAt w (.slice none 0 0) [] := ⟨none, 0, rfl, ⟨by simp, fun _ => rfl⟩, .inl rfl⟩
theorem one_at (w : World) (q : Nat) : BytesAt (w.alloc (.cells #[.int .u8 (q : Int)] 5)) (.slice (some ⟨w.heap.size, 0, none⟩) 1 1) [q] := by
  refine ⟨_, 1, rfl, ⟨by simp, fun h => by cases h⟩, .inr ⟨w.heap.size, 0, rfl, by simp, fun i hi => ?_⟩⟩
  rw [World.cell?_alloc_at _ _ _ _ rfl]
  have : i = 0 := by simp at hi; omega
  subst this; simp
theorem fi_at {w wr : World} {a : Option Addr} {l : List Fi} {k : Nat} {f : Fi} (hf : l[k]? = some f) (hb : Below w.heap.size w wr)
    (hc : l = [] ∨ ∃ b o, a = some ⟨b, o, none⟩ ∧ b < w.heap.size ∧ ∀ i f, l[i]? = some f → w.cell? ⟨b, o + i * 2, none⟩ = some (.string f.t) ∧ w.cell? ⟨b, o + i * 2 + 1, none⟩ = some (.int .i64 f.q)) :
    ∃ b o, a = some ⟨b, o, none⟩ ∧ b < w.heap.size ∧ wr.cell? ⟨b, o + k * 2, none⟩ = some (.string f.t) ∧ wr.cell? ⟨b, o + k * 2 + 1, none⟩ = some (.int .i64 f.q) := by
  rcases hc with h | ⟨b, o, ha, hlt, hc⟩
  · subst h; simp at hf
  · obtain ⟨h1, h2⟩ := hc k f hf
    exact ⟨b, o, ha, hlt, by rw [hb.cell (by simpa using hlt)]; exact h1, by rw [hb.cell (by simpa using hlt)]; exact h2⟩
theorem fiE_qos {f : Fi} (h : f.q < 0 ∨ 2 < f.q) : fiE false f = 5 := by unfold fiE; rw [if_pos ⟨rfl, h⟩]
theorem fiE_txt {ends : Bool} {f : Fi} (h : ends = true ∨ (0 ≤ f.q ∧ f.q ≤ 2)) : fiE ends f = txtE f.t := by
  unfold fiE; rw [if_neg]; rintro ⟨h1, h2⟩; rcases h with h | h
  · rw [h1] at h; cases h
  · omega
end Go.Proofs.YtmpklaokgogigaaDoor

/-
  LAYER 15: the document's Put.
-/
namespace Go.Proofs.YtmpklaokgogigaaDoor
set_option linter.unusedSimpArgs false
set_option linter.unusedVariables false
open Go.RowKit

def idE (id : Int) : Int := if id < 1 ∨ 65535 < id then 1 else 0
def idL (id : Int) : List Nat := if idE id = 0 then [(id / 256).toNat, (id % 256).toNat] else []
theorem cell_ext {w wr W : World} {p : Addr} {u : Value} (hp : p.block < w.heap.size) (h1 : Below w.heap.size w wr) (h2 : Below w.heap.size w W) (h : wr.cell? p = some u) : W.cell? p = some u := by
  rw [h2.cell hp, ← h1.cell hp]; exact h
end Go.Proofs.YtmpklaokgogigaaDoor

/-
  LAYER 15: a slice of filters that came in.
-/
namespace Go.Proofs.YtmpklaokgogigaaDoor
set_option linter.unusedSimpArgs false
set_option linter.unusedVariables false
open Go.RowKit

theorem list_2 {α : Type} {l : List α} (h : l.length = 2) : ∃ x0 x1, l = [x0, x1] := by
  match l, h with
  | [x0, x1], _ => exact ⟨_, _, rfl⟩
theorem fis_nil (w : World) : FisAt w (.slice none 0 0) [] := ⟨none, 0, rfl, by simp, .inl rfl⟩
theorem open_fi {H : Type} {enc : TypeId × Value → H} {w : World} {base : Nat} {spare : Nat → Bool} {held : Bool} {fuel : Nat} {cs : List Value} {x : DataW H × List MemPlace}
    (h : DataW.trod enc Tryd.prog w base spare held fuel 56 cs = some x) (hs : ∀ n ∈ x.1.weights Tryd.prog 56, n ≤ 140737488351232) : ∃ f : Fi, cs = f.cells ∧ f.ok := by
  obtain ⟨xs, n, -, rfl, hl, hlen, hg⟩ := DataW.trod_struct Tryd.underlying56 h
  rw [show Tryd.prog.cellsOf 56 = 2 from by kernel_rfl] at hl
  obtain ⟨c0, c1, rfl⟩ := list_2 hl
  obtain ⟨y0, y1, rfl⟩ := list_2 hlen
  have g0 := hg 0 _ rfl
  simp only [List.getElem_toArray, List.getElem_cons_zero, List.getElem_cons_succ, show Tryd.prog.cellsOf 9 = 1 from by kernel_rfl, List.drop_zero, List.drop_succ_cons, List.take_succ_cons, List.take_zero, List.getElem?_cons_zero, List.getElem?_cons_succ] at g0
  obtain ⟨a0, q0, rfl, w0⟩ := DataW.trod_string Tryd.underlying9 g0
  obtain rfl : c0 = .string a0 := by simpa using q0
  have g1 := hg 1 _ rfl
  simp only [List.getElem_toArray, List.getElem_cons_zero, List.getElem_cons_succ, show Tryd.prog.cellsOf 3 = 1 from by kernel_rfl, List.drop_zero, List.drop_succ_cons, List.take_succ_cons, List.take_zero, List.getElem?_cons_zero, List.getElem?_cons_succ] at g1
  obtain ⟨a1, q1, rfl, w1⟩ := DataW.trod_int Tryd.underlying3 g1
  obtain rfl : c1 = .int .i64 a1 := by simpa using q1
  refine ⟨⟨a0, a1⟩, rfl, ?_, (wf_i64 w1).1, (wf_i64 w1).2⟩
  have := hs a0.data.toList.length (by simp [DataW.weights, DataW.weightsEach, Tryd.underlying56, Tryd.underlying9])
  simpa using this
theorem weightsAll_mem {H : Type} {P : Program} {e : TypeId} {d : DataW H} : ∀ {l : List (DataW H)}, d ∈ l → ∀ n ∈ d.weights P e, n ∈ DataW.weightsAll P e l
  | x :: l, h, n, hn => by
    rw [DataW.weightsAll]
    rcases List.mem_cons.1 h with rfl | h
    · exact List.mem_append_left _ hn
    · exact List.mem_append_right _ (weightsAll_mem h n hn)
theorem add_off (b o i : Nat) : (⟨b, o, none⟩ : Addr).add i = ⟨b, o + i, none⟩ := by unfold Addr.add; split <;> simp_all
/-- A slice of filters that came in reads as filters. -/
theorem open_fis {H : Type} {enc : TypeId × Value → H} {w : World} {fuel : Nat} {a : Option Addr} {len cap : Nat} {x : DataW H × List MemPlace}
    (h : DataW.trod enc Tryd.prog w 0 (fun _ => true) true fuel 30 [.slice a len cap] = some x) (hs : ∀ n ∈ x.1.weights Tryd.prog 30, n ≤ 140737488351232) :
    ∃ l : List Fi, FisAt w (.slice a len cap) l ∧ ∀ f ∈ l, f.ok := by
  rcases Go.Deep.open_slice Tryd.underlying30 h with ⟨hcs, hx⟩ | ⟨a', len', cap', m, n, D, Pl, hcs, -, hl, hm, hmm, rfl, hx⟩
  · simp only [List.cons.injEq, Value.slice.injEq, and_true] at hcs
    obtain ⟨rfl, rfl, rfl⟩ := hcs
    exact ⟨[], fis_nil _, by simp⟩
  · simp only [List.cons.injEq, Value.slice.injEq, and_true] at hcs
    obtain ⟨rfl, rfl, rfl⟩ := hcs
    have hml : len ≤ m := by rw [hmm]; split <;> omega
    have key : ∀ i, i < len → ∃ f : Fi, w.cells? 0 (a'.add (i * 2)) 2 = some f.cells ∧ f.ok := fun i hi => by
      obtain ⟨cs', h1, h2⟩ := hx i (by omega)
      rw [show Tryd.prog.cellsOf 56 = 2 from by kernel_rfl] at h1
      obtain ⟨f, rfl, ok⟩ := open_fi h2 (fun n hn => hs n (by
        simp only [DataW.weights, Tryd.underlying30]
        refine List.mem_cons_of_mem _ (List.mem_append_left _ (weightsAll_mem (d := D i) (List.mem_map.2 ⟨i, List.mem_range.2 hi, rfl⟩) n hn))))
      exact ⟨f, h1, ok⟩
    haveI : Inhabited Fi := ⟨⟨⟨#[]⟩, 0⟩⟩
    obtain ⟨F, hF⟩ := Go.Deep.choose_lt key
    have hlen : ((List.range len).map F).length = len := by simp
    refine ⟨(List.range len).map F, ⟨some a', cap, by rw [hlen], by rw [hlen]; unfold maxLen at hm; omega, ?_⟩, ?_⟩
    · by_cases h0 : len = 0
      · subst h0; exact .inl rfl
      · right
        have hc0 := (hF 0 (by omega)).1
        obtain ⟨b, o, spot⟩ := a'
        have hc := (World.cells?_some hc0)
        have hsp : spot = none := by
          have := hc.2.2 0 (by omega)
          rw [show (Fi.cells (F 0))[0]? = some (.string (F 0).t) from rfl] at this
          simpa [Addr.add] using World.cell?_spot this
        subst hsp
        refine ⟨b, o, rfl, by have := World.cells?_block hc0 (by omega); simpa [Addr.add] using this, fun i f hi => ?_⟩
        have hil : i < len := by have := (List.getElem?_eq_some_iff.1 hi).1; simpa using this
        have hf : F i = f := by simpa [hil] using hi
        subst hf
        have h0 := (World.cells?_some (hF i hil).1).2.2 0 (by omega)
        have h1 := (World.cells?_some (hF i hil).1).2.2 1 (by omega)
        rw [add_off, add_off] at h0 h1
        exact ⟨h0, h1⟩
    · intro f hf
      obtain ⟨i, hi, rfl⟩ := List.mem_map.1 hf
      exact (hF i (List.mem_range.1 hi)).2
end Go.Proofs.YtmpklaokgogigaaDoor

/-
  LAYER 15: the law's own: awake.
-/
namespace Go.Proofs.YtmpklaokgogigaaDoor
set_option linter.unusedSimpArgs false
set_option linter.unusedVariables false
open Go.RowKit

def oneF : Fi := ⟨⟨#[97]⟩, 2⟩
theorem fis_lit (w : World) (f : Fi) : FisAt (w.alloc (.cells f.cells.toArray 56)) (.slice (some ⟨w.heap.size, 0, none⟩) 1 1) [f] := by
  refine ⟨some ⟨w.heap.size, 0, none⟩, 1, rfl, by simp, .inr ⟨w.heap.size, 0, rfl, by simp, fun i g hi => ?_⟩⟩
  have hi0 : i = 0 := by
    have := (List.getElem?_eq_some_iff.1 hi).1
    simp at this; omega
  subst hi0
  simp at hi
  subst hi
  exact ⟨by rw [World.cell?_alloc_at _ _ _ _ rfl]; rfl, by rw [World.cell?_alloc_at _ _ _ _ rfl]; rfl⟩
theorem putE1 : putE 1 [oneF] false = 0 := by decide
theorem putL1 : putLs 1 [oneF] false = [0, 1, 0, 1, 97, 2] := by decide
end Go.Proofs.YtmpklaokgogigaaDoor

/-
  LAYER 15: answers: PutAck of both sides.
-/
namespace Go.Proofs.YtmpklaokgogigaaDoor
set_option linter.unusedSimpArgs false
set_option linter.unusedVariables false
open Go.RowKit

/-- The slice value v reads as the numbers l. -/
def IntsAt (w : World) (v : Value) (l : List Int) : Prop :=
  ∃ a cap, v = .slice a l.length cap ∧ l.length ≤ 9223372036854775807 ∧ (l = [] ∨ ∃ b o, a = some ⟨b, o, none⟩ ∧ b < w.heap.size ∧ ∀ i, i < l.length → w.cell? ⟨b, o + i, none⟩ = some (.int .i64 (l.getD i 0)))
/-- What a slice holds lies in a block that was made behind B. -/
def Fresh (B : Nat) (v : Value) : Prop := ∀ g, v.ownBlock = some g → B ≤ g
theorem fresh_nil (B : Nat) : Fresh B (.slice none 0 0) := fun g h => by cases h
theorem fresh_own {w : World} {B C e k n : Nat} {v : Value} {xs : List Value} (h : w.ownsRow C e k v n xs) (hB : B ≤ C) : Fresh B v := fun g hg => Nat.le_trans hB (h.lt g hg).1
theorem IntsAt.keep {w w' : World} {v : Value} {l : List Int} (h : IntsAt w v l) {B : Nat} (hb : Below B w w') (hB : w.heap.size ≤ B) : IntsAt w' v l := by
  obtain ⟨a, cap, hv, hc, h⟩ := h
  refine ⟨a, cap, hv, hc, h.imp id ?_⟩
  rintro ⟨b, o, ha, hlt, hcell⟩
  exact ⟨b, o, ha, Nat.lt_of_lt_of_le hlt hb.size, fun i hi => by rw [hb.cell (by simpa using by omega)]; exact hcell i hi⟩
theorem IsRow.ints {w : World} {a : Option Addr} {len cap : Nat} {zs : List Int} (h : IsRow .i64 w a len cap zs) : IntsAt w (.slice a len cap) (zs.take len) ∧ ∀ c ∈ zs.take len, -9223372036854775808 ≤ c ∧ c ≤ 9223372036854775807 := by
  have hl := h.len_le
  have hc := h.cellAt
  have e : (zs.take len).length = len := by
    rcases h with ⟨rfl, rfl, rfl, rfl⟩ | ⟨x, rfl, hl, hm, hz, hcell, hwz⟩
    · rfl
    · simp; omega
  refine ⟨⟨a, cap, by rw [e], by rw [e]; omega, ?_⟩, ?_⟩
  · rcases hc with h0 | ⟨b, o, ha, hb, hcell⟩
    · left; exact List.eq_nil_of_length_eq_zero (by omega)
    · right
      refine ⟨b, o, ha, hb, fun i hi => ?_⟩
      rw [(hcell i (by omega)).1]
      simp [List.getD, List.getElem?_take, show i < len by omega]
  · intro c hcm
    rcases h with ⟨rfl, rfl, rfl, rfl⟩ | ⟨x, rfl, hl, hm, hz, hcell, hwz⟩
    · simp at hcm
    · exact wf_i64 (hwz c (List.mem_of_mem_take hcm))
def ackE (id : Int) (l : List Int) : Int := if beginE id l.length ≠ 0 then beginE id l.length else if l.all codeB then 0 else 5
def ackL (id : Int) (l : List Int) : List Nat := if ackE id l = 0 then [(id / 256).toNat, (id % 256).toNat] ++ l.map Int.toNat else []
theorem codeB_lo {c : Int} (h : codeB c = true) : 0 ≤ c ∧ c ≤ 128 := by unfold codeB at h; have := of_decide_eq_true h; omega
theorem code_wrap {c : Int} (h : codeB c = true) : IntKind.u8.wrap c = ((c.toNat : Nat) : Int) := by
  have := codeB_lo h
  rw [IntKind.wrap_u8']; omega
theorem int_at {w wr : World} {a : Option Addr} {l : List Int} {k : Nat} (hk : k < l.length) (hb : Below w.heap.size w wr)
    (hc : l = [] ∨ ∃ b o, a = some ⟨b, o, none⟩ ∧ b < w.heap.size ∧ ∀ i, i < l.length → w.cell? ⟨b, o + i, none⟩ = some (.int .i64 (l.getD i 0))) :
    ∃ b o, a = some ⟨b, o, none⟩ ∧ b < w.heap.size ∧ wr.cell? ⟨b, o + k, none⟩ = some (.int .i64 (l.getD k 0)) := by
  rcases hc with h | ⟨b, o, ha, hlt, hc⟩
  · subst h; simp at hk
  · exact ⟨b, o, ha, hlt, by rw [hb.cell (by simpa using hlt)]; exact hc k hk⟩
theorem take_snocI (l : List Int) (k : Nat) (h : k < l.length) : l.take (k + 1) = l.take k ++ [l.getD k 0] := by
  rw [List.take_succ_eq_append_getElem h]; simp [List.getD, h]
theorem begin_zero {id n : Int} (h0 : 0 ≤ n) (hB : beginE id n = 0) : n ≤ 8 ∧ n ≠ 0 ∧ (1 ≤ id ∧ id ≤ 65535) := by
  unfold beginE at hB
  by_cases c1 : id < 1 ∨ 65535 < id
  · rw [if_pos c1] at hB; cases hB
  rw [if_neg c1] at hB
  by_cases c2 : n = 0
  · rw [if_pos c2] at hB; cases hB
  rw [if_neg c2] at hB
  by_cases c3 : 8 < n
  · rw [if_pos c3] at hB; cases hB
  omega
set_option maxHeartbeats 4000000 in
set_option maxRecDepth 100000 in
theorem ack15_any (id : Int) (v : Value) (l : List Int) (w : World) (hid : -9223372036854775808 ≤ id ∧ id ≤ 9223372036854775807) (hs : IntsAt w v l) :
    Calls Tryd.prog 80 #[.int .i64 id, v] w (PutsP (ackE id l) (ackL id l) w) := by
  obtain ⟨i0, hi, hz0, hz1, hz2⟩ := info_parts info5
  replace hi := Lib.hid hi
  replace hz0 := Lib.hid hz0
  replace hz1 := Lib.hid hz1
  replace hz2 := Lib.hid hz2
  obtain ⟨a, cap, rfl, hlen, hc⟩ := hs
  have BG := Lib.hid (begin_any id l.length w hid (by omega))
  have hlen' : (l.length : Int) ≤ 9223372036854775807 := by omega
  replace hid := Lib.hid hid
  replace hc := Lib.hid hc
  by_cases hB : ¬ beginE id l.length = 0
  · have e : ackE id l = beginE id l.length := by unfold ackE; rw [if_pos hB]
    have el : ackL id l = [] := by unfold ackL; rw [if_neg (by rw [e]; exact hB)]
    rw [e, el]
    clear e el
    have hd : (beginE id l.length != 0) = true := by simpa using hB
    generalize beginE id l.length = E at *
    replace hB := Lib.hid hB
    go_enter Tryd.func80, Tryd.ntmps80
    go_wp2_with fail
    refine (BG.out).mono ?_
    rintro e w1 ⟨v1, rfl, -, hb⟩
    replace hb := Lib.hid hb
    go_wp2_with fail
    go_ret2
    exact ⟨_, rfl, bytes_nil _, hb.out⟩
  · replace hB := Decidable.not_not.1 hB
    obtain ⟨hl8, -, -⟩ := begin_zero (by omega) hB
    have el : beginL id l.length = [(id / 256).toNat, (id % 256).toNat] := by unfold beginL; rw [if_pos hB]
    have e : ackE id l = if l.all codeB then 0 else 5 := by unfold ackE; rw [if_neg (by simpa using hB)]
    have pl : ackL id l = if ackE id l = 0 then [(id / 256).toNat, (id % 256).toNat] ++ l.map Int.toNat else [] := rfl
    rw [hB, el] at BG
    replace el := Lib.hid el
    generalize ackL id l = PL at *
    generalize ackE id l = PE at *
    generalize hH : [(id / 256).toNat, (id % 256).toNat] = H at *
    have hH2 : H.length = 2 := by rw [← hH]; rfl
    replace hH := Lib.hid hH
    replace e := Lib.hid e
    replace pl := Lib.hid pl
    replace hB := Lib.hid hB
    replace hH2 := Lib.hid hH2
    go_enter Tryd.func80, Tryd.ntmps80
    go_wp2_with fail
    refine (BG.out).mono ?_
    rintro e1 w1 ⟨v1, rfl, ho, hb⟩
    obtain ⟨a1, c1, rfl⟩ : ∃ a c, v1 = .slice a H.length c := by
      obtain ⟨a', c', hv, -⟩ := BytesAt.of_own ho
      exact ⟨a', c', hv⟩
    replace ho := Lib.hid ho
    replace hb := Lib.hid hb
    go_wp2_with fail
    go_loopw [6, 22] (fun o i wr => ∃ k : Nat, i = .int .i64 k ∧ k ≤ l.length ∧ (∀ g ∈ l.take k, codeB g = true) ∧ HP w (H ++ (l.take k).map Int.toNat) o wr) (fun _ i _ => l.length - (intOf i).toNat)
    case atStart => exact ⟨0, rfl, by omega, by simp, by simpa using ho.out, hb.out⟩
    case round =>
      obtain ⟨k, rfl, hk, hall, hown, hb1⟩ := hrel
      clear hb ho BG
      replace hall := Lib.hid hall
      replace hb1 := Lib.hid hb1
      by_cases hend : k = l.length
      · subst hend
        rw [List.take_length] at hown hall
        have hA : l.all codeB = true := List.all_eq_true.2 hall.out
        have hE : PE = 0 := by rw [e.out, if_pos hA]
        have pl' := pl.out
        rw [hE, if_pos rfl] at pl'
        have hB2 := BytesAt.of_own hown
        generalize H ++ l.map Int.toNat = L at *
        replace hE := Lib.hid hE
        replace hA := Lib.hid hA
        replace pl' := Lib.hid pl'
        replace hB2 := Lib.hid hB2
        clear hown
        go_wp2_with fail
        go_ret2
        exact ⟨_, by rw [hE.out]; rfl, by rw [pl'.out]; exact hB2.out, hb1.out⟩
      have klt : (k : Int) < (l.length : Int) := by omega
      have klt' : k < l.length := by omega
      obtain ⟨b, o, rfl, hbl, q0⟩ := int_at klt' hb1.out hc.out
      have hsn := take_snocI l k klt'
      generalize hcd : l.getD k 0 = c at *
      have hmem : c ∈ l := by rw [← hcd]; simp [List.getD, klt']
      have hlen3 : (H ++ (l.take k).map Int.toNat).length ≤ 10 := by rw [List.length_append, hH2.out, List.length_map, List.length_take]; omega
      have CD := Lib.hid fun w => code_any 68 (.inl rfl) c w
      replace hcd := Lib.hid hcd
      by_cases hco : codeB c = true
      · have hw := code_wrap hco
        have hcl := codeB_lo hco
        have hall2 : ∀ g ∈ l.take (k + 1), codeB g = true := by
          rw [hsn]; intro g hg
          rcases List.mem_append.1 hg with hg | hg
          · exact hall.out g hg
          · rw [List.mem_singleton.1 hg]; exact hco
        have hj2 : H ++ (l.take (k + 1)).map Int.toNat = (H ++ (l.take k).map Int.toNat) ++ [c.toNat] := by rw [hsn, List.map_append, List.append_assoc]; rfl
        rw [hco] at CD
        obtain ⟨n, rfl⟩ := Int.eq_ofNat_of_zero_le hcl.1
        have hn : n ≤ 128 := by omega
        rw [Int.toNat_natCast] at hw hj2
        replace hj2 := Lib.hid hj2
        replace hall2 := Lib.hid hall2
        replace hsn := Lib.hid hsn
        replace hco := Lib.hid hco
        replace hmem := Lib.hid hmem
        have own0 := Lib.hid hown
        clear hown hcl
        obtain ⟨L, gL⟩ : ∃ L, L = H ++ (l.take k).map Int.toNat := ⟨_, rfl⟩
        rw [← gL] at own0 hlen3 hj2
        replace gL := Lib.hid gL
        go_wp2_with (first | (go_at_call 68; refine (CD.out _).mono ?_; rintro e w' ⟨rfl, rfl⟩) | (at_builtin; (refine wpList_append_bytes _ rfl (.tmp 29) (.tmp 32) 48 rfl w.heap.size 5 i0 Tryd.underlying48 hi.out hz0.out hz1.out hz2.out u6 L [n] rfl (own_below own0.out (ext_alloc _ _)) (one_at wr n) (by simp only [List.length_singleton]; omega) (by have := hb1.out.size; simp; omega) ?_); intro v4 w4 o4 g4 n4; clear n4; have B4 := Lib.hid ((hb1.out.trans ((ext_alloc wr (.cells #[.int .u8 (n : Int)] 5)).mono hb1.out.size)).trans (grown_ext (own_below own0.out (ext_alloc _ _)) g4 (by have := hb1.out.size; simp; omega))); clear g4; replace o4 := Lib.hid o4))
        go_roundw
        case rel => exact ⟨k + 1, by simp, by omega, hall2.out, by rw [hj2.out]; exact o4.out, B4.out⟩
        case measure => simp [intOf]; omega
      · have hco' : codeB c = false := by simpa using hco
        have hA : l.all codeB = false := by
          rw [List.all_eq_false]; exact ⟨c, hmem, by simpa using hco⟩
        have hE : PE = 5 := by rw [e.out, hA]; rfl
        have hP : PL = [] := by rw [pl.out, hE, if_neg (by decide)]
        rw [hco'] at CD
        replace hE := Lib.hid hE
        replace hP := Lib.hid hP
        replace hA := Lib.hid hA
        replace hco := Lib.hid hco
        replace hco' := Lib.hid hco'
        replace hmem := Lib.hid hmem
        replace hsn := Lib.hid hsn
        clear hown
        go_wp2_with (go_at_call 68; refine (CD.out _).mono ?_; rintro e w' ⟨rfl, rfl⟩)
        go_ret2
        exact ⟨_, by rw [hE.out]; rfl, by rw [hP.out]; exact bytes_nil _, hb1.out⟩
end Go.Proofs.YtmpklaokgogigaaDoor

/-
  LAYER 15: the number ahead, read by both sides.
-/
namespace Go.Proofs.YtmpklaokgogigaaDoor
set_option linter.unusedSimpArgs false
set_option linter.unusedVariables false
open Go.RowKit

theorem txt_lt (s : ByteArray) : ∀ x ∈ txtL s, x < 256 := by
  intro x hx
  simp only [txtL, List.mem_map] at hx
  obtain ⟨u, _, rfl⟩ := hx
  exact UInt8.toNat_lt _
/-- A string's bytes in a row of their own. -/
theorem bytes_of (s : ByteArray) (w : World) : ∃ v w', (convert 9 48 (.string s)).run Tryd.prog w = .ok v w' ∧ BytesAt w' v (txtL s) ∧ Below w.heap.size w w' := by
  refine ⟨_, _, run_bytes_of_string w 9 48 5 s Tryd.underlying9 Tryd.underlying48 Tryd.underlying5, ?_, (Below.refl _ _).drew.alloc (Nat.le_refl _) _⟩
  have hcap : s.size ≤ grownCap w s.size 0 5 := by
    exact grownCap_ge _ _ _ _
  refine ⟨some ⟨w.heap.size, 0, none⟩, _, by rw [txtL_length], ⟨by rw [txtL_length]; exact hcap, fun h => by cases h⟩, .inr ⟨w.heap.size, 0, rfl, by simp, fun i hi => ?_⟩⟩
  rw [txtL_length] at hi
  have hi' : i < s.data.size := hi
  have := cell_of_row (w.drew.alloc (.cells (bytesRow s (grownCap w s.size 0 5)) 5 ((bytesRow s (grownCap w s.size 0 5)).size, (bytesRow s (grownCap w s.size 0 5)).size + 1))) w.heap.size (0 + i) _ 5 _ (heap_alloc_new _ _)
  rw [this, Nat.zero_add, bytesRow_at s _ i hi']
  simp [txtL, List.getD, Array.getElem?_eq_getElem hi']
/-- The number ahead, or why there is none. -/
def numV (l : List Nat) : Int × Int := if l.length < 2 then (0, 2) else if 256 * l.getD 0 0 + l.getD 1 0 = 0 then (0, 1) else (((256 * l.getD 0 0 + l.getD 1 0 : Nat) : Int), 0)
theorem get2_0 (l : List Nat) : get2V l 0 = if l.length < 2 then (0, 0, 2) else (((256 * l.getD 0 0 + l.getD 1 0 : Nat) : Int), 2, 0) := by
  unfold get2V
  by_cases h : l.length < 2
  · rw [if_neg (by omega), if_pos (by omega), if_pos h]
  · rw [if_neg (by omega), if_neg (by omega), if_neg h]; simp
def Num2 (r : Int × Int) (w : World) (e : Ending) (w' : World) : Prop := e = .returned (.tuple #[.int .i64 r.1, .int .i64 r.2]) ∧ Below w.heap.size w w'
set_option maxHeartbeats 1000000 in
set_option maxRecDepth 100000 in
theorem number_any (v : Value) (l : List Nat) (w : World) (hb : BytesAt w v l) (h256 : ∀ x ∈ l, x < 256) (hl : l.length ≤ 140737488355328) : Calls Tryd.prog 65 #[v] w (Num2 (numV l) w) := by
  have G := get2_any v l 0 w hb h256 hl (by decide)
  rw [get2_0] at G
  unfold numV
  obtain ⟨a, cap, rfl, -⟩ := hb
  by_cases h : l.length < 2
  · rw [if_pos h] at G ⊢
    simp only at G
    replace G := Lib.hid G
    go_enter Tryd.func65, Tryd.ntmps65
    go_wp2_with fail
    refine G.out.mono ?_
    rintro e w' ⟨rfl, n, rfl⟩
    go_wp2_with fail
    go_ret2
    exact ⟨rfl, below_drewN (Below.refl _ _) n⟩
  · rw [if_neg h] at G ⊢
    simp only at G
    generalize 256 * l.getD 0 0 + l.getD 1 0 = m at *
    replace G := Lib.hid G
    by_cases hm : m = 0
    · subst hm
      go_enter Tryd.func65, Tryd.ntmps65
      go_wp2_with fail
      refine G.out.mono ?_
      rintro e w' ⟨rfl, n, rfl⟩
      go_wp2_with fail
      go_ret2
      exact ⟨rfl, below_drewN (Below.refl _ _) n⟩
    · rw [if_neg hm]
      have hd : ((m : Int) == 0) = false := by rw [beq_eq_false_iff_ne]; omega
      replace hm := Lib.hid hm
      go_enter Tryd.func65, Tryd.ntmps65
      go_wp2_with fail
      refine G.out.mono ?_
      rintro e w' ⟨rfl, n, rfl⟩
      go_wp2_with fail
      go_ret2
      exact ⟨rfl, below_drewN (Below.refl _ _) n⟩
set_option maxHeartbeats 1000000 in
set_option maxRecDepth 100000 in
theorem rofid_any (s : ByteArray) (w : World) (h : s.size = 2) : Calls Tryd.prog 41 #[.string s] w (Num2 (numV (txtL s)) w) := by
  obtain ⟨v, w1, hconv, a1, b1⟩ := bytes_of s w
  have G := rget2_any v (txtL s) 0 w1 a1 (txt_lt s) (by rw [txtL_length]; omega) (by decide)
  rw [get2_0, if_neg (by rw [txtL_length]; omega)] at G
  unfold numV
  rw [if_neg (by rw [txtL_length]; omega)]
  simp only at G
  obtain ⟨x, c, rfl, -, -⟩ := a1
  generalize 256 * (txtL s).getD 0 0 + (txtL s).getD 1 0 = m at *
  have h' : ((s.size : Int) != 2) = false := by simp; omega
  replace G := Lib.hid G
  replace b1 := Lib.hid b1
  replace h := Lib.hid h
  by_cases hm : m = 0
  · subst hm
    go_enter Tryd.func41, Tryd.ntmps41
    go_wp2_with fail
    refine G.out.mono ?_
    rintro e w' ⟨rfl, n, rfl⟩
    go_wp2_with fail
    go_ret2
    exact ⟨rfl, below_drewN b1.out n⟩
  · rw [if_neg hm]
    have hd : ((m : Int) == 0) = false := by rw [beq_eq_false_iff_ne]; omega
    replace hm := Lib.hid hm
    go_enter Tryd.func41, Tryd.ntmps41
    go_wp2_with fail
    refine G.out.mono ?_
    rintro e w' ⟨rfl, n, rfl⟩
    go_wp2_with fail
    go_ret2
    exact ⟨rfl, below_drewN b1.out n⟩
theorem txt_two (s : ByteArray) (h : 2 ≤ s.size) : numV (txtL (s.extract 0 2)) = numV (txtL s) ∧ (s.extract 0 2).size = 2 := by
  have hx : txtL (s.extract 0 2) = (txtL s).take 2 := by
    unfold txtL
    rw [Lib.extract_data]
    simp [List.map_take]
  have hs : (s.extract 0 2).size = 2 := by rw [ByteArray.size_extract]; omega
  refine ⟨?_, hs⟩
  unfold numV
  rw [if_neg (show ¬ (txtL (s.extract 0 2)).length < 2 by rw [txtL_length]; omega), if_neg (show ¬ (txtL s).length < 2 by rw [txtL_length]; omega), hx]
  have g : ∀ i, i < 2 → ((txtL s).take 2).getD i 0 = (txtL s).getD i 0 := fun i hi => by simp [List.getD, List.getElem?_take, hi]
  rw [g 0 (by omega), g 1 (by omega)]
set_option maxHeartbeats 1000000 in
set_option maxRecDepth 100000 in
theorem rbegin_any (s : ByteArray) (w : World) (hs : s.size ≤ 140737488351232) : Calls Tryd.prog 73 #[.string s] w (Num2 (numV (txtL s)) w) := by
  have hs' : (s.size : Int) ≤ 140737488351232 := by omega
  by_cases h : s.size < 2
  · have e : numV (txtL s) = (0, 2) := by unfold numV; rw [if_pos (by rw [txtL_length]; omega)]
    rw [e]
    have h' : (s.size : Int) < 2 := by omega
    clear e
    go_enter Tryd.func73, Tryd.ntmps73
    go_wp2
    go_ret2
    exact ⟨rfl, Below.refl _ _⟩
  · have h' : 2 ≤ (s.size : Int) := by omega
    obtain ⟨e, e2⟩ := txt_two s (by omega)
    have G := Lib.hid (fun w => rofid_any (s.extract 0 2) w e2)
    rw [e] at G
    generalize numV (txtL s) = r at *
    clear e e2 h
    go_enter Tryd.func73, Tryd.ntmps73
    go_wp2_with fail
    refine (G.out _).mono ?_
    rintro e w' ⟨rfl, hb⟩
    go_wp2_with fail
    go_ret2
    exact ⟨rfl, hb⟩
end Go.Proofs.YtmpklaokgogigaaDoor

/-
  LAYER 15: what Of reads: plain.
-/
namespace Go.Proofs.YtmpklaokgogigaaDoor
set_option linter.unusedSimpArgs false
set_option linter.unusedVariables false
open Go.RowKit

theorem rawV_end {l : List Nat} {at' : Int} (h : (rawV l at').2.2 = 0) (h256 : ∀ x ∈ l, x < 256) : ∃ k : Nat, (rawV l at').2.1 = k ∧ at' + 2 ≤ k ∧ k ≤ l.length := by
  by_cases h0 : (get2V l at').2.2 = 0
  · obtain ⟨k, m, rfl, hk, hm, e⟩ := get2_ok h0 h256
    unfold rawV at *
    rw [e] at h ⊢
    simp only [ne_eq, not_true, if_false] at h ⊢
    by_cases hlt : (l.length : Int) - ((k + 2 : Nat) : Int) < m
    · rw [if_pos hlt] at h; cases h
    · rw [if_neg hlt]; exact ⟨k + 2 + m, by simp, by omega, by omega⟩
  · unfold rawV at h; rw [if_pos h0] at h; exact absurd h h0
theorem getV_end {l : List Nat} {at' : Int} (h : (getV l at').2.2 = 0) (h256 : ∀ x ∈ l, x < 256) : ∃ k : Nat, (getV l at').2.1 = k ∧ at' + 2 ≤ k ∧ k ≤ l.length := by
  unfold getV at *
  split at h
  · cases h
  · rename_i hn
    rw [if_neg hn]
    exact rawV_end h h256
def noF : Fi := ⟨ByteArray.empty, 0⟩
/-- The filter at a place, the place behind it, and why there is none. -/
def filtV (l : List Nat) (k : Nat) (ends : Bool) : Fi × Nat × Int :=
  if (getV l k).2.2 ≠ 0 then (noF, 0, (getV l k).2.2)
  else if ends then (⟨(getV l k).1, 0⟩, (getV l k).2.1.toNat, 0)
  else if (getV l k).2.1.toNat = l.length then (noF, 0, 2)
  else if 2 < l.getD (getV l k).2.1.toNat 0 then (noF, 0, 5)
  else (⟨(getV l k).1, (l.getD (getV l k).2.1.toNat 0 : Nat)⟩, (getV l k).2.1.toNat + 1, 0)
theorem filtV_end {l : List Nat} {k : Nat} {ends : Bool} (h : (filtV l k ends).2.2 = 0) (h256 : ∀ x ∈ l, x < 256) : k < (filtV l k ends).2.1 ∧ (filtV l k ends).2.1 ≤ l.length := by
  unfold filtV at *
  by_cases h0 : (getV l k).2.2 ≠ 0
  · rw [if_pos h0] at h; exact absurd h h0
  obtain ⟨m, e, h1, h2⟩ := getV_end (Decidable.not_not.1 h0) h256
  rw [if_neg h0] at *
  rw [e, Int.toNat_natCast] at h ⊢
  cases ends
  · simp only [Bool.false_eq_true, if_false] at h ⊢
    by_cases h3 : m = l.length
    · rw [if_pos h3] at h; cases h
    rw [if_neg h3] at h ⊢
    by_cases h4 : 2 < l.getD m 0
    · rw [if_pos h4] at h; cases h
    rw [if_neg h4]
    simp only; omega
  · simp only [if_true] at h ⊢; omega
/-- What is yielded from a place on. -/
def seqL (l : List Nat) (ends : Bool) : Nat → Nat → List (Fi × Int)
  | 0, _ => []
  | n + 1, k => if l.length ≤ k then [] else ((filtV l k ends).1, (filtV l k ends).2.2) :: if (filtV l k ends).2.2 ≠ 0 then [] else seqL l ends n (filtV l k ends).2.1
theorem seqL_end {l : List Nat} {ends : Bool} {n k : Nat} (h : l.length ≤ k) : seqL l ends n k = [] := by
  cases n with
  | zero => rfl
  | succ n => rw [seqL, if_pos h]
theorem seqL_step {l : List Nat} {ends : Bool} {n k : Nat} (h : k < l.length) (hn : l.length - k ≤ n) : ∃ m, n = m + 1 ∧ seqL l ends n k = ((filtV l k ends).1, (filtV l k ends).2.2) :: if (filtV l k ends).2.2 ≠ 0 then [] else seqL l ends m (filtV l k ends).2.1 := by
  cases n with
  | zero => omega
  | succ n => exact ⟨n, rfl, by rw [seqL, if_neg (by omega)]⟩
/-- What comes of it, with room for n more. -/
def seqR : List (Fi × Int) → Nat → List Fi → List Fi × Int
  | [], _, acc => if acc = [] then ([], 4) else (acc, 0)
  | _ :: _, 0, _ => ([], 6)
  | x :: t, n + 1, acc => if x.2 ≠ 0 then ([], x.2) else seqR t n (acc ++ [x.1])
theorem seqR_done (S : List (Fi × Int)) (n : Nat) (acc : List Fi) (h : ∀ x ∈ S, x.2 = 0) (hl : S.length ≤ n) : seqR S n acc = if acc ++ S.map Prod.fst = [] then ([], 4) else (acc ++ S.map Prod.fst, 0) := by
  induction S generalizing n acc with
  | nil => simp [seqR]
  | cons x t ih =>
    cases n with
    | zero => simp at hl
    | succ n =>
      rw [seqR, if_neg (by simpa using h x (by simp)), ih n _ (fun y hy => h y (List.mem_cons_of_mem _ hy)) (by simpa using hl)]
      simp
theorem seqR_full (S : List (Fi × Int)) (x : Fi × Int) (t : List (Fi × Int)) (n : Nat) (acc : List Fi) (h : ∀ x ∈ S, x.2 = 0) (hl : S.length = n) : seqR (S ++ x :: t) n acc = ([], 6) := by
  induction S generalizing n acc with
  | nil => simp at hl; subst hl; rfl
  | cons y u ih =>
    cases n with
    | zero => simp at hl
    | succ n =>
      rw [List.cons_append, seqR, if_neg (by simpa using h y (by simp)), ih n _ (fun y hy => h y (List.mem_cons_of_mem _ hy)) (by simpa using hl)]
theorem seqR_err (S : List (Fi × Int)) (x : Fi × Int) (t : List (Fi × Int)) (n : Nat) (acc : List Fi) (h : ∀ x ∈ S, x.2 = 0) (hl : S.length < n) (hx : x.2 ≠ 0) : seqR (S ++ x :: t) n acc = ([], x.2) := by
  induction S generalizing n acc with
  | nil =>
    cases n with
    | zero => simp at hl
    | succ n => rw [List.nil_append, seqR, if_pos hx]
  | cons y u ih =>
    cases n with
    | zero => simp at hl
    | succ n =>
      rw [List.cons_append, seqR, if_neg (by simpa using h y (by simp)), ih n _ (fun y hy => h y (List.mem_cons_of_mem _ hy)) (by simpa using hl)]
theorem seqR_len (S : List (Fi × Int)) (n : Nat) (acc : List Fi) : (seqR S n acc).1.length ≤ acc.length + n := by
  induction S generalizing n acc with
  | nil => rw [seqR]; split <;> simp
  | cons x t ih =>
    cases n with
    | zero => simp [seqR]
    | succ n =>
      rw [seqR]
      split
      · simp
      · have := ih n (acc ++ [x.1]); simp at this; omega
/-- What Of answers. -/
def ofW (l : List Nat) (ends : Bool) : List Fi × Int := seqR (seqL l ends (l.length + 1) 2) 8 []
def ofV (l : List Nat) (ends : Bool) : Int × List Fi × Int :=
  if (numV l).2 ≠ 0 then (0, [], (numV l).2) else if (ofW l ends).2 ≠ 0 then (0, [], (ofW l ends).2) else ((numV l).1, (ofW l ends).1, 0)
def OfP (r : Int × List Fi × Int) (w : World) (e : Ending) (w' : World) : Prop := ∃ v, e = .returned (.tuple #[.int .i64 r.1, v, .int .i64 r.2.2]) ∧ (FisAt w' v r.2.1 ∧ Fresh w.heap.size v) ∧ Below w.heap.size w w'
def fisC (l : List Fi) : List Value := l.flatMap Fi.cells
theorem fisC_length (l : List Fi) : (fisC l).length = l.length * 2 := by
  induction l with
  | nil => rfl
  | cons f l ih => simp only [fisC, List.flatMap_cons, List.length_append] at ih ⊢; rw [ih]; simp [Fi.cells]; omega
theorem fisC_get (l : List Fi) : ∀ (i : Nat) (f : Fi), l[i]? = some f → (fisC l)[i * 2]? = some (.string f.t) ∧ (fisC l)[i * 2 + 1]? = some (.int .i64 f.q) := by
  induction l with
  | nil => intro i f h; simp at h
  | cons g l ih =>
    intro i f h
    cases i with
    | zero => simp at h; subst h; simp [fisC, Fi.cells]
    | succ i =>
      obtain ⟨h1, h2⟩ := ih i f (by simpa using h)
      have e : (i + 1) * 2 = i * 2 + 1 + 1 := by omega
      rw [e]
      have z : fisC (g :: l) = .string g.t :: .int .i64 g.q :: fisC l := by simp [fisC, Fi.cells]
      rw [z]
      simp only [List.getElem?_cons_succ]
      exact ⟨h1, h2⟩
theorem FisAt.of_own {w : World} {B : Nat} {v : Value} {l : List Fi} (h : w.ownsRow B 56 2 v l.length (fisC l)) (hl : l.length ≤ 9223372036854775807) : FisAt w v l := by
  obtain ⟨h1, h2⟩ := h
  rcases h2 with ⟨rfl, hn⟩ | ⟨g, cap, cur, hv, hb, hg, hnc, hcm, hcs, ht⟩
  · exact ⟨none, 0, by rw [hn], hl, .inl (List.eq_nil_of_length_eq_zero hn)⟩
  · refine ⟨_, cap, hv, hl, .inr ⟨g, 0, rfl, (Array.getElem?_eq_some_iff.1 hg).1, fun i f hi => ?_⟩⟩
    obtain ⟨x1, x2⟩ := fisC_get l i f hi
    rw [cell_of_row w g _ cur 56 (0, 0) hg, cell_of_row w g _ cur 56 (0, 0) hg, Nat.zero_add]
    rw [← ht, List.getElem?_take] at x1 x2
    split at x1
    · split at x2
      · exact ⟨by simpa using x1, by simpa using x2⟩
      · cases x2
    · cases x1
theorem cell_two_new (w : World) (x y : Value) (t : TypeId) : ∀ j u, [x, y][j]? = some u → (w.alloc (.cells #[x, y] t)).cell? ((⟨w.heap.size, 0, none⟩ : Addr).add j) = some u := by
  intro j u hj
  match j, hj with
  | 0, hj => simp at hj; subst hj; simp [Addr.add]
  | 1, hj => simp at hj; subst hj; simp [Addr.add]
theorem info47 : (Tryd.prog.info? 56).map (fun i => (i.zero, i.size, i.bytes)) = some (some (.agg #[.string ByteArray.empty, .int .i64 0]), 2, 24) := by kernel_rfl
end Go.Proofs.YtmpklaokgogigaaDoor
