/-
  LAYER 1: Get.
-/
import Derived.Test.YtoglgdkeknojkaaGt
import Derived.Test.YtoglgdkeknojkaaRnd
import Derived.Outline
namespace Go.Proofs.Ytoglgdkeknojkaa
open Go.RowKit Go.Shelf

attribute [local go_sem] Oper.semAt_some

theorem from_in (F : Fence) (n : Nat) (h5 : F.fn 67) (hro : F.round = none) (a : Option Addr) (len cap : Nat) (k0 : Int) (w : World) :
    CallsIn F n Try.prog 67 #[.slice a len cap, .int .i64 k0] w fun e w' => e = .returned (.func (.func 70) #[] #[.pointer (some ⟨w.heap.size, 0, none⟩), .pointer (some ⟨w.heap.size + 1, 0, none⟩)]) ∧ w' = (w.alloc (.cells #[.slice a len cap] 25)).alloc (.cells #[.int .i64 k0] 3) := by
  refine callsIn_of_wp Try.func67 rfl h5 ?_ hro
  simp only [Try.ntmps67, List.size_toArray, List.length_cons, List.length_nil, Nat.reduceAdd, Nat.reduceSub, Array.replicate_succ, Array.replicate_zero, List.push_toArray, List.append_toArray, List.nil_append, List.cons_append]
  gi_wp2
  go_ret
  exact ⟨rfl, rfl⟩

def getV (l : List Nat) (k0 : Nat) : Value :=
  .tuple #[.int .u64 ((getF 0 0 (l.drop k0)).1 : Int), .int .i64 (if (getF 0 0 (l.drop k0)).2.2 = 0 then (k0 : Int) + ((getF 0 0 (l.drop k0)).2.1 : Int) else 0), .int .i64 ((getF 0 0 (l.drop k0)).2.2 : Int)]
def GetPost (l : List Nat) (k0 : Nat) (w : World) (e : Ending) (w' : World) : Prop := e = .returned (getV l k0) ∧ Below w.heap.size w w'

def Goes (x : IB) : Prop := 128 ≤ x.1.2 ∧ ¬ (x.1.1 = 9 ∧ 1 < x.1.2)
def shl7 (i c : Nat) : Int := IntKind.u64.wrap ((c : Int) * 2 ^ min (7 * i) 64)
def accF (pre : List IB) : Int := pre.foldl (fun n x => bits .or .u64 n (shl7 x.1.1 (x.1.2 % 128))) 0
theorem accF_snoc (pre : List IB) (x : IB) : accF (pre ++ [x]) = bits .or .u64 (accF pre) (shl7 x.1.1 (x.1.2 % 128)) := by simp [accF]
/-- What the call's own boxes hold between two rounds. -/
def GetI (w : World) (k0 : Nat) (pre : List IB) (W : World) : Prop :=
  (∀ x ∈ pre, Goes x) ∧ Boxed W w.heap.size 3 (.int .i64 (k0 : Int)) ∧ Boxed W (w.heap.size + 1) 22 (.int .u64 0) ∧ Boxed W (w.heap.size + 1 + 1) 3 (.int .i64 0) ∧ Boxed W (w.heap.size + 1 + 1 + 1) 26 (.int .i64 0) ∧
    Boxed W (w.heap.size + 1 + 1 + 1 + 1) 22 (.int .u64 (accF pre)) ∧ Boxed W (w.heap.size + 1 + 1 + 1 + 1 + 1) 26 (.int .i64 2)
def GetX (w : World) (k0 : Nat) (c : Code) (pre : List IB) (W : World) : Prop :=
  ∃ ini last, pre = ini ++ [last] ∧ (∀ x ∈ ini, Goes x) ∧
    ((c = .ret ∧ last.1.2 < 128 ∧ ¬ (last.1.1 = 9 ∧ 1 < last.1.2) ∧ Boxed W (w.heap.size + 1) 22 (.int .u64 (bits .or .u64 (accF ini) (shl7 last.1.1 last.1.2))) ∧ Boxed W (w.heap.size + 1 + 1) 3 (.int .i64 ((k0 : Int) + last.1.1 + 1)) ∧ Boxed W (w.heap.size + 1 + 1 + 1) 26 (.int .i64 0)) ∨
     (c = .exit 0 ∧ last.1.1 = 9 ∧ 1 < last.1.2 ∧ Boxed W (w.heap.size + 1) 22 (.int .u64 0) ∧ Boxed W (w.heap.size + 1 + 1) 3 (.int .i64 0) ∧ Boxed W (w.heap.size + 1 + 1 + 1) 26 (.int .i64 0) ∧ Boxed W (w.heap.size + 1 + 1 + 1 + 1 + 1) 26 (.int .i64 3)))

theorem boxed_keep {A B : World} {row : Option Nat} {b : Nat} {t : TypeId} {v : Value} (h : Boxed A b t v) (hg : A.grownBy B row) (hr : ∀ r, row = some r → ∃ o : Obj, A.heap[r]? = some o ∧ o.isCells = false) : Boxed B b t v :=
  boxed_own (β := Unit) b t (fun _ => v) (s := ()) A B row h hg hr
theorem getI_own (w : World) (k0 : Nat) : Own (GetI w k0) := fun s A B row hs hg hr => by
  obtain ⟨h0, h1, h2, h3, h4, h5, h6⟩ := hs
  exact ⟨h0, boxed_keep h1 hg hr, boxed_keep h2 hg hr, boxed_keep h3 hg hr, boxed_keep h4 hg hr, boxed_keep h5 hg hr, boxed_keep h6 hg hr⟩
theorem getX_own (w : World) (k0 : Nat) (c : Code) : Own (GetX w k0 c) := fun s A B row hs hg hr => by
  obtain ⟨ini, last, h0, h1, ⟨hc, h2, h3, h4, h5, h6⟩ | ⟨hc, h2, h3, h4, h5, h6, h7⟩⟩ := hs
  · exact ⟨ini, last, h0, h1, .inl ⟨hc, h2, h3, boxed_keep h4 hg hr, boxed_keep h5 hg hr, boxed_keep h6 hg hr⟩⟩
  · exact ⟨ini, last, h0, h1, .inr ⟨hc, h2, h3, boxed_keep h4 hg hr, boxed_keep h5 hg hr, boxed_keep h6 hg hr, boxed_keep h7 hg hr⟩⟩

theorem blind {F : Fence} {n : Nat} {P : Program} {c : Code} {Q : Exit → Act → World → Prop} {a : Act} {w : World} (h : c.wpIn F n P (Exit.then (fun a w => Q .normal a w) (fun _ _ _ => False)) a w) : c.wpIn F n P Q a w :=
  wpIn_mono h (fun e a w hq => by cases e <;> first | exact hq | exact hq.elim)

end Go.Proofs.Ytoglgdkeknojkaa
