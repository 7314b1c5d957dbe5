/-
  LAYER 3: the document's reading of a field's value.
-/
import Derived.Test.YtoglgdkeknojkaaDoorWf
namespace Go.Proofs.YtoglgdkeknojkaaDoor
open Go.RowKit

theorem BytesAt.sub {w : World} {b o n cap : Nat} {l : List Nat} (h : BytesAt w (.slice (some ⟨b, o, none⟩) n cap) l) (k m c : Nat) (hk : k + m ≤ l.length) (hm : m ≤ c) : BytesAt w (.slice (some ⟨b, o + k, none⟩) m c) ((l.drop k).take m) := by
  obtain ⟨a, cap', hv, ⟨h1, h2⟩, hc⟩ := h
  simp only [Value.slice.injEq] at hv
  obtain ⟨rfl, rfl, rfl⟩ := hv
  have hl : ((l.drop k).take m).length = m := by rw [List.length_take, List.length_drop]; omega
  refine ⟨some ⟨b, o + k, none⟩, c, by rw [hl], ⟨by omega, fun h => by cases h⟩, ?_⟩
  rcases hc with rfl | ⟨b', o', hbo, hlt, hcell⟩
  · exact .inl (by simp)
  · simp only [Option.some.injEq, Addr.mk.injEq, and_true] at hbo
    obtain ⟨rfl, rfl⟩ := hbo
    refine .inr ⟨b, o + k, rfl, hlt, fun i hi => ?_⟩
    rw [hl] at hi
    rw [Nat.add_assoc, hcell (k + i) (by omega)]
    simp [List.getD, List.getElem?_take, hi, List.getElem?_drop]
def GetIs (l : List Nat) (k : Nat) (w : World) (e : Ending) (w' : World) : Prop :=
  ((gE l k = 0 ∧ e = .returned (.tuple #[.int .u64 (gN l k : Nat), .int .i64 (gAt l k : Nat), .int .i64 0])) ∨ (gE l k ≠ 0 ∧ e = .returned (.tuple #[.int .u64 (gN l k : Nat), .int .i64 0, .int .i64 (gE l k : Nat)]))) ∧ w = w'
/-- What both sides' reading of four and eight bytes makes. -/
def FixIs (k : IntKind) (l : List Nat) (a m : Nat) (w : World) (e : Ending) (w' : World) : Prop :=
  ((a + m ≤ l.length ∧ e = .returned (.tuple #[.int k (valF l a m : Nat), .int .i64 ((a + m : Nat) : Int), .int .i64 0])) ∨ (¬ a + m ≤ l.length ∧ e = .returned (.tuple #[.int k 0, .int .i64 0, .int .i64 2]))) ∧ w = w'
theorem FixIs.ok {P : Program} {F : FuncId} {args : Array Value} {k : IntKind} {l : List Nat} {a m : Nat} {w : World} (h : a + m ≤ l.length) (c : Calls P F args w fun e w' => e = .returned (.tuple #[.int k (valF l a m : Nat), .int .i64 ((a + m : Nat) : Int), .int .i64 0]) ∧ w = w') : Calls P F args w (FixIs k l a m w) := c.mono fun _ _ ⟨he, hw⟩ => ⟨.inl ⟨h, he⟩, hw⟩
theorem FixIs.no {P : Program} {F : FuncId} {args : Array Value} {k : IntKind} {l : List Nat} {a m : Nat} {w : World} (h : ¬ a + m ≤ l.length) (c : Calls P F args w fun e w' => e = .returned (.tuple #[.int k 0, .int .i64 0, .int .i64 2]) ∧ w = w') : Calls P F args w (FixIs k l a m w) := c.mono fun _ _ ⟨he, hw⟩ => ⟨.inr ⟨h, he⟩, hw⟩
theorem fix_is (v : Value) (l : List Nat) (a : Nat) (w : World) (hB : BytesAt w v l) (h : ∀ x ∈ l, x < 256) (hl : l.length ≤ 140737488355328) (hk : a ≤ l.length) :
    True ∧ Calls Tryd.prog 38 #[v, .int .i64 (a : Int)] w (FixIs .u64 l a 8 w) ∧ True ∧ Calls Tryd.prog 39 #[v, .int .i64 (a : Int)] w (FixIs .u32 l a 4 w) := by
  have hl' : l.length ≤ 9223372036854775807 := by omega
  obtain ⟨aa, cap, rfl, hc, hcase⟩ := hB
  have cells : l.length ≠ 0 → ∃ b o, aa = some ⟨b, o, none⟩ ∧ ∀ i, i < l.length → w.cell? ⟨b, o + i, none⟩ = some (.int .u8 ((l.getD i 0 : Nat) : Int)) := fun hn => by
    rcases hcase with rfl | ⟨b, o, ha, -, hcell⟩
    · simp at hn
    · exact ⟨b, o, ha, hcell⟩
  have v4 := valF_lt l a h 4
  refine ⟨?_, ?_, ?_, ?_⟩
  · trivial
  · by_cases h8 : a + 8 ≤ l.length
    · obtain ⟨b, o, rfl, hcell⟩ := cells (by omega)
      exact FixIs.ok h8 (get8_ok b o l.length cap a l w hl' h8 h hcell)
    · exact FixIs.no h8 (get8_short aa l.length cap a w hl' hk (by omega))
  · trivial
  · by_cases h4 : a + 4 ≤ l.length
    · obtain ⟨b, o, rfl, hcell⟩ := cells (by omega)
      exact FixIs.ok h4 (get4_ok b o l.length cap a l w hl' h4 h hcell)
    · exact FixIs.no h4 (get4_short aa l.length cap a w hl' hk (by omega))
/-- What the document's value makes. -/
def ValIs (l : List Nat) (a num kd : Nat) (w : World) (e : Ending) (w' : World) : Prop :=
  ((vE l a kd = 0 ∧ e = .returned (.tuple #[.agg (vF l a num kd).cells.toArray, .int .i64 (vA l a kd : Nat), .int .i64 0])) ∨
   (vE l a kd ≠ 0 ∧ ∃ (f : Fd) (n : Int), e = .returned (.tuple #[.agg f.cells.toArray, .int .i64 n, .int .i64 (vE l a kd : Nat)]))) ∧ Below w.heap.size w w'
theorem two_blocks (w : World) (x y : Obj) : Below w.heap.size w ((w.alloc x).alloc y) := ext_trans (ext_alloc w x) (ext_alloc _ y)
end Go.Proofs.YtoglgdkeknojkaaDoor
