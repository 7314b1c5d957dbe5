/-
  LAYER 32: a slice of acts that came in.
-/
import Derived.Test.YtdljddghbkcddaaDe
import Derived.Deep.Slices
namespace Go.Proofs.Ytdljddghbkcddaa
open Go.ChangeShapes Go.WideShapes Go.RowKit Go.Deep

structure Ac where
  k : Int
  v : Value
  l : List It
structure Ac.good (w : World) (f : Ac) : Prop where
  its : ItsAt w f.v f.l
  ok : ∀ x ∈ f.l, x.ok
  kb : -9223372036854775808 ≤ f.k ∧ f.k ≤ 9223372036854775807
/-- The slice value v reads as the acts L. -/
def ActsAt (w : World) (v : Value) (L : List Ac) : Prop :=
  ∃ a cap, v = .slice a L.length cap ∧ L.length ≤ 9223372036854775807 ∧ (L = [] ∨ ∃ b o, a = some ⟨b, o, none⟩ ∧ b < w.heap.size ∧ ∀ i f, L[i]? = some f → w.cell? ⟨b, o + i * 2, none⟩ = some (.int .i64 f.k) ∧ w.cell? ⟨b, o + i * 2 + 1, none⟩ = some f.v)
theorem acts_at {w wr : World} {a : Option Addr} {L : List Ac} {k : Nat} {f : Ac} (hf : L[k]? = some f) (hb : Below w.heap.size w wr)
    (hc : L = [] ∨ ∃ b o, a = some ⟨b, o, none⟩ ∧ b < w.heap.size ∧ ∀ i f, L[i]? = some f → w.cell? ⟨b, o + i * 2, none⟩ = some (.int .i64 f.k) ∧ w.cell? ⟨b, o + i * 2 + 1, none⟩ = some f.v) :
    ∃ b o, a = some ⟨b, o, none⟩ ∧ b < w.heap.size ∧ wr.cell? ⟨b, o + k * 2, none⟩ = some (.int .i64 f.k) ∧ wr.cell? ⟨b, o + k * 2 + 1, none⟩ = some f.v := by
  rcases hc with h | ⟨b, o, ha, hlt, hc⟩
  · subst h; simp at hf
  · obtain ⟨h1, h2⟩ := hc k f hf
    exact ⟨b, o, ha, hlt, by rw [hb.cell (by simpa using hlt)]; exact h1, by rw [hb.cell (by simpa using hlt)]; exact h2⟩
theorem list2 {α : Type} {l : List α} (h : l.length = 2) : ∃ x0 x1, l = [x0, x1] := by
  match l, h with
  | [x0, x1], _ => exact ⟨_, _, rfl⟩
theorem open_act {H : Type} {enc : TypeId × Value → H} {w : World} {fuel : Nat} {cs : List Value} {x : DataW H × List MemPlace}
    (h : DataW.trod enc Try.prog w 0 (fun _ => true) true fuel 35 cs = some x) (hs : ∀ n ∈ x.1.weights Try.prog 35, n ≤ 140737488351232) : ∃ f : Ac, cs = [.int .i64 f.k, f.v] ∧ f.good w := by
  obtain ⟨xs, n, -, rfl, hl, hlen, hg⟩ := DataW.trod_struct Try.underlying35 h
  rw [show Try.prog.cellsOf 35 = 2 from by kernel_rfl] at hl
  obtain ⟨c0, c1, rfl⟩ := list2 hl
  obtain ⟨y0, y1, rfl⟩ := list2 hlen
  have g0 := hg 0 _ rfl
  simp only [List.getElem_toArray, List.getElem_cons_zero, List.getElem_cons_succ, show Try.prog.cellsOf 3 = 1 from by kernel_rfl, List.drop_zero, List.drop_succ_cons, List.take_succ_cons, List.take_zero, List.getElem?_cons_zero, List.getElem?_cons_succ] at g0
  obtain ⟨a0, q0, rfl, w0⟩ := DataW.trod_int Try.underlying3 g0
  obtain rfl : c0 = .int .i64 a0 := by simpa using q0
  have g1 := hg 1 _ rfl
  simp only [List.getElem_toArray, List.getElem_cons_zero, List.getElem_cons_succ, show Try.prog.cellsOf 29 = 1 from by kernel_rfl, List.drop_zero, List.drop_succ_cons, List.take_succ_cons, List.take_zero, List.getElem?_cons_zero, List.getElem?_cons_succ] at g1
  obtain ⟨a, len, cap, rfl⟩ : ∃ a len cap, c1 = .slice a len cap := by
    rcases open_slice Try.underlying29 g1 with ⟨hcs, -⟩ | ⟨a', len', cap', m, n, D, Pl, hcs, -⟩
    · exact ⟨none, 0, 0, by simpa using hcs⟩
    · exact ⟨_, _, _, by simpa using hcs⟩
  obtain ⟨l, h1, h2⟩ := open_its g1 (fun n hn => hs n (by
    simp only [DataW.weights, Try.underlying35, List.map_cons, List.map_nil, DataW.weightsEach]
    simp [DataW.weightsEach, hn]))
  exact ⟨⟨a0, _, l⟩, rfl, h1, h2, wf_i64 w0⟩
/-- A slice of acts that came in reads as acts. -/
theorem open_acts {H : Type} {enc : TypeId × Value → H} {w : World} {fuel : Nat} {a : Option Addr} {len cap : Nat} {x : DataW H × List MemPlace}
    (h : DataW.trod enc Try.prog w 0 (fun _ => true) true fuel 22 [.slice a len cap] = some x) (hs : ∀ n ∈ x.1.weights Try.prog 22, n ≤ 140737488351232) :
    ∃ l : List Ac, ActsAt w (.slice a len cap) l ∧ ∀ f ∈ l, f.good w := by
  rcases Go.Deep.open_slice Try.underlying22 h with ⟨hcs, hx⟩ | ⟨a', len', cap', m, n, D, Pl, hcs, -, hl, hm, hmm, rfl, hx⟩
  · simp only [List.cons.injEq, Value.slice.injEq, and_true] at hcs
    obtain ⟨rfl, rfl, rfl⟩ := hcs
    exact ⟨[], ⟨none, 0, rfl, by simp, .inl rfl⟩, by simp⟩
  · simp only [List.cons.injEq, Value.slice.injEq, and_true] at hcs
    obtain ⟨rfl, rfl, rfl⟩ := hcs
    have hml : len ≤ m := by rw [hmm]; split <;> omega
    have key : ∀ i, i < len → ∃ f : Ac, w.cells? 0 (a'.add (i * 2)) 2 = some [.int .i64 f.k, f.v] ∧ f.good w := fun i hi => by
      obtain ⟨cs', h1, h2⟩ := hx i (by omega)
      rw [show Try.prog.cellsOf 35 = 2 from by kernel_rfl] at h1
      obtain ⟨f, rfl, ok⟩ := open_act h2 (fun n hn => hs n (by
        simp only [DataW.weights, Try.underlying22]
        refine List.mem_cons_of_mem _ (List.mem_append_left _ (weightsAll_mem' (d := D i) (List.mem_map.2 ⟨i, List.mem_range.2 hi, rfl⟩) n hn))))
      exact ⟨f, h1, ok⟩
    haveI : Inhabited Ac := ⟨⟨0, .slice none 0 0, []⟩⟩
    obtain ⟨F, hF⟩ := Go.Deep.choose_lt key
    have hlen : ((List.range len).map F).length = len := by simp
    refine ⟨(List.range len).map F, ⟨some a', cap, by rw [hlen], by rw [hlen]; unfold maxLen at hm; omega, ?_⟩, ?_⟩
    · by_cases h0 : len = 0
      · subst h0; exact .inl rfl
      · right
        have hc0 := (hF 0 (by omega)).1
        obtain ⟨b, o, spot⟩ := a'
        have hc := (World.cells?_some hc0)
        have hsp : spot = none := by
          have := hc.2.2 0 (by omega)
          rw [show [Value.int .i64 (F 0).k, (F 0).v][0]? = some (.int .i64 (F 0).k) from rfl] at this
          simpa [Addr.add] using World.cell?_spot this
        subst hsp
        refine ⟨b, o, rfl, by have := World.cells?_block hc0 (by omega); simpa [Addr.add] using this, fun i f hi => ?_⟩
        have hil : i < len := by have := (List.getElem?_eq_some_iff.1 hi).1; simpa using this
        have hf : F i = f := by simpa [hil] using hi
        subst hf
        have h0 := (World.cells?_some (hF i hil).1).2.2 0 (by omega)
        have h1 := (World.cells?_some (hF i hil).1).2.2 1 (by omega)
        rw [add_off', add_off'] at h0 h1
        exact ⟨h0, h1⟩
    · intro f hf
      obtain ⟨i, hi, rfl⟩ := List.mem_map.1 hf
      exact (hF i (List.mem_range.1 hi)).2
end Go.Proofs.Ytdljddghbkcddaa
