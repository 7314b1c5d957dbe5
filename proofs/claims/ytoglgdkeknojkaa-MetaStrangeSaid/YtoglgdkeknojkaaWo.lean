/-
  LAYER 3: a slice of fields that came in.
-/
import Derived.Test.YtoglgdkeknojkaaWh
import Derived.OpenShut
import Derived.SizedLaws
import Derived.Deep.Slices
namespace Go.Proofs.Ytoglgdkeknojkaa
open Go.RowKit

theorem list_4 {α : Type} {l : List α} (h : l.length = 4) : ∃ x0 x1 x2 x3, l = [x0, x1, x2, x3] := by
  match l, h with
  | [x0, x1, x2, x3], _ => exact ⟨_, _, _, _, rfl⟩
theorem open_fd {H : Type} {enc : TypeId × Value → H} {w : World} {base : Nat} {spare : Nat → Bool} {held : Bool} {fuel : Nat} {cs : List Value} {x : DataW H × List MemPlace}
    (h : DataW.trod enc Try.prog w base spare held fuel 41 cs = some x) (hs : ∀ n ∈ x.1.weights Try.prog 41, n ≤ 140737488351232) : ∃ f : Fd, cs = f.cells ∧ f.ok := by
  obtain ⟨xs, n, -, rfl, hl, hlen, hg⟩ := DataW.trod_struct Try.underlying41 h
  rw [show Try.prog.cellsOf 41 = 4 from by kernel_rfl] at hl
  obtain ⟨c0, c1, c2, c3, rfl⟩ := list_4 hl
  obtain ⟨y0, y1, y2, y3, rfl⟩ := list_4 hlen
  have g0 := hg 0 _ rfl
  simp only [List.getElem_toArray, List.getElem_cons_zero, List.getElem_cons_succ, show Try.prog.cellsOf 3 = 1 from by kernel_rfl, List.drop_zero, List.drop_succ_cons, List.take_succ_cons, List.take_zero, List.getElem?_cons_zero, List.getElem?_cons_succ] at g0
  obtain ⟨a0, q0, rfl, w0⟩ := DataW.trod_int Try.underlying3 g0
  obtain rfl : c0 = .int .i64 a0 := by simpa using q0
  have g1 := hg 1 _ rfl
  simp only [List.getElem_toArray, List.getElem_cons_zero, List.getElem_cons_succ, show Try.prog.cellsOf 3 = 1 from by kernel_rfl, List.drop_zero, List.drop_succ_cons, List.take_succ_cons, List.take_zero, List.getElem?_cons_zero, List.getElem?_cons_succ] at g1
  obtain ⟨a1, q1, rfl, w1⟩ := DataW.trod_int Try.underlying3 g1
  obtain rfl : c1 = .int .i64 a1 := by simpa using q1
  have g2 := hg 2 _ rfl
  simp only [List.getElem_toArray, List.getElem_cons_zero, List.getElem_cons_succ, show Try.prog.cellsOf 22 = 1 from by kernel_rfl, List.drop_zero, List.drop_succ_cons, List.take_succ_cons, List.take_zero, List.getElem?_cons_zero, List.getElem?_cons_succ] at g2
  obtain ⟨a2, q2, rfl, w2⟩ := DataW.trod_int Try.underlying22 g2
  obtain rfl : c2 = .int .u64 a2 := by simpa using q2
  have g3 := hg 3 _ rfl
  simp only [List.getElem_toArray, List.getElem_cons_zero, List.getElem_cons_succ, show Try.prog.cellsOf 9 = 1 from by kernel_rfl, List.drop_zero, List.drop_succ_cons, List.take_succ_cons, List.take_zero, List.getElem?_cons_zero, List.getElem?_cons_succ] at g3
  obtain ⟨a3, q3, rfl, w3⟩ := DataW.trod_string Try.underlying9 g3
  obtain rfl : c3 = .string a3 := by simpa using q3
  have b2 := wf_u64 w2
  refine ⟨⟨a0, a1, a2.toNat, a3⟩, ?_, wf_i64 w0, wf_i64 w1, by simp only; omega, ?_⟩
  · simp only [Fd.cells]
    rw [show ((a2.toNat : Nat) : Int) = a2 by omega]
  · have := hs a3.data.toList.length (by simp [DataW.weights, DataW.weightsEach, Try.underlying41, Try.underlying9])
    simpa using this
theorem weightsAll_mem {H : Type} {P : Program} {e : TypeId} {d : DataW H} : ∀ {l : List (DataW H)}, d ∈ l → ∀ n ∈ d.weights P e, n ∈ DataW.weightsAll P e l
  | x :: l, h, n, hn => by
    rw [DataW.weightsAll]
    rcases List.mem_cons.1 h with rfl | h
    · exact List.mem_append_left _ hn
    · exact List.mem_append_right _ (weightsAll_mem h n hn)
theorem add_off (b o i : Nat) : (⟨b, o, none⟩ : Addr).add i = ⟨b, o + i, none⟩ := by unfold Addr.add; split <;> simp_all
/-- A slice of fields that came in reads as fields. -/
theorem open_fds {H : Type} {enc : TypeId × Value → H} {w : World} {fuel : Nat} {a : Option Addr} {len cap : Nat} {x : DataW H × List MemPlace}
    (h : DataW.trod enc Try.prog w 0 (fun _ => true) true fuel 39 [.slice a len cap] = some x) (hs : ∀ n ∈ x.1.weights Try.prog 39, n ≤ 140737488351232) :
    ∃ l : List Fd, FdsAt w (.slice a len cap) l ∧ ∀ f ∈ l, f.ok := by
  rcases Go.Deep.open_slice Try.underlying39 h with ⟨hcs, hx⟩ | ⟨a', len', cap', m, n, D, Pl, hcs, -, hl, hm, hmm, rfl, hx⟩
  · simp only [List.cons.injEq, Value.slice.injEq, and_true] at hcs
    obtain ⟨rfl, rfl, rfl⟩ := hcs
    exact ⟨[], fds_nil _, by simp⟩
  · simp only [List.cons.injEq, Value.slice.injEq, and_true] at hcs
    obtain ⟨rfl, rfl, rfl⟩ := hcs
    have hml : len ≤ m := by rw [hmm]; split <;> omega
    have key : ∀ i, i < len → ∃ f : Fd, w.cells? 0 (a'.add (i * 4)) 4 = some f.cells ∧ f.ok := fun i hi => by
      obtain ⟨cs', h1, h2⟩ := hx i (by omega)
      rw [show Try.prog.cellsOf 41 = 4 from by kernel_rfl] at h1
      obtain ⟨f, rfl, ok⟩ := open_fd h2 (fun n hn => hs n (by
        simp only [DataW.weights, Try.underlying39]
        refine List.mem_cons_of_mem _ (List.mem_append_left _ (weightsAll_mem (d := D i) (List.mem_map.2 ⟨i, List.mem_range.2 hi, rfl⟩) n hn))))
      exact ⟨f, h1, ok⟩
    haveI : Inhabited Fd := ⟨⟨0, 0, 0, ⟨#[]⟩⟩⟩
    obtain ⟨F, hF⟩ := Go.Deep.choose_lt key
    have hlen : ((List.range len).map F).length = len := by simp
    refine ⟨(List.range len).map F, ⟨some a', cap, by rw [hlen], by rw [hlen]; unfold maxLen at hm; omega, ?_⟩, ?_⟩
    · by_cases h0 : len = 0
      · subst h0; exact .inl rfl
      · right
        have hc0 := (hF 0 (by omega)).1
        obtain ⟨b, o, spot⟩ := a'
        have hc := (World.cells?_some hc0)
        have hsp : spot = none := by
          have := hc.2.2 0 (by omega)
          rw [show (Fd.cells (F 0))[0]? = some (.int .i64 (F 0).num) from rfl] at this
          simpa [Addr.add] using World.cell?_spot this
        subst hsp
        refine ⟨b, o, rfl, by have := World.cells?_block hc0 (by omega); simpa [Addr.add] using this, fun i f hi => ?_⟩
        have hil : i < len := by have := (List.getElem?_eq_some_iff.1 hi).1; simpa using this
        have hf : F i = f := by simpa [hil] using hi
        subst hf
        intro j u hj
        have hj4 : j < 4 := (List.getElem?_eq_some_iff.1 hj).1
        have := (World.cells?_some (hF i hil).1).2.2 j hj4
        rw [add_off, add_off] at this
        rw [this, hj]
    · intro f hf
      obtain ⟨i, hi, rfl⟩ := List.mem_map.1 hf
      exact (hF i (List.mem_range.1 hi)).2
end Go.Proofs.Ytoglgdkeknojkaa
