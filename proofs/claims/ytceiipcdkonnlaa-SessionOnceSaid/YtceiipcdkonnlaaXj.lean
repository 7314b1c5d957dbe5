/-
  LAYER 25: the texts of packets that are sent for the first time.
-/
import Derived.Test.YtceiipcdkonnlaaXf
namespace Go.Proofs.Ytceiipcdkonnlaa.Ses
open Go.RowKit Que Hp Ids Fli
set_option linter.unusedSimpArgs false
set_option linter.unusedVariables false
/-- What firsts looks at: the kind, whether it is sent again, the text. -/
abbrev Dk := Int × Bool × ByteArray
def stL (l : List ByteArray) : List Value := l.map Value.string
def isF (d : Dk) : Bool := d.1 == 3 && !d.2.1
def fst (D : List Dk) : List ByteArray := (D.filter isF).map fun d => d.2.2
theorem fst_append (D E : List Dk) : fst (D ++ E) = fst D ++ fst E := by simp [fst]
theorem fst_len (D : List Dk) : (fst D).length ≤ D.length := by simp only [fst, List.length_map]; exact List.length_filter_le _ _
def PkAt (w : World) (v : Value) (D : List Dk) : Prop := ∃ a c, v = .slice a D.length c ∧ (D = [] ∨ ∃ g, a = some ⟨g, 0, none⟩ ∧ g < w.heap.size ∧ ∀ i d, D[i]? = some d → w.cell? ⟨g, i * 24, none⟩ = some (.int .i64 d.1) ∧ w.cell? ⟨g, i * 24 + 2, none⟩ = some (.bool d.2.1) ∧ w.cell? ⟨g, i * 24 + 4, none⟩ = some (.string d.2.2))
theorem PkAt.of_own {w : World} {B : Nat} {v : Value} {D : List Dk} {xs : List Value} (o : w.ownsRow B 78 24 v D.length xs) (h : ∀ i d, D[i]? = some d → xs[i * 24]? = some (.int .i64 d.1) ∧ xs[i * 24 + 2]? = some (.bool d.2.1) ∧ xs[i * 24 + 4]? = some (.string d.2.2)) : PkAt w v D := by
  by_cases hD : D = []
  · subst hD
    obtain ⟨a, c, rfl⟩ := own_slice o
    exact ⟨a, c, rfl, .inl rfl⟩
  · obtain ⟨g, c, rfl⟩ := own_slice' o (List.length_pos_iff.2 hD)
    refine ⟨_, c, rfl, .inr ⟨g, rfl, (o.lt g rfl).2, fun i d hd => ?_⟩⟩
    obtain ⟨h1, h2, h3⟩ := h i d hd
    exact ⟨own_get o h1, own_get o h2, own_get o h3⟩
theorem info9 : (Try.prog.info? 9).map (fun i => (i.zero, i.size, i.bytes)) = some (some (.string ⟨#[]⟩), 1, 16) := by kernel_rfl
theorem cell_one (w : World) (v : Value) (t : TypeId) : ∀ j u, [v][j]? = some u → (w.alloc (.cells #[v] t)).cell? ((⟨w.heap.size, 0, none⟩ : Addr).add j) = some u := by
  intro j u hj
  have hj0 : j = 0 := by
    rcases j with _ | j
    · rfl
    · simp at hj
  subst hj0
  rw [add_off', cell_of_row _ _ 0 #[v] t (0, 0) (heap_alloc_new w _)]
  simpa using hj
def FirIs (D : List Dk) (w : World) (e : Ending) (w' : World) : Prop := ∃ v, e = .returned v ∧ w'.ownsRow w.heap.size 9 1 v (fst D).length (stL (fst D)) ∧ Below w.heap.size w w'
set_option maxHeartbeats 4000000 in
set_option maxRecDepth 100000 in
theorem firsts_any {w : World} {v : Value} {D : List Dk} (h : PkAt w v D) (hD : D.length ≤ 100) : Calls Try.prog 10 #[v] w (FirIs D w) := by
  obtain ⟨a, c, rfl, hc⟩ := h
  obtain ⟨i3, hi3, hz0, hz1, hz2⟩ := info_parts info9
  have hD' : (D.length : Int) ≤ 100 := by omega
  replace hc := Lib.hid hc
  go_enter Try.func10, Try.ntmps10
  go_wp2_with fail
  go_loopw [3, 4] (fun v iv wr => ∃ k : Nat, iv = .int .i64 (k : Int) ∧ k ≤ D.length ∧ wr.ownsRow w.heap.size 9 1 v (fst (D.take k)).length (stL (fst (D.take k))) ∧ Below w.heap.size w wr) (fun _ iv _ => D.length - (intOf iv).toNat)
  case atStart => exact ⟨0, rfl, by omega, World.ownsRow_nil _ _ _ _, Below.refl _ _⟩
  case round =>
    obtain ⟨k, rfl, hk, o, hb⟩ := hrel
    by_cases hlt : k < D.length
    · have hlt' : (k : Int) < (D.length : Int) := by omega
      obtain ⟨d, hd⟩ : ∃ d, D[k]? = some d := ⟨_, List.getElem?_eq_getElem hlt⟩
      obtain ⟨g, rfl, hg, hcell⟩ := hc.out.resolve_left (fun e => by subst e; simp at hlt)
      obtain ⟨q0, q2, q4⟩ := hcell k d hd
      have c0 := (hb.cell (p := ⟨g, k * 24, none⟩) hg).trans q0
      have c2 := (hb.cell (p := ⟨g, k * 24 + 2, none⟩) hg).trans q2
      have c4 := (hb.cell (p := ⟨g, k * 24 + 4, none⟩) hg).trans q4
      have E : D.take (k + 1) = D.take k ++ [d] := by
        obtain ⟨h1, h2⟩ := List.getElem?_eq_some_iff.1 hd
        rw [List.take_succ_eq_append_getElem h1, h2]
      have hM : (fst (D.take k)).length ≤ 100 := by
        have := fst_len (D.take k)
        rw [List.length_take] at this
        omega
      have sz := hb.size
      clear q0 q2 q4 hcell
      obtain ⟨M, hMe⟩ : ∃ M, M = fst (D.take k) := ⟨_, rfl⟩
      rw [← hMe] at o hM
      obtain ⟨d1, d2, d3⟩ := d
      simp only at c0 c2 c4
      have HB := Lib.hid hb
      replace o := Lib.hid o
      replace E := Lib.hid E
      replace hMe := Lib.hid hMe
      clear hb hd
      by_cases h3 : d1 = 3
      · subst h3
        cases d2 with
        | true =>
          have hno : fst (D.take (k + 1)) = M := by rw [E.out, fst_append, hMe.out]; simp [fst, isF]
          replace hno := Lib.hid hno
          go_wp2_with fail
          go_roundw
          case rel => exact ⟨k + 1, by simp, by omega, by rw [hno.out]; exact o.out, HB.out⟩
          case measure => simp [intOf]; omega
        | false =>
          have hyes : fst (D.take (k + 1)) = M ++ [d3] := by rw [E.out, fst_append, hMe.out]; simp [fst, isF]
          replace hyes := Lib.hid hyes
          obtain ⟨va, vc, rfl⟩ := own_slice o.out
          have oA := Lib.hid (own_keep o.out (ext_alloc wr (.cells #[.string d3] 9)))
          have hnew := Lib.hid (cell_one wr (.string d3) 9)
          go_wp2_with (first
            | (at_builtin; go_loud (refine wpList_append_own _ rfl (.tmp 25) (.tmp 32) 28 rfl w.heap.size 9 i3 (.string ⟨#[]⟩) 1 16 Try.underlying28 hi3 hz0 hz1 hz2 rfl (by decide) (.slice va M.length vc) M.length (stL M) rfl oA.out ⟨wr.heap.size, 0, none⟩ 1 1 [.string d3] rfl rfl hnew.out (by intro u hu; simp at hu; subst hu; rfl) (by unfold maxLen; omega) (by omega) (by simp; omega) ?_); intro v3 w3 o3 g3 _))
          go_roundw
          case rel => exact ⟨k + 1, by simp, by omega, by rw [hyes.out]; simpa [stL] using o3, (HB.out.alloc sz _).grown g3 (by simp; omega) (fun j hj => (oA.out.lt j hj).1)⟩
          case measure => simp [intOf]; omega
      · have hne : (d1 == 3) = false := by simpa using h3
        have hno : fst (D.take (k + 1)) = M := by rw [E.out, fst_append, hMe.out]; simp [fst, isF, h3]
        replace hno := Lib.hid hno
        go_wp2_with fail
        go_roundw
        case rel => exact ⟨k + 1, by simp, by omega, by rw [hno.out]; exact o.out, HB.out⟩
        case measure => simp [intOf]; omega
    · obtain rfl : k = D.length := by omega
      rw [List.take_length] at o
      have o' := Lib.hid o
      have HB := Lib.hid hb
      clear hb hk o
      go_wp2_with fail
      go_ret
      exact ⟨_, rfl, o'.out, HB.out⟩
end Go.Proofs.Ytceiipcdkonnlaa.Ses
