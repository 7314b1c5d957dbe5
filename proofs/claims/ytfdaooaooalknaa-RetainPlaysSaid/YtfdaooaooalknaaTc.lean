/-
  LAYER 18: covers, the program's.
-/
import Derived.Test.YtfdaooaooalknaaTb
import Derived.Test.YtfdaooaooalknaaSf
import Derived.Laws.EntriesVeiled
namespace Go.Proofs.Ytfdaooaooalknaa
set_option linter.unusedSimpArgs false
set_option linter.unusedVariables false
open Go.RowKit

/-- Does a text's first level stand for more than itself? -/
def leadB (s : ByteArray) : Bool := (stK ((spS s).getD 0 ⟨#[]⟩) != 0)
def coverB (a b : ByteArray) : Bool := !(leadB a && hidB b) && covF (spS a) (spS b)
theorem stAt_of {w : World} {B g cap : Nat} {ss : List ByteArray} (h : w.ownsRow B 61 2 (.slice (some ⟨g, 0, none⟩) ss.length cap) ss.length (sts ss)) : StAt w g ss := by
  obtain ⟨h1, h2⟩ := h
  rcases h2 with ⟨hn, _⟩ | ⟨g', cap', cur, hv, hb, hg, hnc, hcm, hcs, ht⟩
  · cases hn
  · simp only [Value.slice.injEq] at hv
    obtain ⟨hga, -, -⟩ := hv
    simp only [Option.some.injEq, Addr.mk.injEq, and_true] at hga
    subst hga
    refine ⟨(Array.getElem?_eq_some_iff.1 hg).1, fun i x hx => ?_⟩
    have hi : i < ss.length := (List.getElem?_eq_some_iff.1 hx).1
    have hu : ∀ (l : List ByteArray) (i : Nat), l[i]? = some x → (sts l)[i * 2]? = some (.int .i64 (stK x)) ∧ (sts l)[i * 2 + 1]? = some (.string (stT x)) := by
      intro l
      induction l with
      | nil => intro i h; simp at h
      | cons y l ih =>
        intro i h
        have e : sts (y :: l) = .int .i64 (stK y) :: .string (stT y) :: sts l := by simp [sts, stV_is]
        cases i with
        | zero => simp at h; subst h; rw [e]; simp
        | succ i =>
          simp only [List.getElem?_cons_succ] at h
          have := ih i h
          rw [e, show (i + 1) * 2 = i * 2 + 1 + 1 by omega]
          simpa using this
    obtain ⟨u1, u2⟩ := hu ss i hx
    rw [← ht, List.getElem?_take] at u1 u2
    refine ⟨?_, ?_⟩
    · rw [cell_of_row w g (i * 2) cur 61 (0, 0) hg]
      split at u1
      · simpa using u1
      · cases u1
    · rw [cell_of_row w g (i * 2 + 1) cur 61 (0, 0) hg]
      split at u2
      · simpa using u2
      · cases u2
theorem steps_slice {w : World} {B : Nat} {v : Value} {ss : List ByteArray} (h : w.ownsRow B 61 2 v ss.length (sts ss)) (hn : ss.length ≠ 0) : ∃ g cap, v = .slice (some ⟨g, 0, none⟩) ss.length cap ∧ StAt w g ss := by
  have h' := h
  obtain ⟨h1, h2⟩ := h
  rcases h2 with ⟨rfl, h0⟩ | ⟨g, cap, cur, rfl, -⟩
  · exact absurd h0 hn
  · exact ⟨g, cap, rfl, stAt_of h'⟩
theorem cell_new (w : World) (v : Value) (t : TypeId) : (w.alloc (.cells #[v] t)).cell? ⟨w.heap.size, 0, none⟩ = some v := by
  rw [World.cell?_alloc_at _ _ _ _ rfl]; rfl
def two (w : World) (a c : Value) : World := (w.alloc (.cells #[a] 58)).alloc (.cells #[c] 58)
theorem two_below (w : World) (a c : Value) : Below w.heap.size w (two w a c) := (ext_alloc w _).alloc (by simp) _
theorem cov_new {w w3 : World} {ga ca gb cb : Nat} {A C : List ByteArray} (s1 : StAt w ga A) (s2 : StAt w gb C) (hb : Below (two w (.slice (some ⟨ga, 0, none⟩) A.length ca) (.slice (some ⟨gb, 0, none⟩) C.length cb)).heap.size (two w (.slice (some ⟨ga, 0, none⟩) A.length ca) (.slice (some ⟨gb, 0, none⟩) C.length cb)) w3) {r : Nat} (hr : r = w3.heap.size) :
    CovW (w3.alloc (.cells #[.func (.func 41) #[] #[.pointer (some ⟨w.heap.size, 0, none⟩), .pointer (some ⟨w.heap.size + 1, 0, none⟩), .pointer (some ⟨r, 0, none⟩)]] 62)) w.heap.size (w.heap.size + 1) r ga ca gb cb A C := by
  subst hr
  have c1 := cell_new w (.slice (some ⟨ga, 0, none⟩) A.length ca) 58
  have c2 := cell_new (w.alloc (.cells #[.slice (some ⟨ga, 0, none⟩) A.length ca] 58)) (.slice (some ⟨gb, 0, none⟩) C.length cb) 58
  rw [show (w.alloc (.cells #[.slice (some ⟨ga, 0, none⟩) A.length ca] 58)).heap.size = w.heap.size + 1 by simp] at c2
  have e0 := two_below w (.slice (some ⟨ga, 0, none⟩) A.length ca) (.slice (some ⟨gb, 0, none⟩) C.length cb)
  have c1' : (two w (.slice (some ⟨ga, 0, none⟩) A.length ca) (.slice (some ⟨gb, 0, none⟩) C.length cb)).cell? ⟨w.heap.size, 0, none⟩ = some (.slice (some ⟨ga, 0, none⟩) A.length ca) := ((ext_alloc _ _).cell (by simp)).trans c1
  have e1 := ext_trans hb (ext_alloc w3 (.cells #[.func (.func 41) #[] #[.pointer (some ⟨w.heap.size, 0, none⟩), .pointer (some ⟨w.heap.size + 1, 0, none⟩), .pointer (some ⟨w3.heap.size, 0, none⟩)]] 62))
  have hs : (two w (.slice (some ⟨ga, 0, none⟩) A.length ca) (.slice (some ⟨gb, 0, none⟩) C.length cb)).heap.size = w.heap.size + 1 + 1 := by simp [two]
  exact ⟨(e1.cell (by rw [hs]; simp only; omega)).trans c1', (e1.cell (by rw [hs]; simp only; omega)).trans c2, cell_new w3 _ 62, (s1.keep e0).keep e1, (s2.keep e0).keep e1⟩
set_option maxHeartbeats 2000000 in
set_option maxRecDepth 100000 in
theorem covers_any (a b : ByteArray) (w : World) (ha : a.size ≤ 1048576) (hb : b.size ≤ 1048576) : Calls Try.prog 26 #[.string a, .string b] w (BoolIs (coverB a b) w) := by
  have S1 := Lib.hid (fun w => steps_any a w ha)
  have S2 := Lib.hid (fun w => steps_any b w hb)
  have H := Lib.hid (fun w => hidden_any b w)
  unfold coverB leadB
  have l1 := spS_le a
  have l2 := spS_le b
  have p1 := spS_pos a
  have p2 := spS_pos b
  obtain ⟨x, hx⟩ : ∃ x, (spS a)[0]? = some x := ⟨_, List.getElem?_eq_getElem (by omega)⟩
  have hx0 : (spS a).getD 0 ⟨#[]⟩ = x := by simp [List.getD, hx]
  rw [hx0]
  generalize spS a = A at *
  generalize spS b = C at *
  generalize hidB b = hd at *
  have la : A.length ≤ 1048577 := by omega
  have lb : C.length ≤ 1048577 := by omega
  have la' : (0 : Int) < (A.length : Int) := by omega
  have la0 : A.length ≠ 0 := by omega
  have lb0 : C.length ≠ 0 := by omega
  replace hx := Lib.hid hx
  replace la0 := Lib.hid la0
  replace lb0 := Lib.hid lb0
  clear l1 l2 p1 p2 hx0 ha hb
  go_enter Try.func26, Try.ntmps26
  go_wp2_with fail
  refine (S1.out _).mono ?_
  rintro e w1 ⟨v1, rfl, o1, b1⟩
  obtain ⟨ga, ca, rfl, s1⟩ := steps_slice o1 la0.out
  replace b1 := Lib.hid b1
  replace s1 := Lib.hid s1
  clear o1
  go_wp2_with fail
  refine (S2.out _).mono ?_
  rintro e w2 ⟨v2, rfl, o2, b2⟩
  obtain ⟨gb, cb, rfl, s2⟩ := steps_slice o2 lb0.out
  have B2 := Lib.hid (ext_trans b1.out b2)
  replace s1 := Lib.hid (s1.out.keep b2)
  replace s2 := Lib.hid s2
  clear o2 b2
  obtain ⟨x1, x2⟩ := s1.out.2 0 x hx.out
  have lg : ga < w2.heap.size := s1.out.1
  have lg2 : gb < w2.heap.size := s2.out.1
  generalize hk : stK x = kx at *
  clear x2
  replace hk := Lib.hid hk
  have hcov : ∀ W r, CovW W w2.heap.size (w2.heap.size + 1) r ga ca gb cb A C →
      Calls Try.prog 41 #[.int .i64 0, .int .i64 0, .pointer (some ⟨w2.heap.size, 0, none⟩), .pointer (some ⟨w2.heap.size + 1, 0, none⟩), .pointer (some ⟨r, 0, none⟩)] W (BoolIs (covF A C) W) := fun W r hW => by
    have := cov_any w2.heap.size (w2.heap.size + 1) r ga ca gb cb A C la lb A.length 0 0 W (by omega) (by omega) (by omega) hW
    simpa using this
  replace hcov := Lib.hid hcov
  generalize covF A C = R at *
  have e2 := Lib.hid (two_below w2 (.slice (some ⟨ga, 0, none⟩) A.length ca) (.slice (some ⟨gb, 0, none⟩) C.length cb))
  cases hkb : (kx != 0) with
  | false =>
    go_wp2_with fail
    have e3 := Lib.hid (ext_trans (ext_trans B2.out e2.out) (ext_alloc _ (.cells #[.func (.func 41) #[] #[.pointer (some ⟨w2.heap.size, 0, none⟩), .pointer (some ⟨w2.heap.size + 1, 0, none⟩), .pointer (some ⟨w2.heap.size + 1 + 1, 0, none⟩)]] 62)))
    refine (hcov.out _ _ (cov_new s1.out s2.out (Below.refl _ _) (by simp [two]))).mono ?_
    rintro e w4 ⟨rfl, b4⟩
    have b5 := Lib.hid (ext_trans e3.out b4)
    clear b4
    go_wp2_with fail
    go_ret
    exact ⟨by simp [hkb], b5.out⟩
  | true =>
    go_wp2_with fail
    refine (H.out _).mono ?_
    rintro e w3 ⟨rfl, b3⟩
    replace b3 := Lib.hid b3
    have e3 := Lib.hid (ext_trans (ext_trans B2.out e2.out) b3.out)
    cases hd with
    | true =>
      go_wp2_with fail
      go_ret
      exact ⟨by simp [hkb], e3.out⟩
    | false =>
      go_wp2_with fail
      have e4 := Lib.hid (ext_trans e3.out (ext_alloc _ (.cells #[.func (.func 41) #[] #[.pointer (some ⟨w2.heap.size, 0, none⟩), .pointer (some ⟨w2.heap.size + 1, 0, none⟩), .pointer (some ⟨w3.heap.size, 0, none⟩)]] 62)))
      refine (hcov.out _ _ (cov_new s1.out s2.out b3.out rfl)).mono ?_
      rintro e w4 ⟨rfl, b4⟩
      have b5 := Lib.hid (ext_trans e4.out b4)
      clear b4
      go_wp2_with fail
      go_ret
      exact ⟨by simp, b5.out⟩
end Go.Proofs.Ytfdaooaooalknaa
